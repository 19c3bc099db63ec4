/-
  Words for memory: copy in a block known whole, elements of s cells; what an insertion leaves. No walk.
-/
import Derived.Test.YtiiobafcgdelmaaK03
import Derived.Laws.IdiomCopy
import Derived.Lib.AppendZerosOnto
import Derived.Lib.Overlaps
import Derived.Shelf.RegionOpenPlain
namespace Go.Proofs.Ytiiobafcgdelmaa
open Go.RowKit Go.Lib
set_option linter.unusedVariables false

theorem run_copy_s {P : Program} (w : World) (dT sT ty e : TypeId) (s : Nat) (b o dLen dCap : Nat) (a : Addr) (sLen sCap : Nat) (cs : List Value)
    (hu : P.underlying dT = some (.slice e)) (hs : (P.info? e).map (·.size) = some s) (hn : cs.length = Nat.min sLen dLen * s)
    (hsrc : ∀ j v, cs[j]? = some v → w.cell? (a.add j) = some v) (hc : ∀ j, j < cs.length → (w.cell? ⟨b, o + j, none⟩).isSome = true) (hf : ∀ j, j < cs.length → w.frozen? ⟨b, o + j, none⟩ = false) (h1 : ∀ v ∈ cs, v.oneCell' = true) :
    (Builtin.copy_ #[dT, sT] ty #[.slice (some ⟨b, o, none⟩) dLen dCap, .slice (some a) sLen sCap]).run P w = .ok (goInt (Nat.min sLen dLen)) (w.setCells b o cs) := by
  have hl := run_loadCells_list (P := P) w a cs hsrc
  have hst := run_storeCells_cells (P := P) b o cs 0 w (by simpa using hc) (by simpa using hf) h1
  cases hq : P.info? e with
  | none => simp [hq] at hs
  | some i =>
    have hi : i.size = s := by simpa [hq] using hs
    simp only [hn] at hl
    simp [Builtin.copy_, run_underlying hu, Builtin.lenOf, Builtin.firstCells, sizeOf, typeInfo, hq, hi, hl, hst]

/-- the block whose cells are set -/
theorem box_setCells {g : Nat} {t : TypeId} : ∀ (vs : List Value) (o : Nat) (w : World) (cs : Array Value), Box w g t cs → o + vs.length ≤ cs.size →
    ∃ cs', Box (w.setCells g o vs) g t cs' ∧ cs'.toList = cs.toList.take o ++ vs ++ cs.toList.drop (o + vs.length)
  | [], o, w, cs, h, _ => ⟨cs, h, by simp⟩
  | v :: r, o, w, cs, h, hl => by
    simp only [List.length_cons] at hl
    obtain ⟨cs', h1, h2⟩ := box_setCells r (o + 1) (w.setCell ⟨g, o, none⟩ v) (cs.setIfInBounds o v) (h.stored o v) (by simp; omega)
    refine ⟨cs', h1, ?_⟩
    rw [h2]
    have e : (cs.setIfInBounds o v).toList = cs.toList.set o v := by simp
    have hol : o < cs.toList.length := by simp; omega
    rw [e, List.drop_set_of_lt (by omega), show o + 1 + r.length = o + (v :: r).length by simp; omega]
    congr 1
    rw [List.take_succ_eq_append_getElem (by simpa using hol), List.take_set_of_le (Nat.le_refl _)]
    simp
theorem grown_setCells (g : Nat) : ∀ (vs : List Value) (o : Nat) (w : World), w.grownBy (w.setCells g o vs) (some g)
  | [], o, w => World.grownBy.refl w _
  | v :: r, o, w => by
    have h := grown_setCells g r (o + 1) (w.setCell ⟨g, o, none⟩ v)
    have h0 : w.grownBy (w.setCell ⟨g, o, none⟩ v) (some g) := ⟨rfl, rfl, rfl, by simp [World.setCell], fun k hk hne => Below.heap_setCell _ _ _ _ (by intro e; apply hne; rw [e])⟩
    exact grown_more h0 h (.inl rfl)
theorem set_tail_first {L xs ys vs : List Value} {a s r : Nat} (h1 : L.take a = xs) (hv : vs.length = s) (hy : ys.length = r) (hl : a + s + r ≤ L.length) (hx : xs.length = a) {L1 L2 : List Value}
    (e1 : L1 = L.take (a + s) ++ ys ++ L.drop (a + s + ys.length)) (e2 : L2 = L1.take a ++ vs ++ L1.drop (a + vs.length)) : L2.take (a + s + r) = xs ++ vs ++ ys ∧ L2.length = L.length := by
  have ha : (L.take (a + s)).length = a + s := by rw [List.length_take]; omega
  have t1 : L1.take a = xs := by
    rw [e1, List.append_assoc, List.take_append_of_le_length (by omega), List.take_take, Nat.min_eq_left (by omega), h1]
  have t2 : L1.drop (a + vs.length) = ys ++ L.drop (a + s + ys.length) := by
    rw [e1, hv, List.append_assoc, List.drop_append_of_le_length (by omega), List.drop_eq_nil_of_le (by omega), List.nil_append]
  constructor
  · rw [e2, t1, t2, ← List.append_assoc, List.take_append_of_le_length (by simp; omega), List.take_of_length_le (by simp; omega)]
  · rw [e2, t1, t2]
    simp
    omega
theorem set_new_first {L xs ys vs : List Value} {a s r : Nat} (h1 : L.take a = xs) (hv : vs.length = s) (hy : ys.length = r) (hl : a + s + r ≤ L.length) (hx : xs.length = a) {L1 L2 : List Value}
    (e1 : L1 = L.take a ++ vs ++ L.drop (a + vs.length)) (e2 : L2 = L1.take (a + s) ++ ys ++ L1.drop (a + s + ys.length)) : L2.take (a + s + r) = xs ++ vs ++ ys ∧ L2.length = L.length := by
  have t1 : L1.take (a + s) = xs ++ vs := by
    rw [e1, h1, List.take_append_of_le_length (by simp; omega), List.take_of_length_le (by simp; omega)]
  have hl1 : L1.length = L.length := by rw [e1]; simp; omega
  constructor
  · rw [e2, t1, List.take_append_of_le_length (by simp; omega), List.take_of_length_le (by simp; omega)]
  · rw [e2, t1]
    simp
    omega

theorem wpList_copy_go {P : Program} (w : World) {ops : Array Oper} {rest : List Oper} {o : Oper} {a : Act} {Q : Exit → Act → World → Prop} (hgd : o.guard = none) (d s : Operand) (t t' : TypeId)
    (ho : o.op = .call { callee := .builtin .copy, args := #[d, s], argTypes := #[t, t'] }) (v u : Value) (hd : a.eval d = v) (hs : a.eval s = u) {v' : Value} {w' : World}
    (hr : (Builtin.copy_ #[t, t'] o.type #[v, u]).run P w = .ok v' w') (h : wpList P ops Q rest (a.put o.dst v') w') : wpList P ops Q (o :: rest) a w := by
  refine wpList_plain hgd fun K hK => ?_
  unfold Oper.wp execOp
  simp only [ho, resolve, invoke, builtin, Sem.run_bind, Sem.run_pure, Result.andThen_ok, List.map_toArray, List.map_cons, List.map_nil, hd, hs, hr]
  exact hK _ _ h
theorem step_copy_go {P : Program} {ops : Array Oper} {o : Oper} {a : Act} {w : World} {K : Act → World → Prop} {Q : Exit → Act → World → Prop} {E : Prop}
    (hg : o.guard = none) (d x : Operand) (dT sT : TypeId) (hop : o.op = Op.call { callee := Callee.builtin Builtin.copy, args := #[d, x], argTypes := #[dT, sT] })
    (v u : Value) (hd : a.eval d = v) (hx : a.eval x = u) {v' : Value} {w' : World} (hr : (Builtin.copy_ #[dT, sT] o.type #[v, u]).run P w = .ok v' w') (hK : K (a.put o.dst v') w') :
    if Region.wanted o (yielded ops a.tmps) = true then Oper.wp P o a w K Q else E := by
  have hw : Region.wanted o (yielded ops a.tmps) = true := by simp [Region.wanted, hg]
  rw [if_pos hw]
  unfold Oper.wp
  simp [execOp, hop, resolve, invoke, builtin, hd, hx, hr, Result.andThen]
  exact hK

/-- an element put into a row of the call's own, at i -/
def InsIs (base : Nat) (e : TypeId) (s n : Nat) (xs : List Value) (ob : Option Nat) (w : World) (x : Ending) (w' : World) : Prop :=
  ∃ A c, x = .returned (.slice A (n + 1) c) ∧ w'.ownsRow base e s (.slice A (n + 1) c) (n + 1) xs ∧ w.grownBy w' ob ∧ (Value.ownBlock (.slice A (n + 1) c) = ob ∨ Value.ownBlock (.slice A (n + 1) c) = some w.heap.size)
theorem grown_drew {a b : World} {r : Option Nat} (h : a.grownBy b r) : a.grownBy b.drew r := ⟨h.os, h.tape, h.output, h.size, h.block⟩
theorem Box.isSome {w : World} {g : Nat} {t : TypeId} {cs : Array Value} (h : Box w g t cs) {j : Nat} (hj : j < cs.size) : (w.cell? ⟨g, j, none⟩).isSome = true := by
  rw [h.cell j, Array.getElem?_eq_getElem hj]; rfl
end Go.Proofs.Ytiiobafcgdelmaa
