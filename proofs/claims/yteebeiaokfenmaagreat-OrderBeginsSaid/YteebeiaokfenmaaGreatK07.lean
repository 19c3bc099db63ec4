/-
  Words for memory: copy in a block known whole, elements of s cells; what an insertion leaves. No walk.
  What slices.Insert of one that waits makes of a row of the call's own. Conditions: the row is not long; the element lies in a block of its own.
  What slices.Delete of one that waits makes of a row of the call's own. Conditions: the row is not long.
-/
import Derived.Test.YteebeiaokfenmaaGreatK01
import Derived.Laws.IdiomCopy
import Derived.Lib.AppendZerosOnto
import Derived.Lib.Overlaps
import Derived.Shelf.RegionOpenPlain
import Derived.Deep.RegionLaw
import Derived.Deep.QuietTactic
import Derived.BigQuiet
namespace Go.Proofs.YteebeiaokfenmaaGreat
open Go.RowKit Go.Lib
set_option linter.unusedVariables false

theorem run_copy_s {P : Program} (w : World) (dT sT ty e : TypeId) (s : Nat) (b o dLen dCap : Nat) (a : Addr) (sLen sCap : Nat) (cs : List Value)
    (hu : P.underlying dT = some (.slice e)) (hs : (P.info? e).map (·.size) = some s) (hn : cs.length = Nat.min sLen dLen * s)
    (hsrc : ∀ j v, cs[j]? = some v → w.cell? (a.add j) = some v) (hc : ∀ j, j < cs.length → (w.cell? ⟨b, o + j, none⟩).isSome = true) (hf : ∀ j, j < cs.length → w.frozen? ⟨b, o + j, none⟩ = false) (h1 : ∀ v ∈ cs, v.oneCell' = true) :
    (Builtin.copy_ #[dT, sT] ty #[.slice (some ⟨b, o, none⟩) dLen dCap, .slice (some a) sLen sCap]).run P w = .ok (goInt (Nat.min sLen dLen)) (w.setCells b o cs) := by
  have hl := run_loadCells_list (P := P) w a cs hsrc
  have hst := run_storeCells_cells (P := P) b o cs 0 w (by simpa using hc) (by simpa using hf) h1
  cases hq : P.info? e with
  | none => simp [hq] at hs
  | some i =>
    have hi : i.size = s := by simpa [hq] using hs
    simp only [hn] at hl
    simp [Builtin.copy_, run_underlying hu, Builtin.lenOf, Builtin.firstCells, sizeOf, typeInfo, hq, hi, hl, hst]

/-- the block whose cells are set -/
theorem box_setCells {g : Nat} {t : TypeId} : ∀ (vs : List Value) (o : Nat) (w : World) (cs : Array Value), Box w g t cs → o + vs.length ≤ cs.size →
    ∃ cs', Box (w.setCells g o vs) g t cs' ∧ cs'.toList = cs.toList.take o ++ vs ++ cs.toList.drop (o + vs.length)
  | [], o, w, cs, h, _ => ⟨cs, h, by simp⟩
  | v :: r, o, w, cs, h, hl => by
    simp only [List.length_cons] at hl
    obtain ⟨cs', h1, h2⟩ := box_setCells r (o + 1) (w.setCell ⟨g, o, none⟩ v) (cs.setIfInBounds o v) (h.stored o v) (by simp; omega)
    refine ⟨cs', h1, ?_⟩
    rw [h2]
    have e : (cs.setIfInBounds o v).toList = cs.toList.set o v := by simp
    have hol : o < cs.toList.length := by simp; omega
    rw [e, List.drop_set_of_lt (by omega), show o + 1 + r.length = o + (v :: r).length by simp; omega]
    congr 1
    rw [List.take_succ_eq_append_getElem (by simpa using hol), List.take_set_of_le (Nat.le_refl _)]
    simp
theorem grown_setCells (g : Nat) : ∀ (vs : List Value) (o : Nat) (w : World), w.grownBy (w.setCells g o vs) (some g)
  | [], o, w => World.grownBy.refl w _
  | v :: r, o, w => by
    have h := grown_setCells g r (o + 1) (w.setCell ⟨g, o, none⟩ v)
    have h0 : w.grownBy (w.setCell ⟨g, o, none⟩ v) (some g) := ⟨rfl, rfl, rfl, by simp [World.setCell], fun k hk hne => Below.heap_setCell _ _ _ _ (by intro e; apply hne; rw [e])⟩
    exact grown_more h0 h (.inl rfl)
theorem set_tail_first {L xs ys vs : List Value} {a s r : Nat} (h1 : L.take a = xs) (hv : vs.length = s) (hy : ys.length = r) (hl : a + s + r ≤ L.length) (hx : xs.length = a) {L1 L2 : List Value}
    (e1 : L1 = L.take (a + s) ++ ys ++ L.drop (a + s + ys.length)) (e2 : L2 = L1.take a ++ vs ++ L1.drop (a + vs.length)) : L2.take (a + s + r) = xs ++ vs ++ ys ∧ L2.length = L.length := by
  have ha : (L.take (a + s)).length = a + s := by rw [List.length_take]; omega
  have t1 : L1.take a = xs := by
    rw [e1, List.append_assoc, List.take_append_of_le_length (by omega), List.take_take, Nat.min_eq_left (by omega), h1]
  have t2 : L1.drop (a + vs.length) = ys ++ L.drop (a + s + ys.length) := by
    rw [e1, hv, List.append_assoc, List.drop_append_of_le_length (by omega), List.drop_eq_nil_of_le (by omega), List.nil_append]
  constructor
  · rw [e2, t1, t2, ← List.append_assoc, List.take_append_of_le_length (by simp; omega), List.take_of_length_le (by simp; omega)]
  · rw [e2, t1, t2]
    simp
    omega
theorem set_new_first {L xs ys vs : List Value} {a s r : Nat} (h1 : L.take a = xs) (hv : vs.length = s) (hy : ys.length = r) (hl : a + s + r ≤ L.length) (hx : xs.length = a) {L1 L2 : List Value}
    (e1 : L1 = L.take a ++ vs ++ L.drop (a + vs.length)) (e2 : L2 = L1.take (a + s) ++ ys ++ L1.drop (a + s + ys.length)) : L2.take (a + s + r) = xs ++ vs ++ ys ∧ L2.length = L.length := by
  have t1 : L1.take (a + s) = xs ++ vs := by
    rw [e1, h1, List.take_append_of_le_length (by simp; omega), List.take_of_length_le (by simp; omega)]
  have hl1 : L1.length = L.length := by rw [e1]; simp; omega
  constructor
  · rw [e2, t1, List.take_append_of_le_length (by simp; omega), List.take_of_length_le (by simp; omega)]
  · rw [e2, t1]
    simp
    omega

theorem wpList_copy_go {P : Program} (w : World) {ops : Array Oper} {rest : List Oper} {o : Oper} {a : Act} {Q : Exit → Act → World → Prop} (hgd : o.guard = none) (d s : Operand) (t t' : TypeId)
    (ho : o.op = .call { callee := .builtin .copy, args := #[d, s], argTypes := #[t, t'] }) (v u : Value) (hd : a.eval d = v) (hs : a.eval s = u) {v' : Value} {w' : World}
    (hr : (Builtin.copy_ #[t, t'] o.type #[v, u]).run P w = .ok v' w') (h : wpList P ops Q rest (a.put o.dst v') w') : wpList P ops Q (o :: rest) a w := by
  refine wpList_plain hgd fun K hK => ?_
  unfold Oper.wp execOp
  simp only [ho, resolve, invoke, builtin, Sem.run_bind, Sem.run_pure, Result.andThen_ok, List.map_toArray, List.map_cons, List.map_nil, hd, hs, hr]
  exact hK _ _ h
theorem step_copy_go {P : Program} {ops : Array Oper} {o : Oper} {a : Act} {w : World} {K : Act → World → Prop} {Q : Exit → Act → World → Prop} {E : Prop}
    (hg : o.guard = none) (d x : Operand) (dT sT : TypeId) (hop : o.op = Op.call { callee := Callee.builtin Builtin.copy, args := #[d, x], argTypes := #[dT, sT] })
    (v u : Value) (hd : a.eval d = v) (hx : a.eval x = u) {v' : Value} {w' : World} (hr : (Builtin.copy_ #[dT, sT] o.type #[v, u]).run P w = .ok v' w') (hK : K (a.put o.dst v') w') :
    if Region.wanted o (yielded ops a.tmps) = true then Oper.wp P o a w K Q else E := by
  have hw : Region.wanted o (yielded ops a.tmps) = true := by simp [Region.wanted, hg]
  rw [if_pos hw]
  unfold Oper.wp
  simp [execOp, hop, resolve, invoke, builtin, hd, hx, hr, Result.andThen]
  exact hK

/-- an element put into a row of the call's own, at i -/
def InsIs (base : Nat) (e : TypeId) (s n : Nat) (xs : List Value) (ob : Option Nat) (w : World) (x : Ending) (w' : World) : Prop :=
  ∃ A c, x = .returned (.slice A (n + 1) c) ∧ w'.ownsRow base e s (.slice A (n + 1) c) (n + 1) xs ∧ w.grownBy w' ob ∧ (Value.ownBlock (.slice A (n + 1) c) = ob ∨ Value.ownBlock (.slice A (n + 1) c) = some w.heap.size)
theorem grown_drew {a b : World} {r : Option Nat} (h : a.grownBy b r) : a.grownBy b.drew r := ⟨h.os, h.tape, h.output, h.size, h.block⟩
theorem Box.isSome {w : World} {g : Nat} {t : TypeId} {cs : Array Value} (h : Box w g t cs) {j : Nat} (hj : j < cs.size) : (w.cell? ⟨g, j, none⟩).isSome = true := by
  rw [h.cell j, Array.getElem?_eq_getElem hj]; rfl
end Go.Proofs.YteebeiaokfenmaaGreat

namespace Go.Proofs.YteebeiaokfenmaaGreat.KP
open Go.RowKit CP TP
open CM (Mg Cm)
open TM (Sp)
open KM (Wt Sk)
set_option linter.unusedVariables false
set_option linter.unusedSimpArgs false
set_option maxRecDepth 100000
open Go.Lib Go.Shelf

set_option maxHeartbeats 4000000 in
set_option maxRecDepth 100000 in
theorem insW_shift (base b n c i vb : Nat) (xs vs : List Value) (cur : Array Value) (w : World) (hi : i < n) (hn : n ≤ 2000) (hroom : n + 1 ≤ c) (hc : c ≤ maxLen)
    (hbase : base ≤ b) (hx : Box w b 78 cur) (hsz : cur.size = c * 7) (htk : cur.toList.take (n * 7) = xs) (hl : xs.length = n * 7)
    (hv : Box w vb 78 vs.toArray) (hvl : vs.length = 7) (hvb : vb ≠ b) (h1 : ∀ u ∈ xs, u.oneCell' = true) (h1v : ∀ u ∈ vs, u.oneCell' = true) :
    Calls Tryz.prog 137 #[.slice (some ⟨b, 0, none⟩) n c, .int .i64 i, .slice (some ⟨vb, 0, none⟩) 1 1] w (InsIs base 78 7 n (xs.take (i * 7) ++ vs ++ xs.drop (i * 7)) (some b) w) := by
  obtain ⟨i0, hi0, hz0, hz1, hz2⟩ := info_parts info_wt
  unfold maxLen at hc
  have hinfo : (Tryz.prog.info? 78).map (·.size) = some 7 := by rw [hi0]; simp [hz1]
  have hxc : ∀ j v, xs[j]? = some v → w.cell? ⟨b, j, none⟩ = some v := by
    intro j v hj
    have hjl := (List.getElem?_eq_some_iff.1 hj).1
    rw [hx.cell j, ← Array.getElem?_toList, ← hj, ← htk, List.getElem?_take, if_pos (by omega)]
  have hvc : ∀ j v, vs[j]? = some v → w.cell? ⟨vb, j, none⟩ = some v := by
    intro j v hj
    rw [hv.cell j]
    simpa using hj
  have hdl : (xs.drop (i * 7)).length = ((n - i) * 7) := by rw [List.length_drop, hl]; omega
  have hov : ∀ lb cb, (callFunc 156 #[.slice (some ⟨vb, 0, none⟩) 1 1, .slice (some ⟨b, (i + 1) * 7, none⟩) lb cb]).run Tryz.prog w = .ok (.value (.bool false)) w := fun lb cb => by
    rw [run_callFunc_extern Tryz.func156 (by kernel_rfl) (by kernel_rfl) (by kernel_rfl) (e := Extern.SlicesOverlaps.overlaps #[37, 37] #[4]) (by kernel_rfl),
      Lib.run_overlaps_apart w 37 4 78 Tryz.underlying37 7 Tryz.sizeOf78 ⟨vb, 0, none⟩ ⟨b, (i + 1) * 7, none⟩ 1 1 lb cb hvb 78 78 vs.toArray.size cur.size (by simp [World.shape?, hv, Box] at *; simp [hv]) (by simp [World.shape?, Box] at *; simp [hx]) (by omega) (hv.frozen 0) (hv.frozen _)]
    rfl
  have hcp1 : ∀ ty dc sc, (Builtin.copy_ #[37, 37] ty #[.slice (some ⟨b, (i + 1) * 7, none⟩) (n - i) dc, .slice (some ⟨b, i * 7, none⟩) (n + 1 - i) sc]).run Tryz.prog w.drew = .ok (goInt (n - i)) (w.drew.setCells b ((i + 1) * 7) (xs.drop (i * 7))) := fun ty dc sc => by
    have := run_copy_s (P := Tryz.prog) w.drew 37 37 ty 78 7 b ((i + 1) * 7) (n - i) dc ⟨b, i * 7, none⟩ (n + 1 - i) sc (xs.drop (i * 7)) Tryz.underlying37 hinfo (by rw [hdl]; simp only [Nat.min_def]; split <;> omega)
      (fun j v hj => by rw [Addr.add_lit]; exact hxc _ v (by rw [List.getElem?_drop] at hj; simpa using hj))
      (fun j hj => Box.isSome (w := w.drew) hx (by rw [hdl] at hj; omega)) (fun j hj => Box.frozen (w := w.drew) hx _) (fun v hv => h1 v (List.mem_of_mem_drop hv))
    rw [this]
    congr 2
    simp only [Nat.min_def]; split <;> omega
  obtain ⟨cu1, bx1, e1⟩ := box_setCells (xs.drop (i * 7)) ((i + 1) * 7) w.drew cur hx (by rw [hdl, hsz]; omega)
  have g1 := grown_setCells b (xs.drop (i * 7)) ((i + 1) * 7) w.drew
  obtain ⟨W1, hW1⟩ : ∃ W1, W1 = w.drew.setCells b ((i + 1) * 7) (xs.drop (i * 7)) := ⟨_, rfl⟩
  rw [← hW1] at hcp1 bx1 g1
  clear hW1
  have hv1 : Box W1 vb 78 vs.toArray := Box.grown (w := w.drew) hv g1 (by simpa using hvb)
  have hsz1 : cu1.size = cur.size := by rw [← Array.length_toList, e1]; simp [hdl]; omega
  have hcp2 : ∀ ty dc, (Builtin.copy_ #[37, 37] ty #[.slice (some ⟨b, i * 7, none⟩) (n + 1 - i) dc, .slice (some ⟨vb, 0, none⟩) 1 1]).run Tryz.prog W1 = .ok (goInt 1) (W1.setCells b (i * 7) vs) := fun ty dc => by
    have := run_copy_s (P := Tryz.prog) W1 37 37 ty 78 7 b (i * 7) (n + 1 - i) dc ⟨vb, 0, none⟩ 1 1 vs Tryz.underlying37 hinfo (by rw [hvl]; simp only [Nat.min_def]; split <;> omega)
      (fun j v hj => by rw [Addr.add_lit, hv1.cell]; simpa using hj)
      (fun j hj => bx1.isSome (by omega)) (fun j hj => bx1.frozen _) h1v
    rw [this]
    congr 2
    simp only [Nat.min_def]; split <;> omega
  obtain ⟨cu2, bx2, e2⟩ := box_setCells vs (i * 7) W1 cu1 bx1 (by rw [hvl, hsz1, hsz]; omega)
  have g2 := grown_setCells b vs (i * 7) W1
  obtain ⟨W2, hW2⟩ : ∃ W2, W2 = W1.setCells b (i * 7) vs := ⟨_, rfl⟩
  rw [← hW2] at hcp2 bx2 g2
  clear hW2
  have hfin := set_tail_first (L := cur.toList) (xs := xs.take (i * 7)) (ys := xs.drop (i * 7)) (vs := vs) (a := i * 7) (s := 7) (r := ((n - i) * 7)) (L1 := cu1.toList) (L2 := cu2.toList)
    (by rw [← htk, List.take_take, Nat.min_eq_left (by omega)]) hvl hdl (by simp [hsz]; omega) (by rw [List.length_take, hl]; omega) (by have := e1; rwa [show (i + 1) * 7 = i * 7 + 7 by omega] at this) e2
  have hret : InsIs base 78 7 n (xs.take (i * 7) ++ vs ++ xs.drop (i * 7)) (some b) w (.returned (.slice (some ⟨b, 0, none⟩) (n + 1) c)) W2 :=
    ⟨_, c, rfl, ⟨by simp [hl, hvl]; omega, .inr ⟨b, c, cu2, rfl, hbase, bx2, hroom, hc, by rw [← Array.length_toList, hfin.2]; simpa using hsz, by rw [← hfin.1]; congr 1; omega⟩⟩, grown_more (a := w) ⟨g1.os, g1.tape, g1.output, g1.size, g1.block⟩ g2 (.inl rfl), .inl rfl⟩
  have HRET := Lib.hid hret
  clear hret hfin bx2 g2 e2 e1 bx1 g1 hv1 hsz1 hx hsz htk hv hvc hxc
  have hz3 : ¬ ((i : Int) = (n : Int)) := by omega
  have hw1 : IntKind.i64.wrap ((i : Int) + 1) = (i : Int) + 1 := by rw [IntKind.wrap_i64]; omega
  have htn : ((i : Int) + 1).toNat = i + 1 := by omega
  have hb2 : ¬ (c = i + 1) := by omega
  have hb4 : ¬ (c = i) := by omega
  have hin : i ≤ n := by omega
  have hb1 : (0 : Int) ≤ (i : Int) + 1 := by omega
  have mixed : Tryz.prog.follows Departure.mixedOrders = true := by kernel_rfl
  have hb3 : (i : Int) ≤ (n : Int) + 1 := by omega
  have hb5 : (i : Int) < (n : Int) := by omega
  go_enter Tryz.func137, Tryz.ntmps137
  go_wp2_with (simp only [hov])
  go_region_law_o (refine step_copy_go rfl _ _ 37 37 rfl _ _ (by simp [Act.eval, Act.put]) (by simp [Act.eval, Act.put]) (hcp1 _ _ _) ?_)
  go_wp2_with (at_builtin; refine wpList_copy_go _ rfl _ _ 37 37 rfl _ _ rfl rfl (hcp2 _ _) ?_)
  go_ret
  exact HRET.out

set_option maxHeartbeats 4000000 in
set_option maxRecDepth 100000 in
theorem insW_end (base n c vb : Nat) (A : Option Addr) (xs vs : List Value) (w : World) (hn : n ≤ 2000) (hnc : n ≤ c) (hcm : c ≤ maxLen) (hbase : base ≤ w.heap.size) (ho : w.ownsRow base 78 7 (.slice A n c) n xs)
    (hv : Box w vb 78 vs.toArray) (hvl : vs.length = 7) (h1v : ∀ u ∈ vs, u.oneCell' = true) :
    Calls Tryz.prog 137 #[.slice A n c, .int .i64 n, .slice (some ⟨vb, 0, none⟩) 1 1] w (InsIs base 78 7 n (xs ++ vs) (Value.ownBlock (.slice A n c)) w) := by
  obtain ⟨i0, hi, hz0, hz1, hz2⟩ := info_parts info_wt
  unfold maxLen at hcm
  have hr := rdG_box (n := 1) (s := 7) (xs := vs) hv rfl (by omega)
  have HO := Lib.hid ho
  have HR := Lib.hid hr
  have H1 := Lib.hid h1v
  clear ho hr h1v hv hvl
  go_enter Tryz.func137, Tryz.ntmps137
  go_wp2_with (at_builtin; refine wpList_append_g _ rfl _ _ 37 rfl base 78 i0 _ 7 88 Tryz.underlying37 hi hz0 hz1 hz2 rfl (by omega) (.slice A n c) _ _ rfl HO.out (some ⟨vb, 0, none⟩) 1 1 vs rfl HR.out H1.out (by unfold maxLen; omega) (by omega) hbase ?_; intro v2 w2 hown2 hg2 hob2)
  all_goals
    obtain ⟨A', c', rfl, _, _⟩ := own_form hown2
    go_ret
    refine ⟨A', c', rfl, hown2, ?_, ?_⟩
    · rcases A with _ | _ <;> exact hg2
    · rcases A with _ | _ <;> exact hob2

set_option maxHeartbeats 4000000 in
set_option maxRecDepth 100000 in
theorem insW_grow (base b n i vb : Nat) (xs vs : List Value) (cur : Array Value) (w : World) (hi : i < n) (hn : n ≤ 2000) (hbw : base ≤ w.heap.size)
    (hx : Box w b 78 cur) (htk : cur.toList.take (n * 7) = xs) (hl : xs.length = n * 7)
    (hv : Box w vb 78 vs.toArray) (hvl : vs.length = 7) (h1 : ∀ u ∈ xs, u.oneCell' = true) (h1v : ∀ u ∈ vs, u.oneCell' = true) :
    Calls Tryz.prog 137 #[.slice (some ⟨b, 0, none⟩) n n, .int .i64 i, .slice (some ⟨vb, 0, none⟩) 1 1] w (InsIs base 78 7 n (xs.take (i * 7) ++ vs ++ xs.drop (i * 7)) (some b) w) := by
  obtain ⟨i0, hi0, hz0, hz1, hz2⟩ := info_parts info_wt
  have hinfo : (Tryz.prog.info? 78).map (·.size) = some 7 := by rw [hi0]; simp [hz1]
  have hxc : ∀ j v, xs[j]? = some v → w.cell? ⟨b, j, none⟩ = some v := by
    intro j v hj
    have hjl := (List.getElem?_eq_some_iff.1 hj).1
    rw [hx.cell j, ← Array.getElem?_toList, ← hj, ← htk, List.getElem?_take, if_pos (by omega)]
  have hdl : (xs.drop (i * 7)).length = ((n - i) * 7) := by rw [List.length_drop, hl]; omega
  have hold : (Builtin.firstCells i0.size i (.slice (some ⟨b, 0, none⟩) i n)).run Tryz.prog w.drew = .ok (xs.take (i * 7)).toArray w.drew := by
    rw [hz1]
    exact run_firstCells_some w.drew 7 i ⟨b, 0, none⟩ i n (xs.take (i * 7)) (by rw [List.length_take, hl]; omega) (fun j v hj => by
      rw [Addr.add_lit]
      rw [List.getElem?_take] at hj
      split at hj
      · rw [Nat.zero_add]; exact hxc j v hj
      · cases hj)
  have hcur : ∀ (j : Nat) (v : Value), xs[j]? = some v → cur[j]? = some v := by
    intro j v hj
    rw [← hx.cell j]
    exact hxc j v hj
  obtain ⟨G, hG⟩ : ∃ G, G = grownCap w (n + 1) n 78 := ⟨_, rfl⟩
  obtain ⟨zc, hzc⟩ : ∃ zc : Array Value, zc = (.agg #[.int .i64 0, .slice none 0 0, .int .i64 0, .string ⟨#[]⟩, .string ⟨#[]⟩, .int .i64 0, .bool false] : Value).cells := ⟨_, rfl⟩
  have hzs : zc.size = 7 := by rw [hzc]; rfl
  have hsz0 : ∀ k, (Builtin.zeroCells zc k).size = k * 7 := fun k => by simp [Builtin.zeroCells, hzs]
  have hrz : ∀ ty, (Builtin.append_ #[37, 3] ty #[.slice (some ⟨b, 0, none⟩) i n, .int .i64 ((n : Int) + 1 - (i : Int))]).run Tryz.prog w =
      .ok (.slice (some ⟨w.heap.size, 0, none⟩) (n + 1) G) (w.drew.alloc (.cells ((xs.take (i * 7)).toArray ++ Builtin.zeroCells zc (n + 1 - i) ++ Builtin.zeroCells zc (G - (n + 1))) 78)) := fun ty => by
    have h := Lib.run_append_grow_zeros (P := Tryz.prog) w 37 3 ty 78 i0 _ .i64 .i64 Tryz.underlying37 Tryz.underlying3 hi0 hz0 (some ⟨b, 0, none⟩) i n (xs.take (i * 7)) hold (n + 1 - i) (by omega) (by omega) (by omega) (by omega) (by rw [hz2]; omega)
      (by rw [hz2, show i + (n + 1 - i) = n + 1 by omega]; exact growslice_fits (by omega) (by omega))
    rw [show i + (n + 1 - i) = n + 1 by omega, ← hG, ← hzc] at h
    rw [show (n : Int) + 1 - (i : Int) = ((n + 1 - i : Nat) : Int) by omega]
    exact h
  have hGn : n + 1 ≤ G := by rw [hG]; exact grownCap_ge w _ _ _
  have hGm : G ≤ maxLen := by rw [hG]; exact grownCap_le_maxLen w (n + 1) n 78 (by unfold maxLen; omega)
  obtain ⟨ROW, hROW⟩ : ∃ ROW : Array Value, ROW = (xs.take (i * 7)).toArray ++ Builtin.zeroCells zc (n + 1 - i) ++ Builtin.zeroCells zc (G - (n + 1)) := ⟨_, rfl⟩
  have hRs : ROW.size = G * 7 := by
    rw [hROW]
    simp only [Array.size_append, hsz0, List.size_toArray, List.length_take, hl]
    omega
  have hRt : ROW.toList.take (i * 7) = xs.take (i * 7) := by
    rw [hROW]
    simp only [Array.toList_append, List.append_assoc]
    rw [List.take_append_of_le_length (by simp [hl]; omega), List.take_take, Nat.min_self]
  rw [← hROW] at hrz
  clear hROW hzc hsz0 hzs hold
  obtain ⟨g, hg⟩ : ∃ g, g = w.heap.size := ⟨_, rfl⟩
  obtain ⟨W1, hW1⟩ : ∃ W1, W1 = w.drew.alloc (.cells ROW 78) := ⟨_, rfl⟩
  have bN : Box W1 g 78 ROW := by rw [hW1]; exact Box.new_at (w := w.drew) g hg.symm
  have bB : Box W1 b 78 cur := by rw [hW1]; exact Box.alloc (w := w.drew) hx _
  have bV : Box W1 vb 78 vs.toArray := by rw [hW1]; exact Box.alloc (w := w.drew) hv _
  have hbg : b ≠ g := by have := hx.lt; omega
  have hg0 : w.grownBy W1 (some b) := by rw [hW1]; exact grown_alloc (a := w) (b := w.drew) ⟨rfl, rfl, rfl, Nat.le_refl _, fun _ _ _ => rfl⟩ _
  have hs1 : w.heap.size ≤ W1.heap.size := hg0.size
  rw [← hW1, ← hg] at hrz
  clear hW1 hx hv htk
  obtain ⟨cu1, bx1, e1⟩ := box_setCells vs (i * 7) W1 ROW bN (by rw [hvl, hRs]; omega)
  have g1 := grown_setCells g vs (i * 7) W1
  have hcp1 : ∀ ty dc, (Builtin.copy_ #[37, 37] ty #[.slice (some ⟨g, i * 7, none⟩) (n + 1 - i) dc, .slice (some ⟨vb, 0, none⟩) 1 1]).run Tryz.prog W1 = .ok (goInt 1) (W1.setCells g (i * 7) vs) := fun ty dc => by
    have := run_copy_s (P := Tryz.prog) W1 37 37 ty 78 7 g (i * 7) (n + 1 - i) dc ⟨vb, 0, none⟩ 1 1 vs Tryz.underlying37 hinfo (by rw [hvl]; simp only [Nat.min_def]; split <;> omega)
      (fun j v hj => by rw [Addr.add_lit, bV.cell]; simpa using hj)
      (fun j hj => bN.isSome (by omega)) (fun j hj => bN.frozen _) h1v
    rw [this]
    congr 2
    simp only [Nat.min_def]; split <;> omega
  obtain ⟨W2, hW2⟩ : ∃ W2, W2 = W1.setCells g (i * 7) vs := ⟨_, rfl⟩
  rw [← hW2] at hcp1 bx1 g1
  clear hW2
  have bB2 : Box W2 b 78 cur := Box.grown bB g1 (by simpa using hbg)
  have hsz1 : cu1.size = ROW.size := by rw [← Array.length_toList, e1]; simp [hvl]; omega
  have hcp2 : ∀ ty dc sc, (Builtin.copy_ #[37, 37] ty #[.slice (some ⟨g, (i + 1) * 7, none⟩) (n - i) dc, .slice (some ⟨b, i * 7, none⟩) (n - i) sc]).run Tryz.prog W2.drew = .ok (goInt (n - i)) (W2.drew.setCells g ((i + 1) * 7) (xs.drop (i * 7))) := fun ty dc sc => by
    have := run_copy_s (P := Tryz.prog) W2.drew 37 37 ty 78 7 g ((i + 1) * 7) (n - i) dc ⟨b, i * 7, none⟩ (n - i) sc (xs.drop (i * 7)) Tryz.underlying37 hinfo (by rw [hdl]; simp only [Nat.min_def]; split <;> omega)
      (fun j v hj => by rw [Addr.add_lit, Box.cell (w := W2.drew) bB2]; exact hcur _ v (by rw [List.getElem?_drop] at hj; simpa using hj))
      (fun j hj => Box.isSome (w := W2.drew) bx1 (by rw [hdl] at hj; omega)) (fun j hj => Box.frozen (w := W2.drew) bx1 _) (fun v hv => h1 v (List.mem_of_mem_drop hv))
    rw [this]
    congr 2
    simp only [Nat.min_def]; split <;> omega
  obtain ⟨cu2, bx2, e2⟩ := box_setCells (xs.drop (i * 7)) ((i + 1) * 7) W2.drew cu1 bx1 (by rw [hdl, hsz1, hRs]; omega)
  have g2 := grown_setCells g (xs.drop (i * 7)) ((i + 1) * 7) W2.drew
  obtain ⟨W3, hW3⟩ : ∃ W3, W3 = W2.drew.setCells g ((i + 1) * 7) (xs.drop (i * 7)) := ⟨_, rfl⟩
  rw [← hW3] at hcp2 bx2 g2
  clear hW3
  have hfin := set_new_first (L := ROW.toList) (xs := xs.take (i * 7)) (ys := xs.drop (i * 7)) (vs := vs) (a := i * 7) (s := 7) (r := ((n - i) * 7)) (L1 := cu1.toList) (L2 := cu2.toList)
    hRt hvl hdl (by simp [hRs]; omega) (by rw [List.length_take, hl]; omega) e1 (by have := e2; rwa [show (i + 1) * 7 = i * 7 + 7 by omega] at this)
  have hret : InsIs base 78 7 n (xs.take (i * 7) ++ vs ++ xs.drop (i * 7)) (some b) w (.returned (.slice (some ⟨g, 0, none⟩) (n + 1) G)) W3 :=
    ⟨_, G, rfl, ⟨by simp [hl, hvl]; omega, .inr ⟨g, G, cu2, rfl, by omega, bx2, hGn, hGm, by rw [← Array.length_toList, hfin.2]; simpa using hRs, by rw [← hfin.1]; congr 1; omega⟩⟩,
      grown_more hg0 (grown_more (a := W1) (r := some g) g1 (b := W2) ⟨g2.os, g2.tape, g2.output, g2.size, g2.block⟩ (.inl rfl)) (.inr fun k hk => by injection hk with hk; omega), .inr (by rw [← hg]; rfl)⟩
  have HRET := Lib.hid hret
  clear hret hfin bx2 g2 e2 e1 bx1 g1 hsz1 bB bB2 bV bN hcur hRt hRs hg0 hs1 hdl hl hG hg
  have hz3 : ¬ ((i : Int) = (n : Int)) := by omega
  have hw1 : IntKind.i64.wrap ((i : Int) + 1) = (i : Int) + 1 := by rw [IntKind.wrap_i64]; omega
  have htn : ((i : Int) + 1).toNat = i + 1 := by omega
  have hb2 : ¬ (G = i + 1) := by omega
  have hb4 : ¬ (G = i) := by omega
  have hb6 : ¬ (n = i) := by omega
  have hin : i ≤ n := by omega
  have hb1 : (0 : Int) ≤ (i : Int) + 1 := by omega
  have hb3 : (i : Int) ≤ (n : Int) + 1 := by omega
  have hb5 : (i : Int) < (n : Int) := by omega
  have hb7 : (i : Int) ≤ (n : Int) := by omega
  have mixed : Tryz.prog.follows Departure.mixedOrders = true := by kernel_rfl
  unfold maxLen at hGm
  go_enter Tryz.func137, Tryz.ntmps137
  go_wp2_with (first
    | (at_builtin; refine Lib.wpList_append_run _ rfl _ _ _ _ rfl _ _ rfl rfl _ _ (hrz _) ?_)
    | (at_builtin; refine wpList_copy_go _ rfl _ _ 37 37 rfl _ _ rfl rfl (hcp1 _ _) ?_))
  go_region_law_o (refine step_copy_go rfl _ _ 37 37 rfl _ _ (by simp [Act.eval, Act.put]) (by simp [Act.eval, Act.put]) (hcp2 _ _ _) ?_)
  go_wp2_with fail
  go_ret
  exact HRET.out

theorem insW_any (base n c i vb : Nat) (A : Option Addr) (xs vs : List Value) (w : World) (hi : i ≤ n) (hn : n ≤ 2000) (hbase : base ≤ w.heap.size) (ho : w.ownsRow base 78 7 (.slice A n c) n xs)
    (hv : Box w vb 78 vs.toArray) (hvl : vs.length = 7) (hvb : Value.ownBlock (.slice A n c) ≠ some vb) (h1 : ∀ u ∈ xs, u.oneCell' = true) (h1v : ∀ u ∈ vs, u.oneCell' = true) :
    Calls Tryz.prog 137 #[.slice A n c, .int .i64 i, .slice (some ⟨vb, 0, none⟩) 1 1] w (InsIs base 78 7 n (xs.take (i * 7) ++ vs ++ xs.drop (i * 7)) (Value.ownBlock (.slice A n c)) w) := by
  have hl := ho.1
  have hform := own_form ho
  obtain ⟨_, _, e, hnc, hcm⟩ := hform
  injection e with e1 e2 e3
  subst e3
  by_cases hin : i = n
  · subst hin
    rw [List.take_of_length_le (by omega), List.drop_eq_nil_of_le (by omega), List.append_nil]
    exact insW_end base i c vb A xs vs w hn hnc hcm hbase ho hv hvl h1v
  · have hlt : i < n := by omega
    rcases ho.2 with ⟨_, h0⟩ | ⟨g, cap, cur, hs, hb, hx, hnc', hcm', hsz, htk⟩
    · omega
    · injection hs with e1 e2 e3
      subst e1
      subst e3
      by_cases hroom : n + 1 ≤ c
      · exact insW_shift base g n c i vb xs vs cur w hlt hn hroom hcm hb hx hsz htk hl hv hvl (by intro h; apply hvb; rw [h]; rfl) h1 h1v
      · obtain rfl : n = c := by omega
        exact insW_grow base g n i vb xs vs cur w hlt hn hbase hx htk hl hv hvl h1 h1v


end Go.Proofs.YteebeiaokfenmaaGreat.KP

namespace Go.Proofs.YteebeiaokfenmaaGreat.KP
open Go.RowKit CP TP
open CM (Mg Cm)
open TM (Sp)
open KM (Wt Sk)
set_option linter.unusedVariables false
set_option linter.unusedSimpArgs false
set_option maxRecDepth 100000
open Go.Lib Go.Shelf

theorem run_clear_s {P : Program} (w : World) (t e ty : TypeId) (z : Value) (s : Nat) (ht : P.underlying t = some (.slice e)) (hv : ∀ w, (zeroValue e).run P w = .ok z w) (hz : z.cells.size = s) (hs : 0 < s) (h1 : ∀ v ∈ z.cells, v.oneCell' = true) (b o n c : Nat) (hn : 0 < n)
    (hc : ∀ j, j < n * s → (w.cell? ⟨b, o + j, none⟩).isSome = true) (hf : ∀ j, j < n * s → w.frozen? ⟨b, o + j, none⟩ = false) :
    ∃ zs : List Value, zs.length = n * s ∧ (Builtin.clear_ #[t] ty #[.slice (some ⟨b, o, none⟩) n c]).run P w = .ok (.tuple #[]) (w.setCells b o zs) := by
  have hl : (Builtin.zeroCells z.cells n).toList.length = n * s := by simp [Builtin.zeroCells, hz]
  have hone : ∀ v ∈ (Builtin.zeroCells z.cells n).toList, v.oneCell' = true := by
    intro v hv'
    simp only [Builtin.zeroCells, Array.toList_map, List.mem_map] at hv'
    obtain ⟨i, _, rfl⟩ := hv'
    have hlt : i % z.cells.size < z.cells.size := Nat.mod_lt _ (by omega)
    rw [getElem!_pos z.cells _ hlt]
    exact h1 _ (Array.getElem_mem hlt)
  have hst := run_storeCells_cells (P := P) b o (Builtin.zeroCells z.cells n).toList 0 w (by rw [hl]; simpa using hc) (by rw [hl]; simpa using hf) hone
  simp only [Nat.add_zero] at hst
  obtain ⟨m, rfl⟩ : ∃ m, n = m + 1 := ⟨n - 1, by omega⟩
  refine ⟨_, hl, ?_⟩
  simp [Builtin.clear_, run_underlying ht, hv, hst]
theorem run_clear_none {P : Program} (w : World) (t e ty : TypeId) (ht : P.underlying t = some (.slice e)) (a : Option Addr) (c : Nat) :
    (Builtin.clear_ #[t] ty #[.slice a 0 c]).run P w = .ok (.tuple #[]) w := by
  rcases a with _ | a <;> simp [Builtin.clear_, run_underlying ht]
/-- a row of votes of the call's own -/
def RowQ (base m : Nat) (xs : List Value) (ob : Option Nat) (w : World) (x : Ending) (w' : World) : Prop :=
  ∃ A c, x = .returned (.slice A m c) ∧ w'.ownsRow base 78 7 (.slice A m c) m xs ∧ w.grownBy w' ob
theorem zero_wait (w : World) : (zeroValue 78).run Tryz.prog w = .ok (.agg #[.int .i64 0, .slice none 0 0, .int .i64 0, .string ⟨#[]⟩, .string ⟨#[]⟩, .int .i64 0, .bool false]) w := by
  obtain ⟨i0, hi, hz0, hz1, hz2⟩ := info_parts info_wt
  simp [zeroValue, typeInfo, hi, hz0]

set_option maxHeartbeats 4000000 in
theorem delW_any (base b n c i : Nat) (xs : List Value) (cur : Array Value) (w : World) (hi : i < n) (hn : n ≤ 2000) (hnc : n ≤ c) (hcm : c ≤ maxLen)
    (hbase : base ≤ b) (hx : Box w b 78 cur) (hsz : cur.size = c * 7) (htk : cur.toList.take (n * 7) = xs) (hl : xs.length = n * 7) (h1 : ∀ u ∈ xs, u.oneCell' = true) :
    Calls Tryz.prog 139 #[.slice (some ⟨b, 0, none⟩) n c, .int .i64 i, .int .i64 ((i : Int) + 1)] w (RowQ base (n - 1) (xs.take (i * 7) ++ xs.drop ((i + 1) * 7)) (some b) w) := by
  obtain ⟨i0, hi0, hz0, hz1, hz2⟩ := info_parts info_wt
  unfold maxLen at hcm
  have hxc : ∀ j v, xs[j]? = some v → w.cell? ⟨b, j, none⟩ = some v := by
    intro j v hj
    have hjl := (List.getElem?_eq_some_iff.1 hj).1
    rw [hx.cell j, ← Array.getElem?_toList, ← hj, ← htk, List.getElem?_take, if_pos (by omega)]
  obtain ⟨news, hnews⟩ : ∃ news, news = xs.drop ((i + 1) * 7) := ⟨_, rfl⟩
  have hdl : news.length = (n - (i + 1)) * 7 := by rw [hnews, List.length_drop, hl]; omega
  obtain ⟨A, hA, hsrc⟩ : ∃ A : Addr, (if c = i + 1 then (some ⟨b, 0, none⟩ : Option Addr) else some ⟨b, (i + 1) * 7, none⟩) = some A ∧ Hid (∀ t u, news[t]? = some u → w.drew.cell? (A.add t) = some u) := by
    by_cases h : c = i + 1
    · refine ⟨⟨b, 0, none⟩, by simp [h], fun t u hu => ?_⟩
      have h0 : news.length = 0 := by rw [hdl]; have : n - (i + 1) = 0 := by omega
                                      rw [this]
      rw [List.length_eq_zero_iff.1 h0] at hu
      simp at hu
    · refine ⟨⟨b, (i + 1) * 7, none⟩, by simp [h], fun t u hu => ?_⟩
      rw [Addr.add_lit]
      exact hxc _ u (by rw [hnews, List.getElem?_drop] at hu; simpa using hu)
  have s1 := Lib.hid hdl
  have s2 := Lib.hid (show ∀ u ∈ news, u.oneCell' = true from fun u hu => h1 u (List.mem_of_mem_drop (by rw [hnews] at hu; exact hu)))
  have s3 := Lib.hid (show ∀ t, t < news.length → (w.drew.cell? ⟨b, 0 + i * 7 + t, none⟩).isSome = true ∧ w.drew.frozen? ⟨b, 0 + i * 7 + t, none⟩ = false from fun t ht =>
    ⟨Box.isSome (w := w.drew) hx (by rw [hdl] at ht; omega), Box.frozen (w := w.drew) hx _⟩)
  obtain ⟨cu1, bx1, e1⟩ := box_setCells news (0 + i * 7) w.drew cur hx (by rw [hdl, hsz]; omega)
  have g1 := grown_setCells b news (0 + i * 7) w.drew
  obtain ⟨W1, hW1⟩ : ∃ W1, W1 = w.drew.setCells b (0 + i * 7) news := ⟨_, rfl⟩
  have HW := Lib.hid hW1
  rw [← hW1] at bx1 g1
  clear hW1
  have hsz1 : cu1.size = cur.size := by rw [← Array.length_toList, e1]; simp [hdl]; omega
  have hm : i + (n - (i + 1)) = n - 1 := by omega
  obtain ⟨zs, hzl, hclr⟩ := run_clear_s (P := Tryz.prog) W1 37 78 37 _ 7 Tryz.underlying37 zero_wait rfl (by omega) (by decide) b ((n - 1) * 7) (n - (n - 1)) (c - (n - 1)) (by omega)
    (fun j hj => bx1.isSome (by rw [hsz1, hsz]; omega)) (fun j hj => bx1.frozen _)
  have hcl : ∀ ty, (Builtin.clear_ #[37] ty #[.slice (some ⟨b, (n - 1) * 7, none⟩) (n - (n - 1)) (c - (n - 1))]).run Tryz.prog W1 = .ok (.tuple #[]) (W1.setCells b ((n - 1) * 7) zs) := fun ty => hclr
  obtain ⟨cu2, bx2, e2⟩ := box_setCells zs ((n - 1) * 7) W1 cu1 bx1 (by rw [hzl, hsz1, hsz]; omega)
  have g2 := grown_setCells b zs ((n - 1) * 7) W1
  have hfin : cu2.toList.take ((n - 1) * 7) = xs.take (i * 7) ++ news ∧ cu2.size = c * 7 := by
    have hc1 : cu1.toList.length = c * 7 := by rw [Array.length_toList, hsz1, hsz]
    have hc0 : cur.toList.length = c * 7 := by rw [Array.length_toList, hsz]
    constructor
    · rw [e2, List.append_assoc, List.take_append_of_le_length (by rw [List.length_take, hc1]; omega), List.take_take, Nat.min_eq_left (by omega), e1, List.take_append_of_le_length (by simp [hc0, hdl]; omega),
        List.take_of_length_le (by simp [hc0, hdl]; omega), ← htk, List.take_take, Nat.min_eq_left (by omega), Nat.zero_add]
    · rw [← Array.length_toList, e2]; simp [hc1, hzl]; omega
  have hret : RowQ base (n - 1) (xs.take (i * 7) ++ news) (some b) w (.returned (.slice (some ⟨b, 0, none⟩) (n - 1) c)) (W1.setCells b ((n - 1) * 7) zs) := by
    exact ⟨some ⟨b, 0, none⟩, c, rfl, ⟨by simp [hl, hdl]; omega, .inr ⟨b, c, cu2, rfl, hbase, bx2, by omega, by unfold maxLen; omega, hfin.2, hfin.1⟩⟩, grown_more (a := w) ⟨g1.os, g1.tape, g1.output, g1.size, g1.block⟩ g2 (.inl rfl)⟩
  have HRET := Lib.hid hret
  rw [← hnews]
  have hic : i ≤ c := by omega
  have hin : i ≤ n := by omega
  have hjc : i + 1 ≤ c := by omega
  have hjn : i + 1 ≤ n := by omega
  have htn : ((i : Int) + 1).toNat = i + 1 := by omega
  have hne : ¬ ((i : Int) = (i : Int) + 1) := by omega
  have hne2 : ((i : Int) == (i : Int) + 1) = false := by simp; omega
  have k1 : (0 : Int) ≤ (i : Int) + 1 := by omega
  have k2 : (i : Int) ≤ (i : Int) + 1 := by omega
  have k3 : (i : Int) + 1 ≤ (n : Int) := by omega
  have k4 : (i : Int) + 1 ≤ (c : Int) := by omega
  have k5 : (n : Int) ≤ (c : Int) := by omega
  have mixed : Tryz.prog.follows Departure.mixedOrders = true := by kernel_rfl
  clear hret hfin bx2 g2 e2 e1 bx1 g1 hsz1 hx hsz htk hxc hdl hnews hclr hzl hl h1
  go_enter Tryz.func139, Tryz.ntmps139
  go_wp2_with fail
  go_region_law_o (refine step_append_room rfl (.tmp 22) (.tmp 25) 37 rfl 78 i0 7 Tryz.underlying37 hi0 hz1 b 0 i c (by simp [Act.eval, Act.put]) A (n - (i + 1)) (c - (i + 1)) news (by simp [Act.eval, Act.put]) s1.out hsrc.out s2.out (by omega) s3.out ?_; rw [← HW.out])
  go_wp2_with fail
  go_ret
  exact HRET.out

end Go.Proofs.YteebeiaokfenmaaGreat.KP
