/-
  Words for memory: append of whatever slice onto a row of the call's own, elements of s cells. No walk.
-/
import Derived.Test.YtmcfamoicdmkdaaAttMem
namespace Go.Proofs.Ytmcfamoicdmkdaa
open Go.RowKit
set_option linter.unusedVariables false

/-- n elements of s cells at A read as xs -/
def RdG (w : World) (s : Nat) (A : Option Addr) (m : Nat) (xs : List Value) : Prop :=
  xs.length = m * s ∧ (0 < m → ∃ ad, A = some ad ∧ ad.block < w.heap.size ∧ ∀ j u, xs[j]? = some u → w.cell? (ad.add j) = some u)
theorem Rd.g {w : World} {A : Option Addr} {m : Nat} {xs : List Value} (h : Rd w A m xs) : RdG w 1 A m xs := ⟨by rw [h.1]; omega, h.2⟩
theorem RdP.g {w : World} {A : Option Addr} {m : Nat} {xs : List AM.Pr} (h : RdP w A m xs) : RdG w 3 A m (pp xs) := ⟨by rw [pp_length, h.1], h.2⟩
theorem RdG.below {w w' : World} {s m : Nat} {A : Option Addr} {xs : List Value} (h : RdG w s A m xs) (hb : Below w.heap.size w w') : RdG w' s A m xs :=
  ⟨h.1, fun hn => by
    obtain ⟨ad, e, hB, hc⟩ := h.2 hn
    exact ⟨ad, e, Nat.lt_of_lt_of_le hB hb.size, fun j u hu => (hb.cell (by rw [block_of_add]; exact hB)).trans (hc j u hu)⟩⟩
theorem RdG.alloc {w : World} {s m : Nat} {A : Option Addr} {xs : List Value} (h : RdG w s A m xs) (o : Obj) : RdG (w.alloc o) s A m xs := h.below ((Below.refl _ _).alloc (Nat.le_refl _) o)
theorem rdG_box {w : World} {g n s : Nat} {t : TypeId} {cs : Array Value} {xs : List Value} (h : Box w g t cs) (hx : cs.toList = xs) (hn : xs.length = n * s) : RdG w s (some ⟨g, 0, none⟩) n xs := by
  refine ⟨hn, fun _ => ⟨_, rfl, h.lt, fun j u hu => ?_⟩⟩
  have : (⟨g, 0, none⟩ : Addr).add j = ⟨g, j, none⟩ := by unfold Addr.add; split <;> simp_all
  rw [this, h.cell j, ← hu, ← hx]
  simp

theorem run_append_g {P : Program} (w : World) (base : Nat) (t ty e : TypeId) (i : TypeInfo) (z : Value) (s bytes : Nat) (ht : P.underlying t = some (.slice e)) (hi : P.info? e = some i) (hz : i.zero = some z)
    (hsize : i.size = s) (hby : i.bytes = bytes) (hzs : z.cells.size = s) (hsz : 0 < s)
    (v : Value) (n : Nat) (xs : List Value) (hown : w.ownsRow base e s v n xs)
    (A : Option Addr) (m c : Nat) (news : List Value) (hr : RdG w s A m news) (h1 : ∀ u ∈ news, u.oneCell' = true)
    (h63 : n + m ≤ maxLen) (hbytes : (n + m) * bytes ≤ 140737488355328) (hbase : base ≤ w.heap.size) :
    ∃ v' w', (Builtin.append_ #[t, t] ty #[v, .slice A m c]).run P w = .ok v' w' ∧ w'.ownsRow base e s v' (n + m) (xs ++ news) ∧ w.grownBy w' v.ownBlock ∧
      (v'.ownBlock = v.ownBlock ∨ v'.ownBlock = some w.heap.size) := by
  rcases A with _ | ad
  · have hm : m = 0 := by
      rcases Nat.eq_zero_or_pos m with h0 | h0
      · exact h0
      · obtain ⟨ad, h, _⟩ := hr.2 h0; cases h
    subst hm
    have hn : news = [] := List.eq_nil_of_length_eq_zero (by rw [hr.1]; omega)
    subst hn
    refine ⟨v, w, ?_, by simpa using hown, World.grownBy.refl w _, .inl rfl⟩
    rcases hown.2 with ⟨rfl, rfl⟩ | ⟨g, cap, cur, rfl, _, _, hnc, _⟩
    · simp [Builtin.append_, run_underlying ht, sizeOf, typeInfo, hi, Builtin.lenOf, Builtin.firstCells]
    · simp [Builtin.append_, run_underlying ht, sizeOf, typeInfo, hi, Builtin.lenOf, Builtin.firstCells, hnc, storeCells]
  · have hcells : ∀ j u, news[j]? = some u → w.cell? (ad.add j) = some u := by
      intro j u hu
      rcases Nat.eq_zero_or_pos m with h0 | h0
      · subst h0
        have hn : news = [] := List.eq_nil_of_length_eq_zero (by rw [hr.1]; omega)
        subst hn
        simp at hu
      · obtain ⟨ad', h, _, hc⟩ := hr.2 h0
        injection h with h
        subst h
        exact hc j u hu
    obtain ⟨v', w', hrun, h2, h3, _, h5⟩ := run_append_own_at (P := P) w base t ty e i z s bytes ht hi hz hsize hby hzs hsz v n xs hown ad m c news hr.1 hcells h1 h63 hbytes hbase
    exact ⟨v', w', hrun, h2, h3, h5⟩

theorem wpList_append_g {P : Program} (w : World) {ops : Array Oper} {rest : List Oper} {o : Oper} {a : Act} {Q : Exit → Act → World → Prop} (hgd : o.guard = none) (so x : Operand) (t : TypeId)
    (ho : o.op = .call { callee := .builtin .append, args := #[so, x], argTypes := #[t, t] })
    (base : Nat) (e : TypeId) (i : TypeInfo) (z : Value) (s bytes : Nat) (ht : P.underlying t = some (.slice e)) (hi : P.info? e = some i) (hz : i.zero = some z)
    (hsize : i.size = s) (hby : i.bytes = bytes) (hzs : z.cells.size = s) (hsz : 0 < s)
    (v : Value) (n : Nat) (xs : List Value) (hs : a.eval so = v) (hown : w.ownsRow base e s v n xs)
    (A : Option Addr) (m c : Nat) (news : List Value) (hx : a.eval x = .slice A m c) (hr : RdG w s A m news) (h1 : ∀ u ∈ news, u.oneCell' = true)
    (h63 : n + m ≤ maxLen) (hbytes : (n + m) * bytes ≤ 140737488355328) (hbase : base ≤ w.heap.size)
    (h : ∀ v' w', w'.ownsRow base e s v' (n + m) (xs ++ news) → w.grownBy w' v.ownBlock → (v'.ownBlock = v.ownBlock ∨ v'.ownBlock = some w.heap.size) → wpList P ops Q rest (a.put o.dst v') w') : wpList P ops Q (o :: rest) a w := by
  refine wpList_plain hgd fun K hK => ?_
  obtain ⟨v', w', hrun, h2, h3, h4⟩ := run_append_g (P := P) w base t o.type e i z s bytes ht hi hz hsize hby hzs hsz v n xs hown A m c news hr h1 h63 hbytes hbase
  unfold Oper.wp execOp
  simp only [ho, resolve, invoke, builtin, Sem.run_bind, Sem.run_pure, Result.andThen_ok, List.map_toArray, List.map_cons, List.map_nil, hs, hx, hrun]
  exact hK _ _ (h v' w' h2 h3 h4)

/-- the block of an owned row -/
theorem own_block {w : World} {base s n g : Nat} {e : TypeId} {v : Value} {xs : List Value} (h : w.ownsRow base e s v n xs) (hg : v.ownBlock = some g) : base ≤ g ∧ ∃ cur, Box w g e cur := by
  rcases h.2 with ⟨rfl, _⟩ | ⟨g', cap, cur, rfl, hb, hx, _⟩
  · cases hg
  · injection hg with hg
    subst hg
    exact ⟨hb, cur, hx⟩
/-- what a row's growth leaves below -/
theorem below_row {w0 w w' : World} {base s n : Nat} {e : TypeId} {v : Value} {xs : List Value} (hb : Below base w0 w) (h : w.ownsRow base e s v n xs) (hB : base ≤ w.heap.size) (hg : w.grownBy w' v.ownBlock) : Below base w0 w' :=
  hb.grown hg hB fun g hgu => (own_block h hgu).1
theorem Box.grown {w w' : World} {g : Nat} {t : TypeId} {cs : Array Value} {r : Option Nat} (h : Box w g t cs) (hg : w.grownBy w' r) (hr : some g ≠ r) : Box w' g t cs := (hg.block g h.lt hr).trans h
/-- an owned row in another block stays -/
theorem own_grown {w w' : World} {base s n : Nat} {e : TypeId} {v : Value} {xs : List Value} {r : Option Nat} (h : w.ownsRow base e s v n xs) (hg : w.grownBy w' r) (hr : ∀ g, v.ownBlock = some g → some g ≠ r) : w'.ownsRow base e s v n xs := by
  refine ⟨h.1, ?_⟩
  rcases h.2 with h0 | ⟨g, cap, cur, rfl, hb, hx, hrest⟩
  · exact .inl h0
  · exact .inr ⟨g, cap, cur, rfl, hb, Box.grown hx hg (hr g rfl), hrest⟩
theorem Rd.grownBy {w w' : World} {A : Option Addr} {n : Nat} {xs : List Value} {base : Nat} {r : Option Nat} (h : Rd w A n xs) (hg : w.grownBy w' r) (hb : w.heap.size ≤ w'.heap.size) (hr : ∀ ad, A = some ad → some ad.block ≠ r) : Rd w' A n xs :=
  h.grown hg fun ad e _ => hr ad e
end Go.Proofs.Ytmcfamoicdmkdaa
