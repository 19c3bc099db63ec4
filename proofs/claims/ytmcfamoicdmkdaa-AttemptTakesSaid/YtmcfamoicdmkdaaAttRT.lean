/-
  The document's own Twin (towncrierref08). Conditions: the attempt fits.
-/
import Derived.Test.YtmcfamoicdmkdaaAttRM
import Derived.Test.YtmcfamoicdmkdaaAttR
import Derived.Test.YtmcfamoicdmkdaaAttF
namespace Go.Proofs.Ytmcfamoicdmkdaa
open Go.RowKit
set_option linter.unusedVariables false
set_option linter.unusedSimpArgs false

/-- three variables of attempts on top, the first and the second as they were -/
def TwinSt (w W : World) (F G H : Array Value) : Prop :=
  Box W w.heap.size 25 F ∧ Box W (w.heap.size + 1) 25 G ∧ Box W (w.heap.size + 1 + 1) 25 H ∧ Below w.heap.size w W
theorem TwinSt.step {w W w2 : World} {F G H : Array Value} (h : TwinSt w W F G H) (hg : W.grownBy w2 none) (i : Nat) (x : Value) : TwinSt w (w2.setCell ⟨w.heap.size + 1 + 1, i, none⟩ x) F G (H.setIfInBounds i x) :=
  ⟨(h.1.grown hg (by simp)).far (by show w.heap.size ≠ w.heap.size + 1 + 1; omega) x, (h.2.1.grown hg (by simp)).far (by show w.heap.size + 1 ≠ w.heap.size + 1 + 1; omega) x, (h.2.2.1.grown hg (by simp)).stored i x, (h.2.2.2.grown hg h.2.2.2.size (fun g hg => by simp at hg)).setCell (by show w.heap.size ≤ w.heap.size + 1 + 1; omega) x⟩
theorem TwinSt.size {w W : World} {F G H : Array Value} (h : TwinSt w W F G H) : w.heap.size + 1 + 1 < W.heap.size := h.2.2.1.lt
theorem own_step {W w2 : World} {base s n g i : Nat} {e : TypeId} {v : Value} {xs : List Value} (h : W.ownsRow base e s v n xs) (hg : W.grownBy w2 none) (hb : g < base) (x : Value) : (w2.setCell ⟨g, i, none⟩ x).ownsRow base e s v n xs :=
  own_set1 (own_grown h hg (fun g _ => by simp)) hb x

set_option maxRecDepth 100000 in
set_option maxHeartbeats 2000000 in
theorem rtwin_any (v : Value) (a : AM.At) (w : World) (H : AtIs w v a) (F : Fit a) :
    Calls Try.prog 16 #[v] w (AtRet a w) := by
  obtain ⟨i0, hi, hz0, hz1, hz2⟩ := info_parts info_ai
  obtain ⟨j0, hj, hy0, hy1, hy2⟩ := info_parts info_apr
  obtain ⟨A, n, c, B, m, d, C, k, f, rfl, h1, h2, h3⟩ := H
  obtain ⟨f1, f2, f3⟩ := AtIs.fit_n h1 h2 h3 F
  have l1 : a.ms.length = n := by have := h1.1; rwa [ic_length] at this
  have l2 : a.ps.length = m := h2.1
  have l3 : a.ac.length = k := by have := h3.1; rwa [ic_length] at this
  obtain ⟨ph, ba, ms, wi, va, ps, ac⟩ := a
  simp only at h1 h2 h3 l1 l2 l3 ⊢
  clear F
  obtain ⟨W0, hW0⟩ : ∃ W0, W0 = ((w.alloc (.cells #[.int .u8 ph, .int .i64 ba, .slice A n c, .string wi, .string va, .slice B m d, .slice C k f] 25)).alloc (.cells #[.int .u8 0, .int .i64 0, .slice none 0 0, .string ⟨#[]⟩, .string ⟨#[]⟩, .slice none 0 0, .slice none 0 0] 25)).alloc (.cells #[.int .u8 ph, .int .i64 ba, .slice A n c, .string wi, .string va, .slice B m d, .slice C k f] 25) := ⟨_, rfl⟩
  have ht0 : TwinSt w W0 #[.int .u8 ph, .int .i64 ba, .slice A n c, .string wi, .string va, .slice B m d, .slice C k f] #[.int .u8 0, .int .i64 0, .slice none 0 0, .string ⟨#[]⟩, .string ⟨#[]⟩, .slice none 0 0, .slice none 0 0] #[.int .u8 ph, .int .i64 ba, .slice A n c, .string wi, .string va, .slice B m d, .slice C k f] := by
    rw [hW0]
    exact ⟨((Box.new _ _ _).alloc _).alloc _, (Box.new_at _ (by simp)).alloc _, Box.new_at _ (by simp), (((Below.refl _ _).alloc (Nat.le_refl _) _).alloc (by simp) _).alloc (by simp; omega) _⟩
  have hq := ht0.2.2.2
  have R1 := Lib.hid (fun (W : World) (hb : Below w.heap.size w W) => (h1.below hb).g)
  have R2 := Lib.hid (fun (W : World) (hb : Below w.heap.size w W) => (h2.below hb).g)
  have R3 := Lib.hid (fun (W : World) (hb : Below w.heap.size w W) => (h3.below hb).g)
  have T0 := Lib.hid ht0
  clear h1 h2 h3 hq ht0
  obtain ⟨⟨s0, s1, s2, s3, s4, s5, s6⟩, _⟩ := T0.out.1.seven
  go_enter Try.func16, Try.ntmps16
  go_upto_region 2 with (fail)
  rw [← hW0]
  clear hW0
  have HN1 := Lib.hid (World.ownsRow_nil W0 W0.heap.size 3 1)
  go_upto_region 3 with (at_builtin; refine wpList_append_g _ rfl _ _ 22 rfl W0.heap.size 3 i0 (.int .i64 0) 1 8 Try.underlying22 hi hz0 hz1 hz2 rfl (by omega) (.slice none 0 0) _ _ rfl HN1.out A n c (ic ms) rfl (R1.out _ T0.out.2.2.2) (ic_one _) (by unfold maxLen; omega) (by omega) (Nat.le_refl _) ?_; intro v2 w1 o1 g1 ob1; simp only [Nat.zero_add, List.nil_append] at o1; obtain ⟨A1, c1, rfl, _, _⟩ := own_form o1; obtain ⟨_, z0, z1, z2, z3, z4, z5, z6⟩ := (T0.out.2.2.1.grown g1 (by simp [Value.ownBlock])).seven)
  clear s0 s1 s2 s3 s4 s5 s6 z0 z1 z2 z3 z4 z5 z6 HN1 ob1
  have T1 : Hid (TwinSt w (w1.setCell ⟨w.heap.size + 1 + 1, 2, none⟩ (.slice A1 n c1)) #[.int .u8 ph, .int .i64 ba, .slice A n c, .string wi, .string va, .slice B m d, .slice C k f] #[.int .u8 0, .int .i64 0, .slice none 0 0, .string ⟨#[]⟩, .string ⟨#[]⟩, .slice none 0 0, .slice none 0 0] #[.int .u8 ph, .int .i64 ba, .slice A1 n c1, .string wi, .string va, .slice B m d, .slice C k f]) := Lib.hid (by simpa using T0.out.step g1 2 (.slice A1 n c1))
  have O1 := Lib.hid (own_set1 (k := 2) o1 T0.out.size (.slice A1 n c1))
  have L1 : Hid (∀ q, Value.ownBlock (.slice A1 n c1) = some q → W0.heap.size ≤ q ∧ q < (w1.setCell ⟨w.heap.size + 1 + 1, 2, none⟩ (.slice A1 n c1)).heap.size) := Lib.hid (fun q hq => by rw [size_set]; exact o1.lt q hq)
  have G1 := Lib.hid (show W0.heap.size ≤ (w1.setCell ⟨w.heap.size + 1 + 1, 2, none⟩ (.slice A1 n c1)).heap.size by rw [size_set]; exact g1.size)
  clear o1 g1
  generalize w1.setCell ⟨w.heap.size + 1 + 1, 2, none⟩ (.slice A1 n c1) = W1 at T1 L1 G1 O1 ⊢
  obtain ⟨⟨s0, s1, s2, s3, s4, s5, s6⟩, _⟩ := T1.out.1.seven
  have HN2 := Lib.hid (World.ownsRow_nil W1 W1.heap.size 31 3)
  go_upto_region 4 with (at_builtin; refine wpList_append_g _ rfl _ _ 23 rfl W1.heap.size 31 j0 _ 3 32 Try.underlying23 hj hy0 hy1 hy2 rfl (by omega) (.slice none 0 0) _ _ rfl HN2.out B m d (pp ps) rfl (R2.out _ T1.out.2.2.2) (pp_one _) (by unfold maxLen; omega) (by omega) (Nat.le_refl _) ?_; intro v2 w2 o2 g2 ob2; simp only [Nat.zero_add, List.nil_append] at o2; obtain ⟨A2, c2, rfl, _, _⟩ := own_form o2; obtain ⟨_, z0, z1, z2, z3, z4, z5, z6⟩ := (T1.out.2.2.1.grown g2 (by simp [Value.ownBlock])).seven)
  clear s0 s1 s2 s3 s4 s5 s6 z0 z1 z2 z3 z4 z5 z6 HN2 ob2
  have T2 : Hid (TwinSt w (w2.setCell ⟨w.heap.size + 1 + 1, 5, none⟩ (.slice A2 m c2)) #[.int .u8 ph, .int .i64 ba, .slice A n c, .string wi, .string va, .slice B m d, .slice C k f] #[.int .u8 0, .int .i64 0, .slice none 0 0, .string ⟨#[]⟩, .string ⟨#[]⟩, .slice none 0 0, .slice none 0 0] #[.int .u8 ph, .int .i64 ba, .slice A1 n c1, .string wi, .string va, .slice A2 m c2, .slice C k f]) := Lib.hid (by simpa using T1.out.step g2 5 (.slice A2 m c2))
  have O2 := Lib.hid (own_set1 (k := 5) o2 T1.out.size (.slice A2 m c2))
  have L2 : Hid (∀ q, Value.ownBlock (.slice A2 m c2) = some q → W1.heap.size ≤ q ∧ q < (w2.setCell ⟨w.heap.size + 1 + 1, 5, none⟩ (.slice A2 m c2)).heap.size) := Lib.hid (fun q hq => by rw [size_set]; exact o2.lt q hq)
  have G2 := Lib.hid (show W1.heap.size ≤ (w2.setCell ⟨w.heap.size + 1 + 1, 5, none⟩ (.slice A2 m c2)).heap.size by rw [size_set]; exact g2.size)
  have O1 := Lib.hid (own_step (i := 5) O1.out g2 (show w.heap.size + 1 + 1 < W0.heap.size from T0.out.size) (.slice A2 m c2))
  clear o2 g2
  generalize w2.setCell ⟨w.heap.size + 1 + 1, 5, none⟩ (.slice A2 m c2) = W2 at T2 L2 G2 O1 O2 ⊢
  obtain ⟨⟨s0, s1, s2, s3, s4, s5, s6⟩, _⟩ := T2.out.1.seven
  have HN3 := Lib.hid (World.ownsRow_nil W2 W2.heap.size 3 1)
  go_upto_region 5 with (at_builtin; refine wpList_append_g _ rfl _ _ 22 rfl W2.heap.size 3 i0 (.int .i64 0) 1 8 Try.underlying22 hi hz0 hz1 hz2 rfl (by omega) (.slice none 0 0) _ _ rfl HN3.out C k f (ic ac) rfl (R3.out _ T2.out.2.2.2) (ic_one _) (by unfold maxLen; omega) (by omega) (Nat.le_refl _) ?_; intro v2 w3 o3 g3 ob3; simp only [Nat.zero_add, List.nil_append] at o3; obtain ⟨A3, c3, rfl, _, _⟩ := own_form o3; obtain ⟨_, z0, z1, z2, z3, z4, z5, z6⟩ := (T2.out.2.2.1.grown g3 (by simp [Value.ownBlock])).seven)
  clear s0 s1 s2 s3 s4 s5 s6 z0 z1 z2 z3 z4 z5 z6 HN3 ob3
  have T3 : Hid (TwinSt w (w3.setCell ⟨w.heap.size + 1 + 1, 6, none⟩ (.slice A3 k c3)) #[.int .u8 ph, .int .i64 ba, .slice A n c, .string wi, .string va, .slice B m d, .slice C k f] #[.int .u8 0, .int .i64 0, .slice none 0 0, .string ⟨#[]⟩, .string ⟨#[]⟩, .slice none 0 0, .slice none 0 0] #[.int .u8 ph, .int .i64 ba, .slice A1 n c1, .string wi, .string va, .slice A2 m c2, .slice A3 k c3]) := Lib.hid (by simpa using T2.out.step g3 6 (.slice A3 k c3))
  have O3 := Lib.hid (own_set1 (k := 6) o3 T2.out.size (.slice A3 k c3))
  have L3 : Hid (∀ q, Value.ownBlock (.slice A3 k c3) = some q → W2.heap.size ≤ q ∧ q < (w3.setCell ⟨w.heap.size + 1 + 1, 6, none⟩ (.slice A3 k c3)).heap.size) := Lib.hid (fun q hq => by rw [size_set]; exact o3.lt q hq)
  have G3 := Lib.hid (show W2.heap.size ≤ (w3.setCell ⟨w.heap.size + 1 + 1, 6, none⟩ (.slice A3 k c3)).heap.size by rw [size_set]; exact g3.size)
  have O1 := Lib.hid (own_step (i := 6) O1.out g3 (show w.heap.size + 1 + 1 < W0.heap.size from T0.out.size) (.slice A3 k c3))
  have O2 := Lib.hid (own_step (i := 6) O2.out g3 (show w.heap.size + 1 + 1 < W1.heap.size from T1.out.size) (.slice A3 k c3))
  clear o3 g3
  generalize w3.setCell ⟨w.heap.size + 1 + 1, 6, none⟩ (.slice A3 k c3) = W3 at T3 L3 G3 O1 O2 O3 ⊢
  obtain ⟨⟨s0, s1, s2, s3, s4, s5, s6⟩, _⟩ := T3.out.1.seven
  clear s0 s1 s2 s3 s4 s5 s6
  obtain ⟨⟨s0, s1, s2, s3, s4, s5, s6⟩, _⟩ := T3.out.2.2.1.seven
  obtain ⟨_, z0, z1, z2, z3, z4, z5, z6⟩ := T3.out.2.1.seven
  have HF := Lib.hid (And.intro (own_put7 O1.out (g := w.heap.size + 1) (by have := T0.out.size; omega) (.int .u8 ph) (.int .i64 ba) (.slice A1 n c1) (.string wi) (.string va) (.slice A2 m c2) (.slice A3 k c3))
    (And.intro (own_put7 O2.out (g := w.heap.size + 1) (by have := T1.out.size; omega) (.int .u8 ph) (.int .i64 ba) (.slice A1 n c1) (.string wi) (.string va) (.slice A2 m c2) (.slice A3 k c3))
    (And.intro (own_put7 O3.out (g := w.heap.size + 1) (by have := T2.out.size; omega) (.int .u8 ph) (.int .i64 ba) (.slice A1 n c1) (.string wi) (.string va) (.slice A2 m c2) (.slice A3 k c3))
    (And.intro (below_put7 T3.out.2.2.2 (g := w.heap.size + 1) (by omega) (.int .u8 ph) (.int .i64 ba) (.slice A1 n c1) (.string wi) (.string va) (.slice A2 m c2) (.slice A3 k c3))
      (T3.out.2.1.put7 (.int .u8 ph) (.int .i64 ba) (.slice A1 n c1) (.string wi) (.string va) (.slice A2 m c2) (.slice A3 k c3))))))
  go_wp2_with fail
  unfold put7 at HF
  obtain ⟨q1, q3, q5, qb, qx⟩ := HF.out
  obtain ⟨⟨d0, d1, d2, d3, d4, d5, d6⟩, _⟩ := qx.seven
  have k1 := own_base q1 (show w.heap.size ≤ W0.heap.size by have := T0.out.size; omega)
  have k3 := own_base q3 (show w.heap.size ≤ W1.heap.size by have := T1.out.size; omega)
  have k5 := own_base q5 (show w.heap.size ≤ W2.heap.size by have := T2.out.size; omega)
  have kd := (fun q (hq : Value.ownBlock (.slice A1 n c1) = some q) => fun (hq2 : Value.ownBlock (.slice A3 k c3) = some q) => by
    have := L1.out q hq
    have := L3.out q hq2
    have := G2.out
    omega : ∀ q, Value.ownBlock (.slice A1 n c1) = some q → Value.ownBlock (.slice A3 k c3) ≠ some q)
  subst l1
  subst l2
  subst l3
  exact bodyPost_ret (v := .agg #[.int .u8 ph, .int .i64 ba, .slice A1 ms.length c1, .string wi, .string va, .slice A2 ps.length c2, .slice A3 ac.length c3]) (by simp [results, Try.results16, go_sem, d0, d1, d2, d3, d4, d5, d6]) rfl
    ⟨_, rfl, ⟨A1, c1, A2, c2, A3, c3, rfl, k1, k3, k5, kd⟩, qb⟩
end Go.Proofs.Ytmcfamoicdmkdaa
