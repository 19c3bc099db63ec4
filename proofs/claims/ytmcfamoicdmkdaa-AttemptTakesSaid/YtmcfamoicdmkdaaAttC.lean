/-
  What slices.Clone, slices.Equal and package attempt's Twin and Same answer. Conditions: as each theorem says.
-/
import Derived.Test.YtmcfamoicdmkdaaAttB
import Derived.Lib.SliceRun
import Derived.Deep.QuietTactic
import Derived.BigQuiet
namespace Go.Proofs.Ytmcfamoicdmkdaa
open Go.RowKit
set_option linter.unusedVariables false

theorem info_apr : (Try.prog.info? 31).map (fun i => (i.zero, i.size, i.bytes)) = some (some (.agg #[.int .i64 0, .int .i64 0, .string ⟨#[]⟩]), 3, 32) := by kernel_rfl

set_option maxHeartbeats 1000000 in
theorem cloneI_any (B : Option Addr) (m d : Nat) (xs : List Value) (w : World) (hr : RdG w 1 B m xs) (h1 : ∀ u ∈ xs, u.oneCell' = true) (hm : m ≤ 2000) :
    Calls Try.prog 44 #[.slice B m d] w (RowIs 3 1 m xs w) := by
  obtain ⟨i0, hi, hz0, hz1, hz2⟩ := info_parts info_ai
  have HR := Lib.hid hr
  have H1 := Lib.hid h1
  clear hr h1
  rcases B with _ | ad
  · have hn0 : m = 0 := by
      rcases Nat.eq_zero_or_pos m with h0 | h0
      · exact h0
      · obtain ⟨ad, h, _⟩ := HR.out.2 h0; cases h
    subst hn0
    have hl0 : xs = [] := List.eq_nil_of_length_eq_zero (by simpa using HR.out.1)
    have hfin : RowIs 3 1 0 xs w (.returned (.slice none 0 0)) w := ⟨_, _, rfl, by rw [hl0]; exact World.ownsRow_nil _ _ _ _, Below.refl _ _⟩
    have HF := Lib.hid hfin; clear hfin hl0
    have hnil : ∀ W, (binOp .eql 22 (.slice none 0 d) (.slice none 0 0)).run Try.prog W = .ok (.bool true) W := fun W => Lib.run_eql_slice_nil W _ _ _ _ _ _ _ Try.underlying22
    go_enter Try.func44, Try.ntmps44
    go_wp2_with fail
    go_ret
    exact HF.out
  · have hown0 : (w.alloc (.cells #[] 3)).ownsRow w.heap.size 3 1 (.slice (some ⟨w.heap.size, 0, none⟩) 0 0) 0 [] := World.ownsRow_made w #[] 0 (Nat.le_refl _) (by unfold maxLen; omega) (by simp)
    have hr0 : RdG (w.alloc (.cells #[] 3)) 1 (some ad) m xs := HR.out.alloc _
    have HO := Lib.hid hown0
    have HR0 := Lib.hid hr0
    clear hown0 hr0
    have hnil : ∀ W, (binOp .eql 22 (.slice (some ad) m d) (.slice none 0 0)).run Try.prog W = .ok (.bool false) W := fun W => Lib.run_eql_slice_nil W _ _ _ _ _ _ _ Try.underlying22
    go_enter Try.func44, Try.ntmps44
    go_wp2_with (at_builtin; refine wpList_append_g _ rfl _ _ 22 rfl w.heap.size 3 i0 _ 1 8 Try.underlying22 hi hz0 hz1 hz2 rfl (by omega) _ _ _ rfl HO.out (some ad) m d xs rfl HR0.out H1.out (by unfold maxLen; omega) (by omega) (by simp) ?_; intro v2 w2 hown2 hg2 hob2)
    go_ret
    simp only [Nat.zero_add, List.nil_append] at hown2
    obtain ⟨A', c', rfl, _, _⟩ := own_form hown2
    exact ⟨_, _, rfl, hown2, below_row ((Below.refl _ _).alloc (Nat.le_refl _) _) HO.out (by simp) hg2⟩

set_option maxHeartbeats 1000000 in
theorem cloneP_any (B : Option Addr) (m d : Nat) (xs : List Value) (w : World) (hr : RdG w 3 B m xs) (h1 : ∀ u ∈ xs, u.oneCell' = true) (hm : m ≤ 2000) :
    Calls Try.prog 45 #[.slice B m d] w (RowIs 31 3 m xs w) := by
  obtain ⟨i0, hi, hz0, hz1, hz2⟩ := info_parts info_apr
  have HR := Lib.hid hr
  have H1 := Lib.hid h1
  clear hr h1
  rcases B with _ | ad
  · have hn0 : m = 0 := by
      rcases Nat.eq_zero_or_pos m with h0 | h0
      · exact h0
      · obtain ⟨ad, h, _⟩ := HR.out.2 h0; cases h
    subst hn0
    have hl0 : xs = [] := List.eq_nil_of_length_eq_zero (by simpa using HR.out.1)
    have hfin : RowIs 31 3 0 xs w (.returned (.slice none 0 0)) w := ⟨_, _, rfl, by rw [hl0]; exact World.ownsRow_nil _ _ _ _, Below.refl _ _⟩
    have HF := Lib.hid hfin; clear hfin hl0
    have hnil : ∀ W, (binOp .eql 23 (.slice none 0 d) (.slice none 0 0)).run Try.prog W = .ok (.bool true) W := fun W => Lib.run_eql_slice_nil W _ _ _ _ _ _ _ Try.underlying23
    go_enter Try.func45, Try.ntmps45
    go_wp2_with fail
    go_ret
    exact HF.out
  · have hown0 : (w.alloc (.cells #[] 31)).ownsRow w.heap.size 31 3 (.slice (some ⟨w.heap.size, 0, none⟩) 0 0) 0 [] := World.ownsRow_made w #[] 0 (Nat.le_refl _) (by unfold maxLen; omega) (by simp)
    have hr0 : RdG (w.alloc (.cells #[] 31)) 3 (some ad) m xs := HR.out.alloc _
    have HO := Lib.hid hown0
    have HR0 := Lib.hid hr0
    clear hown0 hr0
    have hnil : ∀ W, (binOp .eql 23 (.slice (some ad) m d) (.slice none 0 0)).run Try.prog W = .ok (.bool false) W := fun W => Lib.run_eql_slice_nil W _ _ _ _ _ _ _ Try.underlying23
    go_enter Try.func45, Try.ntmps45
    go_wp2_with (at_builtin; refine wpList_append_g _ rfl _ _ 23 rfl w.heap.size 31 i0 _ 3 32 Try.underlying23 hi hz0 hz1 hz2 rfl (by omega) _ _ _ rfl HO.out (some ad) m d xs rfl HR0.out H1.out (by unfold maxLen; omega) (by omega) (by simp) ?_; intro v2 w2 hown2 hg2 hob2)
    go_ret
    simp only [Nat.zero_add, List.nil_append] at hown2
    obtain ⟨A', c', rfl, _, _⟩ := own_form hown2
    exact ⟨_, _, rfl, hown2, below_row ((Below.refl _ _).alloc (Nat.le_refl _) _) HO.out (by simp) hg2⟩

/-- an attempt in memory of its own; the rows of its members and of its accepted nodes lie apart -/
def AtNew (w : World) (base : Nat) (v : Value) (a : AM.At) : Prop :=
  ∃ A c B d C f, v = .agg #[.int .u8 a.ph, .int .i64 a.ba, .slice A a.ms.length c, .string a.wi, .string a.va, .slice B a.ps.length d, .slice C a.ac.length f] ∧
    w.ownsRow base 3 1 (.slice A a.ms.length c) a.ms.length (ic a.ms) ∧ w.ownsRow base 31 3 (.slice B a.ps.length d) a.ps.length (pp a.ps) ∧ w.ownsRow base 3 1 (.slice C a.ac.length f) a.ac.length (ic a.ac) ∧
    ∀ g, Value.ownBlock (.slice A a.ms.length c) = some g → Value.ownBlock (.slice C a.ac.length f) ≠ some g
theorem AtNew.own {w : World} {base : Nat} {v : Value} {a : AM.At} (h : AtNew w base v a) : AtOwn w base v a := by
  obtain ⟨A, c, B, d, C, f, e, h1, h2, h3, _⟩ := h
  exact ⟨_, _, _, e, h1, h2, h3⟩
/-- an attempt in new memory -/
def AtRet (a : AM.At) (w : World) (e : Ending) (w' : World) : Prop := ∃ v, e = .returned v ∧ AtNew w' w.heap.size v a ∧ Below w.heap.size w w'
theorem own_set1 {w : World} {base g k s n : Nat} {e : TypeId} {v : Value} {xs : List Value} (h : w.ownsRow base e s v n xs) (hg : g < base) (x : Value) : (w.setCell ⟨g, k, none⟩ x).ownsRow base e s v n xs := ownsRow_setCell_below h (a := ⟨g, k, none⟩) hg x
theorem Box.set7_2 {w : World} {g : Nat} {t : TypeId} {a b c d e f i : Value} (h : Box w g t #[a, b, c, d, e, f, i]) (x : Value) : Box (w.setCell ⟨g, 2, none⟩ x) g t #[a, b, x, d, e, f, i] := by simpa using h.stored 2 x
theorem Box.set7_5 {w : World} {g : Nat} {t : TypeId} {a b c d e f i : Value} (h : Box w g t #[a, b, c, d, e, f, i]) (x : Value) : Box (w.setCell ⟨g, 5, none⟩ x) g t #[a, b, c, d, e, x, i] := by simpa using h.stored 5 x
theorem Box.set7_6 {w : World} {g : Nat} {t : TypeId} {a b c d e f i : Value} (h : Box w g t #[a, b, c, d, e, f, i]) (x : Value) : Box (w.setCell ⟨g, 6, none⟩ x) g t #[a, b, c, d, e, f, x] := by simpa using h.stored 6 x
theorem size_set (w : World) (p : Addr) (x : Value) : (w.setCell p x).heap.size = w.heap.size := by simp [World.setCell]
theorem below_put1 {B g k : Nat} {a w : World} (h : Below B a w) (hg : B ≤ g) (x : Value) : Below B a (w.setCell ⟨g, k, none⟩ x) := h.setCell hg x
theorem rdG_set {w : World} {s m g k : Nat} {A : Option Addr} {xs : List Value} {B : Nat} {w0 : World} (h : RdG w0 s A m xs) (hb : Below w0.heap.size w0 w) : RdG w s A m xs := h.below hb

set_option maxRecDepth 100000 in
set_option maxHeartbeats 2000000 in
theorem twin_any (v : Value) (a : AM.At) (w : World) (H : AtIs w v a) (F : Fit a) :
    Calls Try.prog 19 #[v] w (AtRet a w) := by
  obtain ⟨A, n, c, B, m, d, C, k, f, rfl, h1, h2, h3⟩ := H
  obtain ⟨f1, f2, f3⟩ := AtIs.fit_n h1 h2 h3 F
  have l1 : a.ms.length = n := by have := h1.1; rwa [ic_length] at this
  have l2 : a.ps.length = m := h2.1
  have l3 : a.ac.length = k := by have := h3.1; rwa [ic_length] at this
  obtain ⟨ph, ba, ms, wi, va, ps, ac⟩ := a
  simp only at h1 h2 h3 l1 l2 l3 ⊢
  clear F
  obtain ⟨W0, hW0⟩ : ∃ W0, W0 = (w.alloc (.cells #[.int .u8 ph, .int .i64 ba, .slice A n c, .string wi, .string va, .slice B m d, .slice C k f] 25)).alloc (.cells #[.int .u8 0, .int .i64 0, .slice none 0 0, .string ⟨#[]⟩, .string ⟨#[]⟩, .slice none 0 0, .slice none 0 0] 25) := ⟨_, rfl⟩
  have hb0 : Below w.heap.size w W0 := by rw [hW0]; exact ((Below.refl _ _).alloc (Nat.le_refl _) _).alloc (by simp) _
  have hx0 : Box W0 w.heap.size 25 #[.int .u8 ph, .int .i64 ba, .slice A n c, .string wi, .string va, .slice B m d, .slice C k f] := by rw [hW0]; exact (Box.new _ _ _).alloc _
  have hy0 : Box W0 (w.heap.size + 1) 25 #[.int .u8 0, .int .i64 0, .slice none 0 0, .string ⟨#[]⟩, .string ⟨#[]⟩, .slice none 0 0, .slice none 0 0] := by rw [hW0]; exact Box.new_at _ (by simp)
  have hs0 : W0.heap.size = w.heap.size + 1 + 1 := by rw [hW0]; simp
  have HB0 := Lib.hid hb0
  have HX0 := Lib.hid hx0
  have HY0 := Lib.hid hy0
  have HS0 := Lib.hid hs0
  have g1 := h1.below hb0
  have g2 := h2.below hb0
  have g3 := h3.below hb0
  have HC := Lib.hid (fun (W : World) (hb : Below w.heap.size w W) => cloneI_any A n c (ic ms) W (h1.below hb).g (ic_one _) f1)
  have HD := Lib.hid (fun (W : World) (hb : Below w.heap.size w W) => cloneP_any B m d (pp ps) W (h2.below hb).g (pp_one _) f2)
  have HE := Lib.hid (fun (W : World) (hb : Below w.heap.size w W) => cloneI_any C k f (ic ac) W (h3.below hb).g (ic_one _) f3)
  clear hb0 hx0 hy0 hs0 h1 h2 h3
  go_enter Try.func19, Try.ntmps19
  go_wp2_with fail
  rw [← hW0]
  clear hW0
  refine (HC.out _ HB0.out).mono ?_
  rintro e w1 ⟨A1, c1, rfl, o1, b1⟩
  have hgs : w.heap.size < W0.heap.size := by rw [HS0.out]; omega
  have x1 := HX0.out.below b1 HX0.out.lt
  have y1 := HY0.out.below b1 HY0.out.lt
  obtain ⟨⟨t0, t1, t2, t3, t4, t5, t6⟩, u0, u1, u2, u3, u4, u5, u6⟩ := x1.seven
  have HX1 := Lib.hid (x1.set7_2 (.slice A1 n c1))
  have HY1 := Lib.hid (y1.far (p := ⟨w.heap.size, 2, none⟩) (by simp) (.slice A1 n c1))
  have HO1 := Lib.hid (own_set1 (k := 2) o1 hgs (.slice A1 n c1))
  have HB1 := Lib.hid (below_put1 (g := w.heap.size) (k := 2) (bmore HB0.out b1 (by omega)) (Nat.le_refl _) (.slice A1 n c1))
  have HY1s := Lib.hid (show w.heap.size + 1 < (w1.setCell ⟨w.heap.size, 2, none⟩ (.slice A1 n c1)).heap.size by rw [size_set]; have := b1.size; have := HS0.out; omega)
  have HS1 := Lib.hid (show w.heap.size < (w1.setCell ⟨w.heap.size, 2, none⟩ (.slice A1 n c1)).heap.size by rw [size_set]; have := b1.size; omega)
  have HL1 := Lib.hid (fun q (hq : Value.ownBlock (.slice A1 n c1) = some q) => by rw [size_set]; exact (o1.lt q hq).2 : ∀ q, Value.ownBlock (.slice A1 n c1) = some q → q < (w1.setCell ⟨w.heap.size, 2, none⟩ (.slice A1 n c1)).heap.size)
  clear o1 b1 x1 y1 HX0 HY0
  go_wp2_with fail
  generalize w1.setCell ⟨w.heap.size, 2, none⟩ (.slice A1 n c1) = w2 at HX1 HY1 HO1 HB1 HS1 HY1s HL1 ⊢
  clear t0 t1 t2 t3 t4 t5 t6 u0 u1 u2 u3 u4 u5 u6
  refine (HD.out _ HB1.out).mono ?_
  rintro e w3 ⟨A3, c3, rfl, o3, b3⟩
  have x1 := HX1.out.below b3 HX1.out.lt
  have y1 := HY1.out.below b3 HY1.out.lt
  obtain ⟨⟨t0, t1, t2, t3, t4, t5, t6⟩, u0, u1, u2, u3, u4, u5, u6⟩ := x1.seven
  have HX3 := Lib.hid (x1.set7_5 (.slice A3 m c3))
  have HY3 := Lib.hid (y1.far (p := ⟨w.heap.size, 5, none⟩) (by simp) (.slice A3 m c3))
  have HO1b := Lib.hid (own_set1 (k := 5) (own_below3 HO1.out b3) hgs (.slice A3 m c3))
  have HO3 := Lib.hid (own_set1 (k := 5) o3 HS1.out (.slice A3 m c3))
  have HB3 := Lib.hid (below_put1 (g := w.heap.size) (k := 5) (bmore HB1.out b3 (Nat.le_refl _)) (Nat.le_refl _) (.slice A3 m c3))
  have HS3 := Lib.hid (show w2.heap.size ≤ (w3.setCell ⟨w.heap.size, 5, none⟩ (.slice A3 m c3)).heap.size by rw [size_set]; exact b3.size)
  clear o3 b3 x1 y1 HX1 HY1 HB1 HO1
  go_wp2_with fail
  generalize w3.setCell ⟨w.heap.size, 5, none⟩ (.slice A3 m c3) = w4 at HX3 HY3 HO1b HO3 HB3 HS3 ⊢
  clear t0 t1 t2 t3 t4 t5 t6 u0 u1 u2 u3 u4 u5 u6
  refine (HE.out _ HB3.out).mono ?_
  rintro e w5 ⟨A5, c5, rfl, o5, b5⟩
  have x1 := HX3.out.below b5 HX3.out.lt
  have y1 := HY3.out.below b5 HY3.out.lt
  obtain ⟨⟨t0, t1, t2, t3, t4, t5, t6⟩, u0, u1, u2, u3, u4, u5, u6⟩ := x1.seven
  obtain ⟨_, v0, v1, v2, v3, v4, v5, v6⟩ := y1.seven
  have hS3 := HS3.out
  have hS1 := HS1.out
  have p1 := own_set1 (k := 6) (own_below3 HO1b.out b5) hgs (.slice A5 k c5)
  have p3 := own_set1 (k := 6) (own_below3 HO3.out b5) hS1 (.slice A5 k c5)
  have p5 := own_set1 (k := 6) o5 (show w.heap.size < w4.heap.size by omega) (.slice A5 k c5)
  have z1 := y1.far (p := ⟨w.heap.size, 6, none⟩) (by simp) (.slice A5 k c5)
  have hbb := below_put1 (g := w.heap.size) (k := 6) (bmore HB3.out b5 (Nat.le_refl _)) (Nat.le_refl _) (.slice A5 k c5)
  have hS5 := b5.size
  have HDJ := Lib.hid (fun q (hq : Value.ownBlock (.slice A1 n c1) = some q) => fun (hq2 : Value.ownBlock (.slice A5 k c5) = some q) => by
    have := HL1.out q hq
    have := (o5.lt q hq2).1
    omega : ∀ q, Value.ownBlock (.slice A1 n c1) = some q → Value.ownBlock (.slice A5 k c5) ≠ some q)
  have HF := Lib.hid (And.intro (own_put7 (own_base p1 (Nat.le_refl _)) (g := w.heap.size + 1) (by rw [HS0.out]; omega) (.int .u8 ph) (.int .i64 ba) (.slice A1 n c1) (.string wi) (.string va) (.slice A3 m c3) (.slice A5 k c5))
    (And.intro (own_put7 p3 (g := w.heap.size + 1) (by have := HY1s.out; omega) (.int .u8 ph) (.int .i64 ba) (.slice A1 n c1) (.string wi) (.string va) (.slice A3 m c3) (.slice A5 k c5))
    (And.intro (own_put7 p5 (g := w.heap.size + 1) (by have := HY1s.out; omega) (.int .u8 ph) (.int .i64 ba) (.slice A1 n c1) (.string wi) (.string va) (.slice A3 m c3) (.slice A5 k c5))
    (And.intro (below_put7 hbb (g := w.heap.size + 1) (by omega) (.int .u8 ph) (.int .i64 ba) (.slice A1 n c1) (.string wi) (.string va) (.slice A3 m c3) (.slice A5 k c5))
      (z1.put7 (.int .u8 ph) (.int .i64 ba) (.slice A1 n c1) (.string wi) (.string va) (.slice A3 m c3) (.slice A5 k c5))))))
  clear p1 p3 p5 z1 hbb hS1 hS3 hS5 o5 b5 x1 y1 HX3 HY3 HO1b HO3 HB3
  go_wp2_with fail
  unfold put7 at HF
  obtain ⟨q1, q3, q5, qb, qx⟩ := HF.out
  obtain ⟨⟨d0, d1, d2, d3, d4, d5, d6⟩, _⟩ := qx.seven
  have k1 := own_base q1 (show w.heap.size ≤ W0.heap.size by omega)
  have k3 := own_base q3 (show w.heap.size ≤ w2.heap.size by have := HS1.out; omega)
  have k5 := own_base q5 (show w.heap.size ≤ w4.heap.size by have := HS1.out; have := HS3.out; omega)
  have kd := HDJ.out
  subst l1
  subst l2
  subst l3
  exact bodyPost_ret (v := .agg #[.int .u8 ph, .int .i64 ba, .slice A1 ms.length c1, .string wi, .string va, .slice A3 ps.length c3, .slice A5 ac.length c5]) (by simp [results, Try.results19, go_sem, d0, d1, d2, d3, d4, d5, d6]) rfl
    ⟨_, rfl, ⟨A1, c1, A3, c3, A5, c5, rfl, k1, k3, k5, kd⟩, qb⟩
end Go.Proofs.Ytmcfamoicdmkdaa
