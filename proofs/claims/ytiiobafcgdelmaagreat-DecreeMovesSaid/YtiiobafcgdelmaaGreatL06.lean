/- Contracts of functions of towncrier, layers 5 to 9, and of the document's own ones, part 6; each as its theorem says. -/
import Derived.Test.YtiiobafcgdelmaaGreatL01
import Derived.Test.YtiiobafcgdelmaaGreatL05
import Derived.Lib.SliceRun
import Derived.Deep.QuietTactic
import Derived.BigQuiet
set_option linter.unusedVariables false
set_option linter.unusedSimpArgs false
namespace Go.Proofs.YtiiobafcgdelmaaGreat
open Go.RowKit
theorem info_apr : (Tryz.prog.info? 86).map (fun i => (i.zero, i.size, i.bytes)) = some (some (.agg #[.int .i64 0, .int .i64 0, .string ⟨#[]⟩]), 3, 32) := by kernel_rfl
set_option maxHeartbeats 1000000 in
theorem cloneI_any (B : Option Addr) (m d : Nat) (xs : List Value) (w : World) (hr : RdG w 1 B m xs) (h1 : ∀ u ∈ xs, u.oneCell' = true) (hm : m ≤ 2000) :
  Calls Tryz.prog 29 #[.slice B m d] w (RowIs 3 1 m xs w) := by
 obtain ⟨i0, hi, hz0, hz1, hz2⟩ := info_parts info_ai
 have HR := h! hr
 have H1 := h! h1
 clear hr h1
 rcases B with _ | ad
 ·have hn0 : m = 0 := by
   rcases Nat.eq_zero_or_pos m with h0 | h0
   ·exact h0
   ·obtain ⟨ad, h, _⟩ := HR.out.2 h0; cases h
  subst hn0
  have hl0 : xs = [] := List.eq_nil_of_length_eq_zero (by simpa using HR.out.1)
  have hfin : RowIs 3 1 0 xs w (.returned (.slice none 0 0)) w := ⟨_, _, rfl, by rw [hl0]; exact World.ownsRow_nil _ _ _ _, Below.refl _ _⟩
  have HF := h! hfin; clear hfin hl0
  have hnil : ∀ W, (binOp .eql 22 (.slice none 0 d) (.slice none 0 0)).run Tryz.prog W = .ok (.bool true) W := fun W => Lib.run_eql_slice_nil W _ _ _ _ _ _ _ Tryz.underlying22
  go_enter Tryz.func29, Tryz.ntmps29
  go_wp2_with fail
  go_ret
  exact HF.out
 ·have hown0 : (w.alloc (.cells #[] 3)).ownsRow w.heap.size 3 1 (.slice (some ⟨w.heap.size, 0, none⟩) 0 0) 0 [] := World.ownsRow_made w #[] 0 n! (by unfold maxLen; omega) (by simp)
  have hr0 : RdG (w.alloc (.cells #[] 3)) 1 (some ad) m xs := HR.out.alloc _
  have HO := h! hown0
  have HR0 := h! hr0
  clear hown0 hr0
  have hnil : ∀ W, (binOp .eql 22 (.slice (some ad) m d) (.slice none 0 0)).run Tryz.prog W = .ok (.bool false) W := fun W => Lib.run_eql_slice_nil W _ _ _ _ _ _ _ Tryz.underlying22
  go_enter Tryz.func29, Tryz.ntmps29
  go_wp2_with (at_builtin; refine wpList_append_g _ rfl _ _ 22 rfl w.heap.size 3 i0 _ 1 8 Tryz.underlying22 hi hz0 hz1 hz2 rfl (by omega) _ _ _ rfl HO.out (some ad) m d xs rfl HR0.out H1.out (by unfold maxLen; omega) (by omega) (by simp) ?_; intro v2 w2 hown2 hg2 hob2)
  go_ret
  simp only [Nat.zero_add, List.nil_append] at hown2
  obtain ⟨A', c', rfl, _, _⟩ := own_form hown2
  exact ⟨_, _, rfl, hown2, below_row ((Below.refl _ _).alloc n! _) HO.out (by simp) hg2⟩
set_option maxHeartbeats 1000000 in
theorem cloneP_any (B : Option Addr) (m d : Nat) (xs : List Value) (w : World) (hr : RdG w 3 B m xs) (h1 : ∀ u ∈ xs, u.oneCell' = true) (hm : m ≤ 2000) :
  Calls Tryz.prog 63 #[.slice B m d] w (RowIs 86 3 m xs w) := by
 obtain ⟨i0, hi, hz0, hz1, hz2⟩ := info_parts info_apr
 have HR := h! hr
 have H1 := h! h1
 clear hr h1
 rcases B with _ | ad
 ·have hn0 : m = 0 := by
   rcases Nat.eq_zero_or_pos m with h0 | h0
   ·exact h0
   ·obtain ⟨ad, h, _⟩ := HR.out.2 h0; cases h
  subst hn0
  have hl0 : xs = [] := List.eq_nil_of_length_eq_zero (by simpa using HR.out.1)
  have hfin : RowIs 86 3 0 xs w (.returned (.slice none 0 0)) w := ⟨_, _, rfl, by rw [hl0]; exact World.ownsRow_nil _ _ _ _, Below.refl _ _⟩
  have HF := h! hfin; clear hfin hl0
  have hnil : ∀ W, (binOp .eql 55 (.slice none 0 d) (.slice none 0 0)).run Tryz.prog W = .ok (.bool true) W := fun W => Lib.run_eql_slice_nil W _ _ _ _ _ _ _ Tryz.underlying55
  go_enter Tryz.func63, Tryz.ntmps63
  go_wp2_with fail
  go_ret
  exact HF.out
 ·have hown0 : (w.alloc (.cells #[] 86)).ownsRow w.heap.size 86 3 (.slice (some ⟨w.heap.size, 0, none⟩) 0 0) 0 [] := World.ownsRow_made w #[] 0 n! (by unfold maxLen; omega) (by simp)
  have hr0 : RdG (w.alloc (.cells #[] 86)) 3 (some ad) m xs := HR.out.alloc _
  have HO := h! hown0
  have HR0 := h! hr0
  clear hown0 hr0
  have hnil : ∀ W, (binOp .eql 55 (.slice (some ad) m d) (.slice none 0 0)).run Tryz.prog W = .ok (.bool false) W := fun W => Lib.run_eql_slice_nil W _ _ _ _ _ _ _ Tryz.underlying55
  go_enter Tryz.func63, Tryz.ntmps63
  go_wp2_with (at_builtin; refine wpList_append_g _ rfl _ _ 55 rfl w.heap.size 86 i0 _ 3 32 Tryz.underlying55 hi hz0 hz1 hz2 rfl (by omega) _ _ _ rfl HO.out (some ad) m d xs rfl HR0.out H1.out (by unfold maxLen; omega) (by omega) (by simp) ?_; intro v2 w2 hown2 hg2 hob2)
  go_ret
  simp only [Nat.zero_add, List.nil_append] at hown2
  obtain ⟨A', c', rfl, _, _⟩ := own_form hown2
  exact ⟨_, _, rfl, hown2, below_row ((Below.refl _ _).alloc n! _) HO.out (by simp) hg2⟩
def AtNew (w : World) (base : Nat) (v : Value) (a : AM.At) : Prop :=
 ∃ A c B d C f, v = .agg #[.int .u8 a.ph, .int .i64 a.ba, .slice A a.ms.length c, .string a.wi, .string a.va, .slice B a.ps.length d, .slice C a.ac.length f] ∧
  w.ownsRow base 3 1 (.slice A a.ms.length c) a.ms.length (ic a.ms) ∧ w.ownsRow base 86 3 (.slice B a.ps.length d) a.ps.length (pp a.ps) ∧ w.ownsRow base 3 1 (.slice C a.ac.length f) a.ac.length (ic a.ac) ∧
  ∀ g, Value.ownBlock (.slice A a.ms.length c) = some g → Value.ownBlock (.slice C a.ac.length f) ≠ some g
theorem AtNew.own {w : World} {base : Nat} {v : Value} {a : AM.At} (h : AtNew w base v a) : AtOwn w base v a := by
 obtain ⟨A, c, B, d, C, f, e, h1, h2, h3, _⟩ := h
 exact ⟨_, _, _, e, h1, h2, h3⟩
def AtRet (a : AM.At) (w : World) (e : Ending) (w' : World) : Prop := ∃ v, e = .returned v ∧ AtNew w' w.heap.size v a ∧ Below w.heap.size w w'
theorem own_set1 {w : World} {base g k s n : Nat} {e : TypeId} {v : Value} {xs : List Value} (h : w.ownsRow base e s v n xs) (hg : g < base) (x : Value) : (w.setCell ⟨g, k, none⟩ x).ownsRow base e s v n xs := ownsRow_setCell_below h (a := ⟨g, k, none⟩) hg x
theorem Box.set7_2 {w : World} {g : Nat} {t : TypeId} {a b c d e f i : Value} (h : Box w g t #[a, b, c, d, e, f, i]) (x : Value) : Box (w.setCell ⟨g, 2, none⟩ x) g t #[a, b, x, d, e, f, i] := by simpa using h.stored 2 x
theorem Box.set7_5 {w : World} {g : Nat} {t : TypeId} {a b c d e f i : Value} (h : Box w g t #[a, b, c, d, e, f, i]) (x : Value) : Box (w.setCell ⟨g, 5, none⟩ x) g t #[a, b, c, d, e, x, i] := by simpa using h.stored 5 x
theorem Box.set7_6 {w : World} {g : Nat} {t : TypeId} {a b c d e f i : Value} (h : Box w g t #[a, b, c, d, e, f, i]) (x : Value) : Box (w.setCell ⟨g, 6, none⟩ x) g t #[a, b, c, d, e, f, x] := by simpa using h.stored 6 x
theorem size_set (w : World) (p : Addr) (x : Value) : (w.setCell p x).heap.size = w.heap.size := by simp [World.setCell]
theorem below_put1 {B g k : Nat} {a w : World} (h : Below B a w) (hg : B ≤ g) (x : Value) : Below B a (w.setCell ⟨g, k, none⟩ x) := h.setCell hg x
set_option maxRecDepth 100000 in
set_option maxHeartbeats 2000000 in
theorem twin_any (v : Value) (a : AM.At) (w : World) (H : AtIs w v a) (F : Fit a) :
  Calls Tryz.prog 32 #[v] w (AtRet a w) := by
 obtain ⟨A, n, c, B, m, d, C, k, f, rfl, h1, h2, h3⟩ := H
 obtain ⟨f1, f2, f3⟩ := AtIs.fit_n h1 h2 h3 F
 have l1 : a.ms.length = n := by have := h1.1; rwa [ic_length] at this
 have l2 : a.ps.length = m := h2.1
 have l3 : a.ac.length = k := by have := h3.1; rwa [ic_length] at this
 obtain ⟨ph, ba, ms, wi, va, ps, ac⟩ := a
 simp only at h1 h2 h3 l1 l2 l3 ⊢
 clear F
 obtain ⟨W0, hW0⟩ : ∃ W0, W0 = (w.alloc (.cells #[.int .u8 ph, .int .i64 ba, .slice A n c, .string wi, .string va, .slice B m d, .slice C k f] 57)).alloc (.cells #[.int .u8 0, .int .i64 0, .slice none 0 0, .string ⟨#[]⟩, .string ⟨#[]⟩, .slice none 0 0, .slice none 0 0] 57) := ⟨_, rfl⟩
 have hb0 : Below w.heap.size w W0 := by rw [hW0]; exact ((Below.refl _ _).alloc n! _).alloc (by simp) _
 have hx0 : Box W0 w.heap.size 57 #[.int .u8 ph, .int .i64 ba, .slice A n c, .string wi, .string va, .slice B m d, .slice C k f] := by rw [hW0]; exact (Box.new _ _ _).alloc _
 have hy0 : Box W0 (w.heap.size + 1) 57 #[.int .u8 0, .int .i64 0, .slice none 0 0, .string ⟨#[]⟩, .string ⟨#[]⟩, .slice none 0 0, .slice none 0 0] := by rw [hW0]; exact Box.new_at _ (by simp)
 have hs0 : W0.heap.size = w.heap.size + 1 + 1 := by rw [hW0]; simp
 have HB0 := h! hb0
 have HX0 := h! hx0
 have HY0 := h! hy0
 have HS0 := h! hs0
 have g1 := h1.below hb0
 have g2 := h2.below hb0
 have g3 := h3.below hb0
 have HC := h! (fun (W : World) (hb : Below w.heap.size w W) => cloneI_any A n c (ic ms) W (h1.below hb).g (ic_one _) f1)
 have HD := h! (fun (W : World) (hb : Below w.heap.size w W) => cloneP_any B m d (pp ps) W (h2.below hb).g (pp_one _) f2)
 have HE := h! (fun (W : World) (hb : Below w.heap.size w W) => cloneI_any C k f (ic ac) W (h3.below hb).g (ic_one _) f3)
 clear hb0 hx0 hy0 hs0 h1 h2 h3
 go_enter Tryz.func32, Tryz.ntmps32
 go_wp2_with fail
 rw [← hW0]
 clear hW0
 refine (HC.out _ HB0.out).mono ?_
 rintro e w1 ⟨A1, c1, rfl, o1, b1⟩
 have hgs : w.heap.size < W0.heap.size := by rw [HS0.out]; omega
 have x1 := HX0.out.below b1 HX0.out.lt
 have y1 := HY0.out.below b1 HY0.out.lt
 obtain ⟨⟨t0, t1, t2, t3, t4, t5, t6⟩, u0, u1, u2, u3, u4, u5, u6⟩ := x1.seven
 have HX1 := h! (x1.set7_2 (.slice A1 n c1))
 have HY1 := h! (y1.far (p := ⟨w.heap.size, 2, none⟩) (by simp) (.slice A1 n c1))
 have HO1 := h! (own_set1 (k := 2) o1 hgs (.slice A1 n c1))
 have HB1 := h! (below_put1 (g := w.heap.size) (k := 2) (bmore HB0.out b1 (by omega)) n! (.slice A1 n c1))
 have HY1s := h! (show w.heap.size + 1 < (w1.setCell ⟨w.heap.size, 2, none⟩ (.slice A1 n c1)).heap.size by rw [size_set]; have := b1.size; have := HS0.out; omega)
 have HS1 := h! (show w.heap.size < (w1.setCell ⟨w.heap.size, 2, none⟩ (.slice A1 n c1)).heap.size by rw [size_set]; have := b1.size; omega)
 have HL1 := h! (fun q (hq : Value.ownBlock (.slice A1 n c1) = some q) => by rw [size_set]; exact (o1.lt q hq).2 : ∀ q, Value.ownBlock (.slice A1 n c1) = some q → q < (w1.setCell ⟨w.heap.size, 2, none⟩ (.slice A1 n c1)).heap.size)
 clear o1 b1 x1 y1 HX0 HY0
 go_wp2_with fail
 generalize w1.setCell ⟨w.heap.size, 2, none⟩ (.slice A1 n c1) = w2 at HX1 HY1 HO1 HB1 HS1 HY1s HL1 ⊢
 clear t0 t1 t2 t3 t4 t5 t6 u0 u1 u2 u3 u4 u5 u6
 refine (HD.out _ HB1.out).mono ?_
 rintro e w3 ⟨A3, c3, rfl, o3, b3⟩
 have x1 := HX1.out.below b3 HX1.out.lt
 have y1 := HY1.out.below b3 HY1.out.lt
 obtain ⟨⟨t0, t1, t2, t3, t4, t5, t6⟩, u0, u1, u2, u3, u4, u5, u6⟩ := x1.seven
 have HX3 := h! (x1.set7_5 (.slice A3 m c3))
 have HY3 := h! (y1.far (p := ⟨w.heap.size, 5, none⟩) (by simp) (.slice A3 m c3))
 have HO1b := h! (own_set1 (k := 5) (own_below3 HO1.out b3) hgs (.slice A3 m c3))
 have HO3 := h! (own_set1 (k := 5) o3 HS1.out (.slice A3 m c3))
 have HB3 := h! (below_put1 (g := w.heap.size) (k := 5) (bmore HB1.out b3 n!) n! (.slice A3 m c3))
 have HS3 := h! (show w2.heap.size ≤ (w3.setCell ⟨w.heap.size, 5, none⟩ (.slice A3 m c3)).heap.size by rw [size_set]; exact b3.size)
 clear o3 b3 x1 y1 HX1 HY1 HB1 HO1
 go_wp2_with fail
 generalize w3.setCell ⟨w.heap.size, 5, none⟩ (.slice A3 m c3) = w4 at HX3 HY3 HO1b HO3 HB3 HS3 ⊢
 clear t0 t1 t2 t3 t4 t5 t6 u0 u1 u2 u3 u4 u5 u6
 refine (HE.out _ HB3.out).mono ?_
 rintro e w5 ⟨A5, c5, rfl, o5, b5⟩
 have x1 := HX3.out.below b5 HX3.out.lt
 have y1 := HY3.out.below b5 HY3.out.lt
 obtain ⟨⟨t0, t1, t2, t3, t4, t5, t6⟩, u0, u1, u2, u3, u4, u5, u6⟩ := x1.seven
 obtain ⟨_, v0, v1, v2, v3, v4, v5, v6⟩ := y1.seven
 have hS3 := HS3.out
 have hS1 := HS1.out
 have p1 := own_set1 (k := 6) (own_below3 HO1b.out b5) hgs (.slice A5 k c5)
 have p3 := own_set1 (k := 6) (own_below3 HO3.out b5) hS1 (.slice A5 k c5)
 have p5 := own_set1 (k := 6) o5 (show w.heap.size < w4.heap.size by omega) (.slice A5 k c5)
 have z1 := y1.far (p := ⟨w.heap.size, 6, none⟩) (by simp) (.slice A5 k c5)
 have hbb := below_put1 (g := w.heap.size) (k := 6) (bmore HB3.out b5 n!) n! (.slice A5 k c5)
 have hS5 := b5.size
 have HDJ := h! (fun q (hq : Value.ownBlock (.slice A1 n c1) = some q) => fun (hq2 : Value.ownBlock (.slice A5 k c5) = some q) => by
  have := HL1.out q hq
  have := (o5.lt q hq2).1
  omega : ∀ q, Value.ownBlock (.slice A1 n c1) = some q → Value.ownBlock (.slice A5 k c5) ≠ some q)
 have HF := h! (And.intro (own_put7 (own_base p1 n!) (g := w.heap.size + 1) (by rw [HS0.out]; omega) (.int .u8 ph) (.int .i64 ba) (.slice A1 n c1) (.string wi) (.string va) (.slice A3 m c3) (.slice A5 k c5))
  (And.intro (own_put7 p3 (g := w.heap.size + 1) (by have := HY1s.out; omega) (.int .u8 ph) (.int .i64 ba) (.slice A1 n c1) (.string wi) (.string va) (.slice A3 m c3) (.slice A5 k c5))
  (And.intro (own_put7 p5 (g := w.heap.size + 1) (by have := HY1s.out; omega) (.int .u8 ph) (.int .i64 ba) (.slice A1 n c1) (.string wi) (.string va) (.slice A3 m c3) (.slice A5 k c5))
  (And.intro (below_put7 hbb (g := w.heap.size + 1) (by omega) (.int .u8 ph) (.int .i64 ba) (.slice A1 n c1) (.string wi) (.string va) (.slice A3 m c3) (.slice A5 k c5))
   (z1.put7 (.int .u8 ph) (.int .i64 ba) (.slice A1 n c1) (.string wi) (.string va) (.slice A3 m c3) (.slice A5 k c5))))))
 clear p1 p3 p5 z1 hbb hS1 hS3 hS5 o5 b5 x1 y1 HX3 HY3 HO1b HO3 HB3
 go_wp2_with fail
 unfold put7 at HF
 obtain ⟨q1, q3, q5, qb, qx⟩ := HF.out
 obtain ⟨⟨d0, d1, d2, d3, d4, d5, d6⟩, _⟩ := qx.seven
 have k1 := own_base q1 (show w.heap.size ≤ W0.heap.size by omega)
 have k3 := own_base q3 (show w.heap.size ≤ w2.heap.size by have := HS1.out; omega)
 have k5 := own_base q5 (show w.heap.size ≤ w4.heap.size by have := HS1.out; have := HS3.out; omega)
 have kd := HDJ.out
 subst l1
 subst l2
 subst l3
 exact bodyPost_ret (v := .agg #[.int .u8 ph, .int .i64 ba, .slice A1 ms.length c1, .string wi, .string va, .slice A3 ps.length c3, .slice A5 ac.length c5]) (by simp [results, Tryz.results32, go_sem, d0, d1, d2, d3, d4, d5, d6]) rfl
  ⟨_, rfl, ⟨A1, c1, A3, c3, A5, c5, rfl, k1, k3, k5, kd⟩, qb⟩
def BoolQ (b : Bool) (w : World) (e : Ending) (w' : World) : Prop := e = .returned (.bool b) ∧ ∃ q, w' = w.drewN q
theorem take_snoc_eq {α : Type} {xs ys : List α} {k : Nat} {a b : α} (h : xs.take k = ys.take k) (h1 : xs[k]? = some a) (h2 : ys[k]? = some b) (e : a = b) : xs.take (k + 1) = ys.take (k + 1) := by
 have g1 := List.getElem?_eq_some_iff.1 h1
 have g2 := List.getElem?_eq_some_iff.1 h2
 obtain ⟨l1, g1⟩ := g1
 obtain ⟨l2, g2⟩ := g2
 rw [List.take_succ_eq_append_getElem l1, List.take_succ_eq_append_getElem l2, h, g1, g2, e]
theorem ne_of_at {α : Type} {xs ys : List α} {k : Nat} {a b : α} (h1 : xs[k]? = some a) (h2 : ys[k]? = some b) (e : a ≠ b) : xs ≠ ys := fun h => e (by rw [h, h2] at h1; injection h1 with h1; exact h1.symm)
theorem ic_at {zs : List Int} {k : Nat} {u : Value} (h : (ic zs)[k]? = some u) : ∃ z, zs[k]? = some z ∧ u = .int .i64 z := by
 simp only [ic, List.getElem?_map, Option.map_eq_some_iff] at h
 obtain ⟨z, h1, h2⟩ := h
 exact ⟨z, h1, h2.symm⟩
set_option maxHeartbeats 1000000 in
theorem equalI_any (A : Option Addr) (n c : Nat) (xs : List Int) (B : Option Addr) (m d : Nat) (ys : List Int) (w : World) (h1 : Rd w A n (ic xs)) (h2 : Rd w B m (ic ys)) (hm : n ≤ 9223372036854775807) (hm2 : m ≤ 9223372036854775807) :
  Calls Tryz.prog 44 #[.slice A n c, .slice B m d] w (BoolQ (decide (xs = ys)) w) := by
 have l1 : xs.length = n := by have := h1.1; rwa [ic_length] at this
 have l2 : ys.length = m := by have := h2.1; rwa [ic_length] at this
 obtain ⟨r, hr⟩ : ∃ r, r = decide (xs = ys) := ⟨_, rfl⟩
 rw [← hr]
 have HR := h! hr; clear hr
 by_cases hnm : n = m
 ·subst hnm
  have HL1 := h! l1
  have HL2 := h! l2
  clear l1 l2
  have hne : ((n : Int) != (n : Int)) = false := by simp
  have HS := h! (show xs.take 0 = ys.take 0 by simp)
  go_enter Tryz.func44, Tryz.ntmps44
  go_wp2
  go_loopw [13] (fun i wr => ∃ k q : Nat, k ≤ n ∧ i = .int .i64 k ∧ wr = w.drewN q ∧ Hid (xs.take k = ys.take k)) (fun i _ => n - (intOf i).toNat)
  case atStart => exact ⟨0, 0, by omega, rfl, rfl, HS⟩
  case round =>
   clear HS
   obtain ⟨k, q, hk, rfl, rfl, HT⟩ := hrel
   by_cases hlt : k < n
   ·obtain ⟨ad1, u1, rfl, _, hu1, hcell1⟩ := h1.at_ hlt
    obtain ⟨ad2, u2, rfl, _, hu2, hcell2⟩ := h2.at_ hlt
    obtain ⟨z1, e1, rfl⟩ := ic_at hu1
    obtain ⟨z2, e2, rfl⟩ := ic_at hu2
    have hk0 : (0 : Int) ≤ (k : Int) := by omega
    have hkn : (k : Int) < (n : Int) := by omega
    clear hu1 hu2
    by_cases he : z1 = z2
    ·subst he
     have HT2 := h! (take_snoc_eq HT.out e1 e2 rfl)
     clear e1 e2 HT
     have hbz : (z1 != z1) = false := by simp
     go_wp2_with fail
     go_quiet (fail)
     go_wp2_with fail
     go_roundw
     case rel => exact ⟨k + 1, q + nq, by omega, by go_num, by simp, HT2⟩
     case measure => simp [intOf]; omega
    ·have HN := h! (ne_of_at e1 e2 he)
     have hbz : (z1 != z2) = true := by simpa using he
     clear e1 e2 HT he
     go_wp2_with fail
     go_quiet (fail)
     go_wp2_with fail
     go_ret
     exact ⟨by rw [HR.out]; simp [HN.out], q + nq, by simp⟩
   ·obtain rfl : n = k := by omega
    have ht : xs = ys := by
     have := HT.out
     rwa [List.take_of_length_le (by have := HL1.out; omega), List.take_of_length_le (by have := HL2.out; omega)] at this
    have HE := h! ht; clear ht HT
    go_wp2
    go_ret
    exact ⟨by rw [HR.out]; simp [HE.out], q, rfl⟩
 ·have hne : ((n : Int) != (m : Int)) = true := by simp; omega
  have hn : ¬ xs = ys := fun e => hnm (by rw [← l1, ← l2, e])
  have hf : r = false := by rw [HR.out]; simpa using hn
  have HF := h! hf
  clear hn hf
  clear l1 l2 h1 h2
  go_enter Tryz.func44, Tryz.ntmps44
  go_wp2
  go_ret
  exact ⟨by rw [HF.out]; rfl, 0, rfl⟩
theorem pr_ne {a b : AM.Pr} (h : a ≠ b) : (a.n == b.n && (a.b == b.b && a.v.toList == b.v.toList)) = false := by
 obtain ⟨n, x, s⟩ := a
 obtain ⟨m, y, t⟩ := b
 simp only [Bool.and_eq_false_iff, beq_eq_false_iff_ne, ne_eq]
 by_cases e1 : n = m
 ·subst e1
  by_cases e2 : x = y
  ·subst e2
   refine .inr (.inr fun e => h ?_)
   rw [ByteArray.toList_eq, ByteArray.toList_eq] at e
   obtain ⟨⟨l⟩⟩ := s
   obtain ⟨⟨k⟩⟩ := t
   simp at e
   rw [e]
  ·exact .inr (.inl e2)
 ·exact .inl e1
theorem pr_ways {a b : AM.Pr} (h : a ≠ b) : (a.n == b.n) = false ∨ ((a.n == b.n) = true ∧ (a.b == b.b) = false) ∨ ((a.n == b.n) = true ∧ (a.b == b.b) = true ∧ (a.v.toList == b.v.toList) = false) := by
 have := pr_ne h
 rcases h1 : a.n == b.n <;> rcases h2 : a.b == b.b <;> rcases h3 : a.v.toList == b.v.toList <;> simp_all
set_option maxHeartbeats 2000000 in
theorem equalP_any (A : Option Addr) (n c : Nat) (xs : List AM.Pr) (B : Option Addr) (m d : Nat) (ys : List AM.Pr) (w : World) (h1 : RdP w A n xs) (h2 : RdP w B m ys) (hm : n ≤ 2000) (hm2 : m ≤ 2000) :
  Calls Tryz.prog 74 #[.slice A n c, .slice B m d] w (BoolQ (decide (xs = ys)) w) := by
 have l1 : xs.length = n := h1.1
 have l2 : ys.length = m := h2.1
 obtain ⟨r, hr⟩ : ∃ r, r = decide (xs = ys) := ⟨_, rfl⟩
 rw [← hr]
 have HR := h! hr; clear hr
 by_cases hnm : n = m
 ·subst hnm
  have HL1 := h! l1
  have HL2 := h! l2
  have H1 := h! h1
  have H2 := h! h2
  clear l1 l2 h1 h2
  have hne : ((n : Int) != (n : Int)) = false := by simp
  have HS := h! (show xs.take 0 = ys.take 0 by simp)
  go_enter Tryz.func74, Tryz.ntmps74
  go_wp2
  go_loopw [13] (fun i wr => ∃ k q : Nat, k ≤ n ∧ i = .int .i64 k ∧ wr = w.drewN q ∧ Hid (xs.take k = ys.take k)) (fun i _ => n - (intOf i).toNat)
  case atStart => exact ⟨0, 0, by omega, rfl, rfl, HS⟩
  case round =>
   clear HS
   obtain ⟨k, q, hk, rfl, rfl, HT⟩ := hrel
   by_cases hlt : k < n
   ·obtain ⟨bl1, o1, p1, rfl, _, e1, c0, c1, c2⟩ := H1.out.at_ hlt
    obtain ⟨bl2, o2, p2, rfl, _, e2, d0, d1, d2⟩ := H2.out.at_ hlt
    have hk0 : (0 : Int) ≤ (k : Int) := by omega
    have hkn : (k : Int) < (n : Int) := by omega
    by_cases he : p1 = p2
    ·subst he
     have HT2 := h! (take_snoc_eq HT.out e1 e2 rfl)
     clear e1 e2 HT
     obtain ⟨pn, pb, pv⟩ := p1
     simp only at c0 c1 c2 d0 d1 d2
     go_wp2_with fail
     go_quiet (fail)
     go_wp2_with fail
     go_roundw
     case rel => exact ⟨k + 1, q + nq, by omega, by go_num, by simp, HT2⟩
     case measure => simp [intOf]; omega
    ·have HN := h! (ne_of_at e1 e2 he)
     have hw := pr_ways he
     clear e1 e2 HT he
     obtain ⟨pn, pb, pv⟩ := p1
     obtain ⟨qn, qb, qv⟩ := p2
     simp only at c0 c1 c2 d0 d1 d2 hw
     rcases hw with z1 | ⟨z1, z2⟩ | ⟨z1, z2, z3⟩
     all_goals
      go_wp2_with fail
      go_quiet (fail)
      go_wp2_with fail
      go_ret
      exact ⟨by rw [HR.out]; simp [HN.out], q + nq, by simp⟩
   ·obtain rfl : n = k := by omega
    have ht : xs = ys := by
     have := HT.out
     rwa [List.take_of_length_le (by have := HL1.out; omega), List.take_of_length_le (by have := HL2.out; omega)] at this
    have HE := h! ht; clear ht HT
    go_wp2
    go_ret
    exact ⟨by rw [HR.out]; simp [HE.out], q, rfl⟩
 ·have hne : ((n : Int) != (m : Int)) = true := by simp; omega
  have hn : ¬ xs = ys := fun e => hnm (by rw [← l1, ← l2, e])
  have hf : r = false := by rw [HR.out]; simpa using hn
  have HF := h! hf
  clear hn hf
  clear l1 l2 h1 h2
  go_enter Tryz.func74, Tryz.ntmps74
  go_wp2
  go_ret
  exact ⟨by rw [HF.out]; rfl, 0, rfl⟩
theorem at_eq (a b : AM.At) : decide (a = b) = ((a.ph == b.ph) && ((a.ba == b.ba) && ((a.wi.toList == b.wi.toList) && ((a.va.toList == b.va.toList) && (decide (a.ms = b.ms) && (decide (a.ps = b.ps) && decide (a.ac = b.ac))))))) := by
 have ht : ∀ s t : ByteArray, (s.toList == t.toList) = decide (s = t) := by
  intro s t
  rw [Bool.eq_iff_iff, beq_iff_eq, decide_eq_true_iff, ByteArray.toList_eq, ByteArray.toList_eq]
  constructor
  ·intro e
   obtain ⟨⟨l⟩⟩ := s
   obtain ⟨⟨k⟩⟩ := t
   simp at e
   rw [e]
  ·rintro rfl; rfl
 rw [ht, ht]
 obtain ⟨p1, p2, p3, p4, p5, p6, p7⟩ := a
 obtain ⟨q1, q2, q3, q4, q5, q6, q7⟩ := b
 rw [Bool.eq_iff_iff]
 simp only [decide_eq_true_eq, Bool.and_eq_true, beq_iff_eq, AM.At.mk.injEq]
 constructor
 ·rintro ⟨a1, a2, a3, a4, a5, a6, a7⟩; exact ⟨a1, a2, a4, a5, a3, a6, a7⟩
 ·rintro ⟨a1, a2, a4, a5, a3, a6, a7⟩; exact ⟨a1, a2, a3, a4, a5, a6, a7⟩
set_option maxRecDepth 100000 in
set_option maxHeartbeats 4000000 in
theorem same_any (v : Value) (a : AM.At) (u : Value) (b : AM.At) (w : World) (H : AtIs w v a) (K : AtIs w u b) (F : Fit a) (G : Fit b) :
  Calls Tryz.prog 47 #[v, u] w (BoolIs (decide (a = b)) w) := by
 rw [at_eq]
 obtain ⟨A, n, c, B, m, d, C, k, f, rfl, h1, h2, h3⟩ := H
 obtain ⟨f1, f2, f3⟩ := AtIs.fit_n h1 h2 h3 F
 obtain ⟨A', n', c', B', m', d', C', k', f', rfl, i1, i2, i3⟩ := K
 obtain ⟨j1, j2, j3⟩ := AtIs.fit_n i1 i2 i3 G
 obtain ⟨ph, ba, ms, wi, va, ps, ac⟩ := a
 obtain ⟨ph', ba', ms', wi', va', ps', ac'⟩ := b
 simp only at h1 h2 h3 i1 i2 i3 ⊢
 clear F G
 have hb0 : Below w.heap.size w ((w.alloc (.cells #[.int .u8 ph, .int .i64 ba, .slice A n c, .string wi, .string va, .slice B m d, .slice C k f] 57)).alloc (.cells #[.int .u8 ph', .int .i64 ba', .slice A' n' c', .string wi', .string va', .slice B' m' d', .slice C' k' f'] 57)) := ((Below.refl _ _).alloc n! _).alloc (by simp) _
 have HB0 := h! hb0
 have C1 := h! (fun q => equalI_any A n c ms A' n' c' ms' _ ((h1.below hb0).drewN q) ((i1.below hb0).drewN q) (by omega) (by omega))
 have C2 := h! (fun q => equalP_any B m d ps B' m' d' ps' _ ((h2.below hb0).drewN q) ((i2.below hb0).drewN q) (by omega) (by omega))
 have C3 := h! (fun q => equalI_any C k f ac C' k' f' ac' _ ((h3.below hb0).drewN q) ((i3.below hb0).drewN q) (by omega) (by omega))
 clear hb0 h1 h2 h3 i1 i2 i3
 generalize decide (ms = ms') = r5 at C1 ⊢
 generalize decide (ps = ps') = r6 at C2 ⊢
 generalize decide (ac = ac') = r7 at C3 ⊢
 rcases e1 : ph == ph' with _ | _
 ·go_enter Tryz.func47, Tryz.ntmps47
  go_wp2_with fail
  go_ret
  exact bool_ret (by first | rfl | simp | simp_all) (HB0.out)
 ·skip
  rcases e2 : ba == ba' with _ | _
  ·go_enter Tryz.func47, Tryz.ntmps47
   go_wp2_with fail
   go_ret
   exact bool_ret (by first | rfl | simp | simp_all) (HB0.out)
  ·skip
   rcases e3 : wi.toList == wi'.toList with _ | _
   ·go_enter Tryz.func47, Tryz.ntmps47
    go_wp2_with fail
    go_ret
    exact bool_ret (by first | rfl | simp | simp_all) (HB0.out)
   ·skip
    rcases e4 : va.toList == va'.toList with _ | _
    ·go_enter Tryz.func47, Tryz.ntmps47
     go_wp2_with fail
     go_ret
     exact bool_ret (by first | rfl | simp | simp_all) (HB0.out)
    ·skip
     go_enter Tryz.func47, Tryz.ntmps47
     go_wp2_with fail
     refine (C1.out 0).mono ?_
     rintro e w1 ⟨rfl, q1, rfl⟩
     cases r5
     ·go_wp2_with fail
      go_ret
      exact bool_ret (by first | rfl | simp | simp_all) (below_drewN HB0.out _)
     go_wp2_with fail
     refine (C2.out _).mono ?_
     rintro e w1 ⟨rfl, q2, rfl⟩
     cases r6
     ·go_wp2_with fail
      go_ret
      exact bool_ret (by first | rfl | simp | simp_all) (below_drewN HB0.out _)
     go_wp2_with fail
     refine (C3.out _).mono ?_
     rintro e w1 ⟨rfl, q3, rfl⟩
     go_wp2_with fail
     go_ret
     exact bool_ret (by first | rfl | simp | simp_all) (below_drewN HB0.out _)
end Go.Proofs.YtiiobafcgdelmaaGreat
