/- Contracts of functions of towncrier, layers 5 to 9, and of the document's own ones, part 35; each as its theorem says. -/
import Derived.Test.YtiiobafcgdelmaaGreatL01
import Derived.Test.YtiiobafcgdelmaaGreatL30
import Derived.Test.YtiiobafcgdelmaaGreatL27
import Derived.Test.YtiiobafcgdelmaaGreatL03
set_option linter.unusedVariables false
set_option linter.unusedSimpArgs false
namespace Go.Proofs.YtiiobafcgdelmaaGreat
open Go.RowKit
set_option maxRecDepth 100000 in
set_option maxHeartbeats 4000000 in
theorem racc_bad (v : Value) (a : AM.At) (b x : Int) (w : World) (H : AtIs w v a) (F : Fit a) (hm : AM.may a = false) :
  Calls Tryz.prog 61 #[v, .int .i64 b, .int .i64 x] w (ErrRet AM.zero 8 w) := by
 have H' := h! H
 have F' := h! F
 obtain ⟨A, n, c, B, m, d, C, k, f, rfl, h1, h2, h3⟩ := H
 obtain ⟨W0, hW0⟩ : ∃ W0, W0 = (w.alloc (.cells #[.int .u8 a.ph, .int .i64 a.ba, .slice A n c, .string a.wi, .string a.va, .slice B m d, .slice C k f] 57)).alloc (.cells #[.int .u8 0, .int .i64 0, .slice none 0 0, .string ⟨#[]⟩, .string ⟨#[]⟩, .slice none 0 0, .slice none 0 0] 57) := ⟨_, rfl⟩
 have B0 := h! (show Below w.heap.size w W0 by rw [hW0]; exact ((Below.refl _ _).alloc n! _).alloc (by simp) _)
 have X0 := h! (show Box W0 w.heap.size 57 #[.int .u8 a.ph, .int .i64 a.ba, .slice A n c, .string a.wi, .string a.va, .slice B m d, .slice C k f] by rw [hW0]; exact (Box.new _ _ _).alloc _)
 have Z0 := h! (show Box W0 (w.heap.size + 1) 57 #[.int .u8 0, .int .i64 0, .slice none 0 0, .string ⟨#[]⟩, .string ⟨#[]⟩, .slice none 0 0, .slice none 0 0] by rw [hW0]; exact Box.new_at _ (by simp))
 have HM := h! (rmay_any _ a W0 (H'.out.below B0.out) F'.out)
 rw [hm] at HM
 clear h1 h2 h3
 go_enter Tryz.func61, Tryz.ntmps61
 go_wp2_with fail
 rw [← hW0]
 clear hW0
 refine HM.out.mono ?_
 rintro e w1 ⟨rfl, hb1⟩
 clear HM
 have X1 := h! (X0.out.below hb1 X0.out.lt)
 have Z1 := h! (Z0.out.below hb1 Z0.out.lt)
 have B1 := h! (bmore B0.out hb1 n!)
 clear X0 Z0 B0 hb1
 have HQX := h! (Z1.out.put7 (.int .u8 0) (.int .i64 0) (.slice none 0 0) (.string ⟨#[]⟩) (.string ⟨#[]⟩) (.slice none 0 0) (.slice none 0 0))
 have HQB := h! (below_put7 B1.out (g := w.heap.size + 1) (by omega) (.int .u8 0) (.int .i64 0) (.slice none 0 0) (.string ⟨#[]⟩) (.string ⟨#[]⟩) (.slice none 0 0) (.slice none 0 0))
 unfold put7 at HQX HQB
 obtain ⟨_, z0, z1, z2, z3, z4, z5, z6⟩ := Z1.out.seven
 obtain ⟨⟨s0, s1, s2, s3, s4, s5, s6⟩, _⟩ := X1.out.seven
 go_wp2_with fail
 obtain ⟨⟨d0, d1, d2, d3, d4, d5, d6⟩, _⟩ := HQX.out.seven
 exact bodyPost_ret (v := .tuple #[.agg #[.int .u8 0, .int .i64 0, .slice none 0 0, .string ⟨#[]⟩, .string ⟨#[]⟩, .slice none 0 0, .slice none 0 0], .int .i64 8]) (by simp [results, Tryz.results61, go_sem, d0, d1, d2, d3, d4, d5, d6]) rfl ⟨_, rfl, AtOwn.zero _ _, HQB.out⟩
set_option maxRecDepth 100000 in
set_option maxHeartbeats 4000000 in
theorem racc_none1 (v : Value) (a : AM.At) (b x : Int) (w : World) (H : AtIs w v a) (F : Fit a) (hm : AM.may a = true) (hc : ¬ 2 ≤ a.ph) :
  Calls Tryz.prog 61 #[v, .int .i64 b, .int .i64 x] w (ErrRet AM.zero 6 w) := by
 have H' := h! H
 have F' := h! F
 obtain ⟨A, n, c, B, m, d, C, k, f, rfl, h1, h2, h3⟩ := H
 obtain ⟨W0, hW0⟩ : ∃ W0, W0 = (w.alloc (.cells #[.int .u8 a.ph, .int .i64 a.ba, .slice A n c, .string a.wi, .string a.va, .slice B m d, .slice C k f] 57)).alloc (.cells #[.int .u8 0, .int .i64 0, .slice none 0 0, .string ⟨#[]⟩, .string ⟨#[]⟩, .slice none 0 0, .slice none 0 0] 57) := ⟨_, rfl⟩
 have B0 := h! (show Below w.heap.size w W0 by rw [hW0]; exact ((Below.refl _ _).alloc n! _).alloc (by simp) _)
 have X0 := h! (show Box W0 w.heap.size 57 #[.int .u8 a.ph, .int .i64 a.ba, .slice A n c, .string a.wi, .string a.va, .slice B m d, .slice C k f] by rw [hW0]; exact (Box.new _ _ _).alloc _)
 have Z0 := h! (show Box W0 (w.heap.size + 1) 57 #[.int .u8 0, .int .i64 0, .slice none 0 0, .string ⟨#[]⟩, .string ⟨#[]⟩, .slice none 0 0, .slice none 0 0] by rw [hW0]; exact Box.new_at _ (by simp))
 have HM := h! (rmay_any _ a W0 (H'.out.below B0.out) F'.out)
 have q1 : decide (a.ph < 2) = true := by simp; omega
 clear hc
 rw [hm] at HM
 clear h1 h2 h3
 go_enter Tryz.func61, Tryz.ntmps61
 go_wp2_with fail
 rw [← hW0]
 clear hW0
 refine HM.out.mono ?_
 rintro e w1 ⟨rfl, hb1⟩
 clear HM
 have X1 := h! (X0.out.below hb1 X0.out.lt)
 have Z1 := h! (Z0.out.below hb1 Z0.out.lt)
 have B1 := h! (bmore B0.out hb1 n!)
 clear X0 Z0 B0 hb1
 have HQX := h! (Z1.out.put7 (.int .u8 0) (.int .i64 0) (.slice none 0 0) (.string ⟨#[]⟩) (.string ⟨#[]⟩) (.slice none 0 0) (.slice none 0 0))
 have HQB := h! (below_put7 B1.out (g := w.heap.size + 1) (by omega) (.int .u8 0) (.int .i64 0) (.slice none 0 0) (.string ⟨#[]⟩) (.string ⟨#[]⟩) (.slice none 0 0) (.slice none 0 0))
 unfold put7 at HQX HQB
 obtain ⟨_, z0, z1, z2, z3, z4, z5, z6⟩ := Z1.out.seven
 obtain ⟨⟨s0, s1, s2, s3, s4, s5, s6⟩, _⟩ := X1.out.seven
 go_wp2_with fail
 obtain ⟨⟨d0, d1, d2, d3, d4, d5, d6⟩, _⟩ := HQX.out.seven
 exact bodyPost_ret (v := .tuple #[.agg #[.int .u8 0, .int .i64 0, .slice none 0 0, .string ⟨#[]⟩, .string ⟨#[]⟩, .slice none 0 0, .slice none 0 0], .int .i64 6]) (by simp [results, Tryz.results61, go_sem, d0, d1, d2, d3, d4, d5, d6]) rfl ⟨_, rfl, AtOwn.zero _ _, HQB.out⟩
set_option maxRecDepth 100000 in
set_option maxHeartbeats 4000000 in
theorem racc_none2 (v : Value) (a : AM.At) (b x : Int) (w : World) (H : AtIs w v a) (F : Fit a) (hm : AM.may a = true) (hc : 2 ≤ a.ph) (hb : ¬ b = a.ba) :
  Calls Tryz.prog 61 #[v, .int .i64 b, .int .i64 x] w (ErrRet AM.zero 6 w) := by
 have H' := h! H
 have F' := h! F
 obtain ⟨A, n, c, B, m, d, C, k, f, rfl, h1, h2, h3⟩ := H
 obtain ⟨W0, hW0⟩ : ∃ W0, W0 = (w.alloc (.cells #[.int .u8 a.ph, .int .i64 a.ba, .slice A n c, .string a.wi, .string a.va, .slice B m d, .slice C k f] 57)).alloc (.cells #[.int .u8 0, .int .i64 0, .slice none 0 0, .string ⟨#[]⟩, .string ⟨#[]⟩, .slice none 0 0, .slice none 0 0] 57) := ⟨_, rfl⟩
 have B0 := h! (show Below w.heap.size w W0 by rw [hW0]; exact ((Below.refl _ _).alloc n! _).alloc (by simp) _)
 have X0 := h! (show Box W0 w.heap.size 57 #[.int .u8 a.ph, .int .i64 a.ba, .slice A n c, .string a.wi, .string a.va, .slice B m d, .slice C k f] by rw [hW0]; exact (Box.new _ _ _).alloc _)
 have Z0 := h! (show Box W0 (w.heap.size + 1) 57 #[.int .u8 0, .int .i64 0, .slice none 0 0, .string ⟨#[]⟩, .string ⟨#[]⟩, .slice none 0 0, .slice none 0 0] by rw [hW0]; exact Box.new_at _ (by simp))
 have HM := h! (rmay_any _ a W0 (H'.out.below B0.out) F'.out)
 have q1 : decide (a.ph < 2) = false := by simp; omega
 have q2 : (b != a.ba) = true := by simpa using hb
 clear hc hb
 rw [hm] at HM
 clear h1 h2 h3
 go_enter Tryz.func61, Tryz.ntmps61
 go_wp2_with fail
 rw [← hW0]
 clear hW0
 refine HM.out.mono ?_
 rintro e w1 ⟨rfl, hb1⟩
 clear HM
 have X1 := h! (X0.out.below hb1 X0.out.lt)
 have Z1 := h! (Z0.out.below hb1 Z0.out.lt)
 have B1 := h! (bmore B0.out hb1 n!)
 clear X0 Z0 B0 hb1
 have HQX := h! (Z1.out.put7 (.int .u8 0) (.int .i64 0) (.slice none 0 0) (.string ⟨#[]⟩) (.string ⟨#[]⟩) (.slice none 0 0) (.slice none 0 0))
 have HQB := h! (below_put7 B1.out (g := w.heap.size + 1) (by omega) (.int .u8 0) (.int .i64 0) (.slice none 0 0) (.string ⟨#[]⟩) (.string ⟨#[]⟩) (.slice none 0 0) (.slice none 0 0))
 unfold put7 at HQX HQB
 obtain ⟨_, z0, z1, z2, z3, z4, z5, z6⟩ := Z1.out.seven
 obtain ⟨⟨s0, s1, s2, s3, s4, s5, s6⟩, _⟩ := X1.out.seven
 go_wp2_with fail
 obtain ⟨⟨d0, d1, d2, d3, d4, d5, d6⟩, _⟩ := HQX.out.seven
 exact bodyPost_ret (v := .tuple #[.agg #[.int .u8 0, .int .i64 0, .slice none 0 0, .string ⟨#[]⟩, .string ⟨#[]⟩, .slice none 0 0, .slice none 0 0], .int .i64 6]) (by simp [results, Tryz.results61, go_sem, d0, d1, d2, d3, d4, d5, d6]) rfl ⟨_, rfl, AtOwn.zero _ _, HQB.out⟩
set_option maxRecDepth 100000 in
set_option maxHeartbeats 4000000 in
theorem racc_none3 (v : Value) (a : AM.At) (b x : Int) (w : World) (H : AtIs w v a) (F : Fit a) (hm : AM.may a = true) (hc : 2 ≤ a.ph) (hb : b = a.ba) (hh : QM.has a.ms x = false) :
  Calls Tryz.prog 61 #[v, .int .i64 b, .int .i64 x] w (ErrRet AM.zero 6 w) := by
 have H' := h! H
 have F' := h! F
 obtain ⟨A, n, c, B, m, d, C, k, f, rfl, h1, h2, h3⟩ := H
 obtain ⟨W0, hW0⟩ : ∃ W0, W0 = (w.alloc (.cells #[.int .u8 a.ph, .int .i64 a.ba, .slice A n c, .string a.wi, .string a.va, .slice B m d, .slice C k f] 57)).alloc (.cells #[.int .u8 0, .int .i64 0, .slice none 0 0, .string ⟨#[]⟩, .string ⟨#[]⟩, .slice none 0 0, .slice none 0 0] 57) := ⟨_, rfl⟩
 have B0 := h! (show Below w.heap.size w W0 by rw [hW0]; exact ((Below.refl _ _).alloc n! _).alloc (by simp) _)
 have X0 := h! (show Box W0 w.heap.size 57 #[.int .u8 a.ph, .int .i64 a.ba, .slice A n c, .string a.wi, .string a.va, .slice B m d, .slice C k f] by rw [hW0]; exact (Box.new _ _ _).alloc _)
 have Z0 := h! (show Box W0 (w.heap.size + 1) 57 #[.int .u8 0, .int .i64 0, .slice none 0 0, .string ⟨#[]⟩, .string ⟨#[]⟩, .slice none 0 0, .slice none 0 0] by rw [hW0]; exact Box.new_at _ (by simp))
 have HM := h! (rmay_any _ a W0 (H'.out.below B0.out) F'.out)
 have q1 : decide (a.ph < 2) = false := by simp; omega
 have q2 : (b != a.ba) = false := by simpa using hb
 have HH := h! (fun (W : World) (hb : Below w.heap.size w W) => rHas_any A n c a.ms x W (h1.below hb) (by have := (AtIs.fit_n h1 h2 h3 F).1; omega))
 rw [hh] at HH
 clear hc hb hh
 rw [hm] at HM
 clear h1 h2 h3
 go_enter Tryz.func61, Tryz.ntmps61
 go_wp2_with fail
 rw [← hW0]
 clear hW0
 refine HM.out.mono ?_
 rintro e w1 ⟨rfl, hb1⟩
 clear HM
 have X1 := h! (X0.out.below hb1 X0.out.lt)
 have Z1 := h! (Z0.out.below hb1 Z0.out.lt)
 have B1 := h! (bmore B0.out hb1 n!)
 clear X0 Z0 B0 hb1
 obtain ⟨⟨s0, s1, s2, s3, s4, s5, s6⟩, _⟩ := X1.out.seven
 go_wp2_with fail
 refine (HH.out _ B1.out).mono ?_
 rintro e wh ⟨rfl, rfl⟩
 clear HH
 have HQX := h! (Z1.out.put7 (.int .u8 0) (.int .i64 0) (.slice none 0 0) (.string ⟨#[]⟩) (.string ⟨#[]⟩) (.slice none 0 0) (.slice none 0 0))
 have HQB := h! (below_put7 B1.out (g := w.heap.size + 1) (by omega) (.int .u8 0) (.int .i64 0) (.slice none 0 0) (.string ⟨#[]⟩) (.string ⟨#[]⟩) (.slice none 0 0) (.slice none 0 0))
 unfold put7 at HQX HQB
 obtain ⟨_, z0, z1, z2, z3, z4, z5, z6⟩ := Z1.out.seven
 obtain ⟨⟨s0, s1, s2, s3, s4, s5, s6⟩, _⟩ := X1.out.seven
 go_wp2_with fail
 obtain ⟨⟨d0, d1, d2, d3, d4, d5, d6⟩, _⟩ := HQX.out.seven
 exact bodyPost_ret (v := .tuple #[.agg #[.int .u8 0, .int .i64 0, .slice none 0 0, .string ⟨#[]⟩, .string ⟨#[]⟩, .slice none 0 0, .slice none 0 0], .int .i64 6]) (by simp [results, Tryz.results61, go_sem, d0, d1, d2, d3, d4, d5, d6]) rfl ⟨_, rfl, AtOwn.zero _ _, HQB.out⟩
set_option maxRecDepth 100000 in
set_option maxHeartbeats 4000000 in
theorem rprom_bad (v : Value) (a : AM.At) (b : Int) (p : AM.Pr) (w : World) (H : AtIs w v a) (F : Fit a) (FP : FitP p) (hm : AM.may a = false) :
  Calls Tryz.prog 87 #[v, .int .i64 b, .agg #[.int .i64 p.n, .int .i64 p.b, .string p.v]] w (ErrRet AM.zero 8 w) := by
 have H' := h! H
 have F' := h! F
 obtain ⟨A, n, c, B, m, d, C, k, f, rfl, h1, h2, h3⟩ := H
 obtain ⟨W0, hW0⟩ : ∃ W0, W0 = ((w.alloc (.cells #[.int .u8 a.ph, .int .i64 a.ba, .slice A n c, .string a.wi, .string a.va, .slice B m d, .slice C k f] 57)).alloc (.cells #[.int .i64 p.n, .int .i64 p.b, .string p.v] 86)).alloc (.cells #[.int .u8 0, .int .i64 0, .slice none 0 0, .string ⟨#[]⟩, .string ⟨#[]⟩, .slice none 0 0, .slice none 0 0] 57) := ⟨_, rfl⟩
 have B0 := h! (show Below w.heap.size w W0 by rw [hW0]; exact (((Below.refl _ _).alloc n! _).alloc (by simp) _).alloc (by simp; omega) _)
 have X0 := h! (show Box W0 w.heap.size 57 #[.int .u8 a.ph, .int .i64 a.ba, .slice A n c, .string a.wi, .string a.va, .slice B m d, .slice C k f] by rw [hW0]; exact ((Box.new _ _ _).alloc _).alloc _)
 have Z0 := h! (show Box W0 (w.heap.size + 1 + 1) 57 #[.int .u8 0, .int .i64 0, .slice none 0 0, .string ⟨#[]⟩, .string ⟨#[]⟩, .slice none 0 0, .slice none 0 0] by rw [hW0]; exact Box.new_at _ (by simp))
 have Y0 := h! (show Box W0 (w.heap.size + 1) 86 #[.int .i64 p.n, .int .i64 p.b, .string p.v] by rw [hW0]; exact (Box.new_at _ (by simp)).alloc _)
 have HM := h! (rmay_any _ a W0 (H'.out.below B0.out) F'.out)
 rw [hm] at HM
 clear h1 h2 h3
 go_enter Tryz.func87, Tryz.ntmps87
 go_wp2_with fail
 rw [← hW0]
 clear hW0
 refine HM.out.mono ?_
 rintro e w1 ⟨rfl, hb1⟩
 clear HM
 have X1 := h! (X0.out.below hb1 X0.out.lt)
 have Z1 := h! (Z0.out.below hb1 Z0.out.lt)
 have B1 := h! (bmore B0.out hb1 n!)
 have Y1 := h! (Y0.out.below hb1 Y0.out.lt)
 clear X0 Z0 B0 hb1 Y0
 have HQX := h! (Z1.out.put7 (.int .u8 0) (.int .i64 0) (.slice none 0 0) (.string ⟨#[]⟩) (.string ⟨#[]⟩) (.slice none 0 0) (.slice none 0 0))
 have HQB := h! (below_put7 B1.out (g := w.heap.size + 1 + 1) (by omega) (.int .u8 0) (.int .i64 0) (.slice none 0 0) (.string ⟨#[]⟩) (.string ⟨#[]⟩) (.slice none 0 0) (.slice none 0 0))
 unfold put7 at HQX HQB
 obtain ⟨_, z0, z1, z2, z3, z4, z5, z6⟩ := Z1.out.seven
 obtain ⟨⟨s0, s1, s2, s3, s4, s5, s6⟩, _⟩ := X1.out.seven
 obtain ⟨p0, p1, p2, _⟩ := Y1.out.three
 go_wp2_with fail
 obtain ⟨⟨d0, d1, d2, d3, d4, d5, d6⟩, _⟩ := HQX.out.seven
 exact bodyPost_ret (v := .tuple #[.agg #[.int .u8 0, .int .i64 0, .slice none 0 0, .string ⟨#[]⟩, .string ⟨#[]⟩, .slice none 0 0, .slice none 0 0], .int .i64 8]) (by simp [results, Tryz.results87, go_sem, d0, d1, d2, d3, d4, d5, d6]) rfl ⟨_, rfl, AtOwn.zero _ _, HQB.out⟩
set_option maxRecDepth 100000 in
set_option maxHeartbeats 4000000 in
theorem rprom_none1 (v : Value) (a : AM.At) (b : Int) (p : AM.Pr) (w : World) (H : AtIs w v a) (F : Fit a) (FP : FitP p) (hm : AM.may a = true) (hc : ¬ a.ph = 1) :
  Calls Tryz.prog 87 #[v, .int .i64 b, .agg #[.int .i64 p.n, .int .i64 p.b, .string p.v]] w (ErrRet AM.zero 6 w) := by
 have H' := h! H
 have F' := h! F
 obtain ⟨A, n, c, B, m, d, C, k, f, rfl, h1, h2, h3⟩ := H
 obtain ⟨W0, hW0⟩ : ∃ W0, W0 = ((w.alloc (.cells #[.int .u8 a.ph, .int .i64 a.ba, .slice A n c, .string a.wi, .string a.va, .slice B m d, .slice C k f] 57)).alloc (.cells #[.int .i64 p.n, .int .i64 p.b, .string p.v] 86)).alloc (.cells #[.int .u8 0, .int .i64 0, .slice none 0 0, .string ⟨#[]⟩, .string ⟨#[]⟩, .slice none 0 0, .slice none 0 0] 57) := ⟨_, rfl⟩
 have B0 := h! (show Below w.heap.size w W0 by rw [hW0]; exact (((Below.refl _ _).alloc n! _).alloc (by simp) _).alloc (by simp; omega) _)
 have X0 := h! (show Box W0 w.heap.size 57 #[.int .u8 a.ph, .int .i64 a.ba, .slice A n c, .string a.wi, .string a.va, .slice B m d, .slice C k f] by rw [hW0]; exact ((Box.new _ _ _).alloc _).alloc _)
 have Z0 := h! (show Box W0 (w.heap.size + 1 + 1) 57 #[.int .u8 0, .int .i64 0, .slice none 0 0, .string ⟨#[]⟩, .string ⟨#[]⟩, .slice none 0 0, .slice none 0 0] by rw [hW0]; exact Box.new_at _ (by simp))
 have Y0 := h! (show Box W0 (w.heap.size + 1) 86 #[.int .i64 p.n, .int .i64 p.b, .string p.v] by rw [hW0]; exact (Box.new_at _ (by simp)).alloc _)
 have HM := h! (rmay_any _ a W0 (H'.out.below B0.out) F'.out)
 have q1 : (a.ph != 1) = true := by simpa using hc
 clear hc
 rw [hm] at HM
 clear h1 h2 h3
 go_enter Tryz.func87, Tryz.ntmps87
 go_wp2_with fail
 rw [← hW0]
 clear hW0
 refine HM.out.mono ?_
 rintro e w1 ⟨rfl, hb1⟩
 clear HM
 have X1 := h! (X0.out.below hb1 X0.out.lt)
 have Z1 := h! (Z0.out.below hb1 Z0.out.lt)
 have B1 := h! (bmore B0.out hb1 n!)
 have Y1 := h! (Y0.out.below hb1 Y0.out.lt)
 clear X0 Z0 B0 hb1 Y0
 have HQX := h! (Z1.out.put7 (.int .u8 0) (.int .i64 0) (.slice none 0 0) (.string ⟨#[]⟩) (.string ⟨#[]⟩) (.slice none 0 0) (.slice none 0 0))
 have HQB := h! (below_put7 B1.out (g := w.heap.size + 1 + 1) (by omega) (.int .u8 0) (.int .i64 0) (.slice none 0 0) (.string ⟨#[]⟩) (.string ⟨#[]⟩) (.slice none 0 0) (.slice none 0 0))
 unfold put7 at HQX HQB
 obtain ⟨_, z0, z1, z2, z3, z4, z5, z6⟩ := Z1.out.seven
 obtain ⟨⟨s0, s1, s2, s3, s4, s5, s6⟩, _⟩ := X1.out.seven
 obtain ⟨p0, p1, p2, _⟩ := Y1.out.three
 go_wp2_with fail
 obtain ⟨⟨d0, d1, d2, d3, d4, d5, d6⟩, _⟩ := HQX.out.seven
 exact bodyPost_ret (v := .tuple #[.agg #[.int .u8 0, .int .i64 0, .slice none 0 0, .string ⟨#[]⟩, .string ⟨#[]⟩, .slice none 0 0, .slice none 0 0], .int .i64 6]) (by simp [results, Tryz.results87, go_sem, d0, d1, d2, d3, d4, d5, d6]) rfl ⟨_, rfl, AtOwn.zero _ _, HQB.out⟩
set_option maxRecDepth 100000 in
set_option maxHeartbeats 4000000 in
theorem rprom_none2 (v : Value) (a : AM.At) (b : Int) (p : AM.Pr) (w : World) (H : AtIs w v a) (F : Fit a) (FP : FitP p) (hm : AM.may a = true) (hc : a.ph = 1) (hb : ¬ b = a.ba) :
  Calls Tryz.prog 87 #[v, .int .i64 b, .agg #[.int .i64 p.n, .int .i64 p.b, .string p.v]] w (ErrRet AM.zero 6 w) := by
 have H' := h! H
 have F' := h! F
 obtain ⟨A, n, c, B, m, d, C, k, f, rfl, h1, h2, h3⟩ := H
 obtain ⟨W0, hW0⟩ : ∃ W0, W0 = ((w.alloc (.cells #[.int .u8 a.ph, .int .i64 a.ba, .slice A n c, .string a.wi, .string a.va, .slice B m d, .slice C k f] 57)).alloc (.cells #[.int .i64 p.n, .int .i64 p.b, .string p.v] 86)).alloc (.cells #[.int .u8 0, .int .i64 0, .slice none 0 0, .string ⟨#[]⟩, .string ⟨#[]⟩, .slice none 0 0, .slice none 0 0] 57) := ⟨_, rfl⟩
 have B0 := h! (show Below w.heap.size w W0 by rw [hW0]; exact (((Below.refl _ _).alloc n! _).alloc (by simp) _).alloc (by simp; omega) _)
 have X0 := h! (show Box W0 w.heap.size 57 #[.int .u8 a.ph, .int .i64 a.ba, .slice A n c, .string a.wi, .string a.va, .slice B m d, .slice C k f] by rw [hW0]; exact ((Box.new _ _ _).alloc _).alloc _)
 have Z0 := h! (show Box W0 (w.heap.size + 1 + 1) 57 #[.int .u8 0, .int .i64 0, .slice none 0 0, .string ⟨#[]⟩, .string ⟨#[]⟩, .slice none 0 0, .slice none 0 0] by rw [hW0]; exact Box.new_at _ (by simp))
 have Y0 := h! (show Box W0 (w.heap.size + 1) 86 #[.int .i64 p.n, .int .i64 p.b, .string p.v] by rw [hW0]; exact (Box.new_at _ (by simp)).alloc _)
 have HM := h! (rmay_any _ a W0 (H'.out.below B0.out) F'.out)
 have q1 : (a.ph != 1) = false := by simpa using hc
 have q2 : (b != a.ba) = true := by simpa using hb
 clear hc hb
 rw [hm] at HM
 clear h1 h2 h3
 go_enter Tryz.func87, Tryz.ntmps87
 go_wp2_with fail
 rw [← hW0]
 clear hW0
 refine HM.out.mono ?_
 rintro e w1 ⟨rfl, hb1⟩
 clear HM
 have X1 := h! (X0.out.below hb1 X0.out.lt)
 have Z1 := h! (Z0.out.below hb1 Z0.out.lt)
 have B1 := h! (bmore B0.out hb1 n!)
 have Y1 := h! (Y0.out.below hb1 Y0.out.lt)
 clear X0 Z0 B0 hb1 Y0
 have HQX := h! (Z1.out.put7 (.int .u8 0) (.int .i64 0) (.slice none 0 0) (.string ⟨#[]⟩) (.string ⟨#[]⟩) (.slice none 0 0) (.slice none 0 0))
 have HQB := h! (below_put7 B1.out (g := w.heap.size + 1 + 1) (by omega) (.int .u8 0) (.int .i64 0) (.slice none 0 0) (.string ⟨#[]⟩) (.string ⟨#[]⟩) (.slice none 0 0) (.slice none 0 0))
 unfold put7 at HQX HQB
 obtain ⟨_, z0, z1, z2, z3, z4, z5, z6⟩ := Z1.out.seven
 obtain ⟨⟨s0, s1, s2, s3, s4, s5, s6⟩, _⟩ := X1.out.seven
 obtain ⟨p0, p1, p2, _⟩ := Y1.out.three
 go_wp2_with fail
 obtain ⟨⟨d0, d1, d2, d3, d4, d5, d6⟩, _⟩ := HQX.out.seven
 exact bodyPost_ret (v := .tuple #[.agg #[.int .u8 0, .int .i64 0, .slice none 0 0, .string ⟨#[]⟩, .string ⟨#[]⟩, .slice none 0 0, .slice none 0 0], .int .i64 6]) (by simp [results, Tryz.results87, go_sem, d0, d1, d2, d3, d4, d5, d6]) rfl ⟨_, rfl, AtOwn.zero _ _, HQB.out⟩
set_option maxRecDepth 100000 in
set_option maxHeartbeats 4000000 in
theorem rprom_none3 (v : Value) (a : AM.At) (b : Int) (p : AM.Pr) (w : World) (H : AtIs w v a) (F : Fit a) (FP : FitP p) (hm : AM.may a = true) (hc : a.ph = 1) (hb : b = a.ba) (hh : QM.has a.ms p.n = false) :
  Calls Tryz.prog 87 #[v, .int .i64 b, .agg #[.int .i64 p.n, .int .i64 p.b, .string p.v]] w (ErrRet AM.zero 6 w) := by
 have H' := h! H
 have F' := h! F
 obtain ⟨A, n, c, B, m, d, C, k, f, rfl, h1, h2, h3⟩ := H
 obtain ⟨W0, hW0⟩ : ∃ W0, W0 = ((w.alloc (.cells #[.int .u8 a.ph, .int .i64 a.ba, .slice A n c, .string a.wi, .string a.va, .slice B m d, .slice C k f] 57)).alloc (.cells #[.int .i64 p.n, .int .i64 p.b, .string p.v] 86)).alloc (.cells #[.int .u8 0, .int .i64 0, .slice none 0 0, .string ⟨#[]⟩, .string ⟨#[]⟩, .slice none 0 0, .slice none 0 0] 57) := ⟨_, rfl⟩
 have B0 := h! (show Below w.heap.size w W0 by rw [hW0]; exact (((Below.refl _ _).alloc n! _).alloc (by simp) _).alloc (by simp; omega) _)
 have X0 := h! (show Box W0 w.heap.size 57 #[.int .u8 a.ph, .int .i64 a.ba, .slice A n c, .string a.wi, .string a.va, .slice B m d, .slice C k f] by rw [hW0]; exact ((Box.new _ _ _).alloc _).alloc _)
 have Z0 := h! (show Box W0 (w.heap.size + 1 + 1) 57 #[.int .u8 0, .int .i64 0, .slice none 0 0, .string ⟨#[]⟩, .string ⟨#[]⟩, .slice none 0 0, .slice none 0 0] by rw [hW0]; exact Box.new_at _ (by simp))
 have Y0 := h! (show Box W0 (w.heap.size + 1) 86 #[.int .i64 p.n, .int .i64 p.b, .string p.v] by rw [hW0]; exact (Box.new_at _ (by simp)).alloc _)
 have HM := h! (rmay_any _ a W0 (H'.out.below B0.out) F'.out)
 have q1 : (a.ph != 1) = false := by simpa using hc
 have q2 : (b != a.ba) = false := by simpa using hb
 have HH := h! (fun (W : World) (hb : Below w.heap.size w W) => rHas_any A n c a.ms p.n W (h1.below hb) (by have := (AtIs.fit_n h1 h2 h3 F).1; omega))
 rw [hh] at HH
 clear hc hb hh
 rw [hm] at HM
 clear h1 h2 h3
 go_enter Tryz.func87, Tryz.ntmps87
 go_wp2_with fail
 rw [← hW0]
 clear hW0
 refine HM.out.mono ?_
 rintro e w1 ⟨rfl, hb1⟩
 clear HM
 have X1 := h! (X0.out.below hb1 X0.out.lt)
 have Z1 := h! (Z0.out.below hb1 Z0.out.lt)
 have B1 := h! (bmore B0.out hb1 n!)
 have Y1 := h! (Y0.out.below hb1 Y0.out.lt)
 clear X0 Z0 B0 hb1 Y0
 obtain ⟨⟨s0, s1, s2, s3, s4, s5, s6⟩, _⟩ := X1.out.seven
 obtain ⟨p0, p1, p2, _⟩ := Y1.out.three
 go_wp2_with fail
 refine (HH.out _ B1.out).mono ?_
 rintro e wh ⟨rfl, rfl⟩
 clear HH
 have HQX := h! (Z1.out.put7 (.int .u8 0) (.int .i64 0) (.slice none 0 0) (.string ⟨#[]⟩) (.string ⟨#[]⟩) (.slice none 0 0) (.slice none 0 0))
 have HQB := h! (below_put7 B1.out (g := w.heap.size + 1 + 1) (by omega) (.int .u8 0) (.int .i64 0) (.slice none 0 0) (.string ⟨#[]⟩) (.string ⟨#[]⟩) (.slice none 0 0) (.slice none 0 0))
 unfold put7 at HQX HQB
 obtain ⟨_, z0, z1, z2, z3, z4, z5, z6⟩ := Z1.out.seven
 obtain ⟨⟨s0, s1, s2, s3, s4, s5, s6⟩, _⟩ := X1.out.seven
 obtain ⟨p0, p1, p2, _⟩ := Y1.out.three
 go_wp2_with fail
 obtain ⟨⟨d0, d1, d2, d3, d4, d5, d6⟩, _⟩ := HQX.out.seven
 exact bodyPost_ret (v := .tuple #[.agg #[.int .u8 0, .int .i64 0, .slice none 0 0, .string ⟨#[]⟩, .string ⟨#[]⟩, .slice none 0 0, .slice none 0 0], .int .i64 6]) (by simp [results, Tryz.results87, go_sem, d0, d1, d2, d3, d4, d5, d6]) rfl ⟨_, rfl, AtOwn.zero _ _, HQB.out⟩
end Go.Proofs.YtiiobafcgdelmaaGreat
