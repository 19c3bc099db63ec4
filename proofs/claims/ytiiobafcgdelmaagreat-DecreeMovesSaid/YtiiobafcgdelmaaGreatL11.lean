/- Contracts of functions of towncrier, layers 5 to 9, and of the document's own ones, part 11; each as its theorem says. -/
import Derived.Test.YtiiobafcgdelmaaGreatL01
import Derived.Test.YtiiobafcgdelmaaGreatL10
set_option linter.unusedVariables false
set_option linter.unusedSimpArgs false
namespace Go.Proofs.YtiiobafcgdelmaaGreat
open Go.RowKit
set_option maxRecDepth 100000 in
set_option maxHeartbeats 4000000 in
theorem prom_bad (v : Value) (a : AM.At) (b : Int) (p : AM.Pr) (w : World) (H : AtIs w v a) (F : Fit a) (FP : FitP p) (hm : AM.may a = false) :
  Calls Tryz.prog 101 #[v, .int .i64 b, .agg #[.int .i64 p.n, .int .i64 p.b, .string p.v]] w (ErrRet AM.zero 8 w) := by
 have H' := h! H
 have F' := h! F
 obtain ⟨A, n, c, B, m, d, C, k, f, rfl, h1, h2, h3⟩ := H
 obtain ⟨W0, hW0⟩ : ∃ W0, W0 = ((w.alloc (.cells #[.int .u8 a.ph, .int .i64 a.ba, .slice A n c, .string a.wi, .string a.va, .slice B m d, .slice C k f] 57)).alloc (.cells #[.int .i64 p.n, .int .i64 p.b, .string p.v] 86)).alloc (.cells #[.int .u8 0, .int .i64 0, .slice none 0 0, .string ⟨#[]⟩, .string ⟨#[]⟩, .slice none 0 0, .slice none 0 0] 57) := ⟨_, rfl⟩
 have hb0 : Below w.heap.size w W0 := by rw [hW0]; exact (((Below.refl _ _).alloc n! _).alloc (by simp) _).alloc (by simp; omega) _
 have hx0 : Box W0 w.heap.size 57 #[.int .u8 a.ph, .int .i64 a.ba, .slice A n c, .string a.wi, .string a.va, .slice B m d, .slice C k f] := by rw [hW0]; exact ((Box.new _ _ _).alloc _).alloc _
 have hp0 : Box W0 (w.heap.size + 1) 86 #[.int .i64 p.n, .int .i64 p.b, .string p.v] := by rw [hW0]; exact (Box.new_at _ (by simp)).alloc _
 have hz0 : Box W0 (w.heap.size + 2) 57 #[.int .u8 0, .int .i64 0, .slice none 0 0, .string ⟨#[]⟩, .string ⟨#[]⟩, .slice none 0 0, .slice none 0 0] := by rw [hW0]; exact Box.new_at _ (by simp)
 have hs0 : W0.heap.size = w.heap.size + 3 := by rw [hW0]; simp
 have P0 := h! hp0
 have X0 := h! hx0
 have Z0 := h! hz0
 have S0 := h! hs0
 have B0 := h! hb0
 have HCK := h! (acheck_any _ a W0 (H'.out.below hb0) F'.out)
 have HAN := h! (fun (W : World) (hb : Below w.heap.size w W) => isAnswer_any _ a b p.n W (H'.out.below hb) F'.out)
 have HTW := h! (fun (W : World) (hb : Below w.heap.size w W) => twin_any _ a W (H'.out.below hb) F'.out)
 have HPR := h! (fun (W : World) => isPromise_any b p W FP)
 rw [if_neg (by rw [hm]; decide)] at HCK
 clear h1 h2 h3 hb0 hx0 hz0 hs0 HAN HTW hp0 HPR
 go_enter Tryz.func101, Tryz.ntmps101
 go_wp2_with fail
 rw [← hW0]
 clear hW0
 refine HCK.out.mono ?_
 rintro e w1 ⟨rfl, hb1⟩
 clear HCK
 have X1 := h! (X0.out.below hb1 X0.out.lt)
 have Z1 := h! (Z0.out.below hb1 Z0.out.lt)
 have P1 := h! (P0.out.below hb1 P0.out.lt)
 have B1 := h! (bmore B0.out hb1 n!)
 clear X0 Z0 B0 P0 hb1
 have qx := Z1.out.put7 (.int .u8 0) (.int .i64 0) (.slice none 0 0) (.string ⟨#[]⟩) (.string ⟨#[]⟩) (.slice none 0 0) (.slice none 0 0)
 have qb := below_put7 B1.out (g := w.heap.size + 2) (by omega) (.int .u8 0) (.int .i64 0) (.slice none 0 0) (.string ⟨#[]⟩) (.string ⟨#[]⟩) (.slice none 0 0) (.slice none 0 0)
 unfold put7 at qx qb
 have HQX := h! qx
 have HQB := h! qb
 clear qx qb
 obtain ⟨⟨v0, v1, v2, v3, v4, v5, v6⟩, vf0, vf1, vf2, vf3, vf4, vf5, vf6⟩ := Z1.out.seven
 go_wp2_with fail
 obtain ⟨⟨d0, d1, d2, d3, d4, d5, d6⟩, _⟩ := HQX.out.seven
 exact bodyPost_ret (v := .tuple #[.agg #[.int .u8 0, .int .i64 0, .slice none 0 0, .string ⟨#[]⟩, .string ⟨#[]⟩, .slice none 0 0, .slice none 0 0], .int .i64 8]) (by simp [results, Tryz.results101, go_sem, d0, d1, d2, d3, d4, d5, d6]) rfl ⟨_, rfl, AtOwn.zero _ _, HQB.out⟩
set_option maxRecDepth 100000 in
set_option maxHeartbeats 4000000 in
theorem acc_bad (v : Value) (a : AM.At) (b x : Int) (w : World) (H : AtIs w v a) (F : Fit a) (hm : AM.may a = false) :
  Calls Tryz.prog 103 #[v, .int .i64 b, .int .i64 x] w (ErrRet AM.zero 8 w) := by
 have H' := h! H
 have F' := h! F
 obtain ⟨A, n, c, B, m, d, C, k, f, rfl, h1, h2, h3⟩ := H
 obtain ⟨W0, hW0⟩ : ∃ W0, W0 = (w.alloc (.cells #[.int .u8 a.ph, .int .i64 a.ba, .slice A n c, .string a.wi, .string a.va, .slice B m d, .slice C k f] 57)).alloc (.cells #[.int .u8 0, .int .i64 0, .slice none 0 0, .string ⟨#[]⟩, .string ⟨#[]⟩, .slice none 0 0, .slice none 0 0] 57) := ⟨_, rfl⟩
 have hb0 : Below w.heap.size w W0 := by rw [hW0]; exact ((Below.refl _ _).alloc n! _).alloc (by simp) _
 have hx0 : Box W0 w.heap.size 57 #[.int .u8 a.ph, .int .i64 a.ba, .slice A n c, .string a.wi, .string a.va, .slice B m d, .slice C k f] := by rw [hW0]; exact (Box.new _ _ _).alloc _
 have hz0 : Box W0 (w.heap.size + 1) 57 #[.int .u8 0, .int .i64 0, .slice none 0 0, .string ⟨#[]⟩, .string ⟨#[]⟩, .slice none 0 0, .slice none 0 0] := by rw [hW0]; exact Box.new_at _ (by simp)
 have hs0 : W0.heap.size = w.heap.size + 2 := by rw [hW0]; simp
 have X0 := h! hx0
 have Z0 := h! hz0
 have S0 := h! hs0
 have B0 := h! hb0
 have HCK := h! (acheck_any _ a W0 (H'.out.below hb0) F'.out)
 have HAN := h! (fun (W : World) (hb : Below w.heap.size w W) => isAnswer_any _ a b x W (H'.out.below hb) F'.out)
 have HTW := h! (fun (W : World) (hb : Below w.heap.size w W) => twin_any _ a W (H'.out.below hb) F'.out)
 rw [if_neg (by rw [hm]; decide)] at HCK
 clear h1 h2 h3 hb0 hx0 hz0 hs0 HAN HTW
 go_enter Tryz.func103, Tryz.ntmps103
 go_wp2_with fail
 rw [← hW0]
 clear hW0
 refine HCK.out.mono ?_
 rintro e w1 ⟨rfl, hb1⟩
 clear HCK
 have X1 := h! (X0.out.below hb1 X0.out.lt)
 have Z1 := h! (Z0.out.below hb1 Z0.out.lt)
 have B1 := h! (bmore B0.out hb1 n!)
 clear X0 Z0 B0 hb1
 have qx := Z1.out.put7 (.int .u8 0) (.int .i64 0) (.slice none 0 0) (.string ⟨#[]⟩) (.string ⟨#[]⟩) (.slice none 0 0) (.slice none 0 0)
 have qb := below_put7 B1.out (g := w.heap.size + 1) (by omega) (.int .u8 0) (.int .i64 0) (.slice none 0 0) (.string ⟨#[]⟩) (.string ⟨#[]⟩) (.slice none 0 0) (.slice none 0 0)
 unfold put7 at qx qb
 have HQX := h! qx
 have HQB := h! qb
 clear qx qb
 obtain ⟨⟨v0, v1, v2, v3, v4, v5, v6⟩, vf0, vf1, vf2, vf3, vf4, vf5, vf6⟩ := Z1.out.seven
 go_wp2_with fail
 obtain ⟨⟨d0, d1, d2, d3, d4, d5, d6⟩, _⟩ := HQX.out.seven
 exact bodyPost_ret (v := .tuple #[.agg #[.int .u8 0, .int .i64 0, .slice none 0 0, .string ⟨#[]⟩, .string ⟨#[]⟩, .slice none 0 0, .slice none 0 0], .int .i64 8]) (by simp [results, Tryz.results103, go_sem, d0, d1, d2, d3, d4, d5, d6]) rfl ⟨_, rfl, AtOwn.zero _ _, HQB.out⟩
set_option maxRecDepth 100000 in
set_option maxHeartbeats 4000000 in
theorem prom_none1 (v : Value) (a : AM.At) (b : Int) (p : AM.Pr) (w : World) (H : AtIs w v a) (F : Fit a) (FP : FitP p) (hm : AM.may a = true) (hc : ¬ a.ph = 1) :
  Calls Tryz.prog 101 #[v, .int .i64 b, .agg #[.int .i64 p.n, .int .i64 p.b, .string p.v]] w (ErrRet AM.zero 6 w) := by
 have H' := h! H
 have F' := h! F
 obtain ⟨A, n, c, B, m, d, C, k, f, rfl, h1, h2, h3⟩ := H
 obtain ⟨W0, hW0⟩ : ∃ W0, W0 = ((w.alloc (.cells #[.int .u8 a.ph, .int .i64 a.ba, .slice A n c, .string a.wi, .string a.va, .slice B m d, .slice C k f] 57)).alloc (.cells #[.int .i64 p.n, .int .i64 p.b, .string p.v] 86)).alloc (.cells #[.int .u8 0, .int .i64 0, .slice none 0 0, .string ⟨#[]⟩, .string ⟨#[]⟩, .slice none 0 0, .slice none 0 0] 57) := ⟨_, rfl⟩
 have hb0 : Below w.heap.size w W0 := by rw [hW0]; exact (((Below.refl _ _).alloc n! _).alloc (by simp) _).alloc (by simp; omega) _
 have hx0 : Box W0 w.heap.size 57 #[.int .u8 a.ph, .int .i64 a.ba, .slice A n c, .string a.wi, .string a.va, .slice B m d, .slice C k f] := by rw [hW0]; exact ((Box.new _ _ _).alloc _).alloc _
 have hp0 : Box W0 (w.heap.size + 1) 86 #[.int .i64 p.n, .int .i64 p.b, .string p.v] := by rw [hW0]; exact (Box.new_at _ (by simp)).alloc _
 have hz0 : Box W0 (w.heap.size + 2) 57 #[.int .u8 0, .int .i64 0, .slice none 0 0, .string ⟨#[]⟩, .string ⟨#[]⟩, .slice none 0 0, .slice none 0 0] := by rw [hW0]; exact Box.new_at _ (by simp)
 have hs0 : W0.heap.size = w.heap.size + 3 := by rw [hW0]; simp
 have P0 := h! hp0
 have X0 := h! hx0
 have Z0 := h! hz0
 have S0 := h! hs0
 have B0 := h! hb0
 have HCK := h! (acheck_any _ a W0 (H'.out.below hb0) F'.out)
 have HAN := h! (fun (W : World) (hb : Below w.heap.size w W) => isAnswer_any _ a b p.n W (H'.out.below hb) F'.out)
 have HTW := h! (fun (W : World) (hb : Below w.heap.size w W) => twin_any _ a W (H'.out.below hb) F'.out)
 have HPR := h! (fun (W : World) => isPromise_any b p W FP)
 rw [if_pos hm] at HCK
 clear h1 h2 h3 hb0 hx0 hz0 hs0 HAN HTW hp0 HPR
 have q1 : (a.ph != 1) = true := by simpa using hc
 clear hc
 go_enter Tryz.func101, Tryz.ntmps101
 go_wp2_with fail
 rw [← hW0]
 clear hW0
 refine HCK.out.mono ?_
 rintro e w1 ⟨rfl, hb1⟩
 clear HCK
 have X1 := h! (X0.out.below hb1 X0.out.lt)
 have Z1 := h! (Z0.out.below hb1 Z0.out.lt)
 have P1 := h! (P0.out.below hb1 P0.out.lt)
 have B1 := h! (bmore B0.out hb1 n!)
 clear X0 Z0 B0 P0 hb1
 obtain ⟨⟨t0, t1, t2, t3, t4, t5, t6⟩, tf0, tf1, tf2, tf3, tf4, tf5, tf6⟩ := X1.out.seven
 obtain ⟨p0, p1, p2, pf0, pf1, pf2⟩ := P1.out.three
 have qx := Z1.out.put7 (.int .u8 0) (.int .i64 0) (.slice none 0 0) (.string ⟨#[]⟩) (.string ⟨#[]⟩) (.slice none 0 0) (.slice none 0 0)
 have qb := below_put7 B1.out (g := w.heap.size + 2) (by omega) (.int .u8 0) (.int .i64 0) (.slice none 0 0) (.string ⟨#[]⟩) (.string ⟨#[]⟩) (.slice none 0 0) (.slice none 0 0)
 unfold put7 at qx qb
 have HQX := h! qx
 have HQB := h! qb
 clear qx qb
 obtain ⟨⟨v0, v1, v2, v3, v4, v5, v6⟩, vf0, vf1, vf2, vf3, vf4, vf5, vf6⟩ := Z1.out.seven
 go_wp2_with fail
 obtain ⟨⟨d0, d1, d2, d3, d4, d5, d6⟩, _⟩ := HQX.out.seven
 exact bodyPost_ret (v := .tuple #[.agg #[.int .u8 0, .int .i64 0, .slice none 0 0, .string ⟨#[]⟩, .string ⟨#[]⟩, .slice none 0 0, .slice none 0 0], .int .i64 6]) (by simp [results, Tryz.results101, go_sem, d0, d1, d2, d3, d4, d5, d6]) rfl ⟨_, rfl, AtOwn.zero _ _, HQB.out⟩
set_option maxRecDepth 100000 in
set_option maxHeartbeats 4000000 in
theorem acc_none1 (v : Value) (a : AM.At) (b x : Int) (w : World) (H : AtIs w v a) (F : Fit a) (hm : AM.may a = true) (hc : ¬ 2 ≤ a.ph) :
  Calls Tryz.prog 103 #[v, .int .i64 b, .int .i64 x] w (ErrRet AM.zero 6 w) := by
 have H' := h! H
 have F' := h! F
 obtain ⟨A, n, c, B, m, d, C, k, f, rfl, h1, h2, h3⟩ := H
 obtain ⟨W0, hW0⟩ : ∃ W0, W0 = (w.alloc (.cells #[.int .u8 a.ph, .int .i64 a.ba, .slice A n c, .string a.wi, .string a.va, .slice B m d, .slice C k f] 57)).alloc (.cells #[.int .u8 0, .int .i64 0, .slice none 0 0, .string ⟨#[]⟩, .string ⟨#[]⟩, .slice none 0 0, .slice none 0 0] 57) := ⟨_, rfl⟩
 have hb0 : Below w.heap.size w W0 := by rw [hW0]; exact ((Below.refl _ _).alloc n! _).alloc (by simp) _
 have hx0 : Box W0 w.heap.size 57 #[.int .u8 a.ph, .int .i64 a.ba, .slice A n c, .string a.wi, .string a.va, .slice B m d, .slice C k f] := by rw [hW0]; exact (Box.new _ _ _).alloc _
 have hz0 : Box W0 (w.heap.size + 1) 57 #[.int .u8 0, .int .i64 0, .slice none 0 0, .string ⟨#[]⟩, .string ⟨#[]⟩, .slice none 0 0, .slice none 0 0] := by rw [hW0]; exact Box.new_at _ (by simp)
 have hs0 : W0.heap.size = w.heap.size + 2 := by rw [hW0]; simp
 have X0 := h! hx0
 have Z0 := h! hz0
 have S0 := h! hs0
 have B0 := h! hb0
 have HCK := h! (acheck_any _ a W0 (H'.out.below hb0) F'.out)
 have HAN := h! (fun (W : World) (hb : Below w.heap.size w W) => isAnswer_any _ a b x W (H'.out.below hb) F'.out)
 have HTW := h! (fun (W : World) (hb : Below w.heap.size w W) => twin_any _ a W (H'.out.below hb) F'.out)
 rw [if_pos hm] at HCK
 clear h1 h2 h3 hb0 hx0 hz0 hs0 HAN HTW
 have q1 : decide (a.ph < 2) = true := by simp; omega
 clear hc
 go_enter Tryz.func103, Tryz.ntmps103
 go_wp2_with fail
 rw [← hW0]
 clear hW0
 refine HCK.out.mono ?_
 rintro e w1 ⟨rfl, hb1⟩
 clear HCK
 have X1 := h! (X0.out.below hb1 X0.out.lt)
 have Z1 := h! (Z0.out.below hb1 Z0.out.lt)
 have B1 := h! (bmore B0.out hb1 n!)
 clear X0 Z0 B0 hb1
 obtain ⟨⟨t0, t1, t2, t3, t4, t5, t6⟩, tf0, tf1, tf2, tf3, tf4, tf5, tf6⟩ := X1.out.seven
 have qx := Z1.out.put7 (.int .u8 0) (.int .i64 0) (.slice none 0 0) (.string ⟨#[]⟩) (.string ⟨#[]⟩) (.slice none 0 0) (.slice none 0 0)
 have qb := below_put7 B1.out (g := w.heap.size + 1) (by omega) (.int .u8 0) (.int .i64 0) (.slice none 0 0) (.string ⟨#[]⟩) (.string ⟨#[]⟩) (.slice none 0 0) (.slice none 0 0)
 unfold put7 at qx qb
 have HQX := h! qx
 have HQB := h! qb
 clear qx qb
 obtain ⟨⟨v0, v1, v2, v3, v4, v5, v6⟩, vf0, vf1, vf2, vf3, vf4, vf5, vf6⟩ := Z1.out.seven
 go_wp2_with fail
 obtain ⟨⟨d0, d1, d2, d3, d4, d5, d6⟩, _⟩ := HQX.out.seven
 exact bodyPost_ret (v := .tuple #[.agg #[.int .u8 0, .int .i64 0, .slice none 0 0, .string ⟨#[]⟩, .string ⟨#[]⟩, .slice none 0 0, .slice none 0 0], .int .i64 6]) (by simp [results, Tryz.results103, go_sem, d0, d1, d2, d3, d4, d5, d6]) rfl ⟨_, rfl, AtOwn.zero _ _, HQB.out⟩
set_option maxRecDepth 100000 in
set_option maxHeartbeats 4000000 in
theorem prom_none2 (v : Value) (a : AM.At) (b : Int) (p : AM.Pr) (w : World) (H : AtIs w v a) (F : Fit a) (FP : FitP p) (hm : AM.may a = true) (hc : a.ph = 1) (hc2 : (decide (b = a.ba) && QM.has a.ms p.n) = false) :
  Calls Tryz.prog 101 #[v, .int .i64 b, .agg #[.int .i64 p.n, .int .i64 p.b, .string p.v]] w (ErrRet AM.zero 6 w) := by
 have H' := h! H
 have F' := h! F
 obtain ⟨A, n, c, B, m, d, C, k, f, rfl, h1, h2, h3⟩ := H
 obtain ⟨W0, hW0⟩ : ∃ W0, W0 = ((w.alloc (.cells #[.int .u8 a.ph, .int .i64 a.ba, .slice A n c, .string a.wi, .string a.va, .slice B m d, .slice C k f] 57)).alloc (.cells #[.int .i64 p.n, .int .i64 p.b, .string p.v] 86)).alloc (.cells #[.int .u8 0, .int .i64 0, .slice none 0 0, .string ⟨#[]⟩, .string ⟨#[]⟩, .slice none 0 0, .slice none 0 0] 57) := ⟨_, rfl⟩
 have hb0 : Below w.heap.size w W0 := by rw [hW0]; exact (((Below.refl _ _).alloc n! _).alloc (by simp) _).alloc (by simp; omega) _
 have hx0 : Box W0 w.heap.size 57 #[.int .u8 a.ph, .int .i64 a.ba, .slice A n c, .string a.wi, .string a.va, .slice B m d, .slice C k f] := by rw [hW0]; exact ((Box.new _ _ _).alloc _).alloc _
 have hp0 : Box W0 (w.heap.size + 1) 86 #[.int .i64 p.n, .int .i64 p.b, .string p.v] := by rw [hW0]; exact (Box.new_at _ (by simp)).alloc _
 have hz0 : Box W0 (w.heap.size + 2) 57 #[.int .u8 0, .int .i64 0, .slice none 0 0, .string ⟨#[]⟩, .string ⟨#[]⟩, .slice none 0 0, .slice none 0 0] := by rw [hW0]; exact Box.new_at _ (by simp)
 have hs0 : W0.heap.size = w.heap.size + 3 := by rw [hW0]; simp
 have P0 := h! hp0
 have X0 := h! hx0
 have Z0 := h! hz0
 have S0 := h! hs0
 have B0 := h! hb0
 have HCK := h! (acheck_any _ a W0 (H'.out.below hb0) F'.out)
 have HAN := h! (fun (W : World) (hb : Below w.heap.size w W) => isAnswer_any _ a b p.n W (H'.out.below hb) F'.out)
 have HTW := h! (fun (W : World) (hb : Below w.heap.size w W) => twin_any _ a W (H'.out.below hb) F'.out)
 have HPR := h! (fun (W : World) => isPromise_any b p W FP)
 rw [if_pos hm] at HCK
 rw [hc2] at HAN
 clear h1 h2 h3 hb0 hx0 hz0 hs0 HTW hp0 HPR
 have q1 : (a.ph != 1) = false := by simpa using hc
 clear hc
 go_enter Tryz.func101, Tryz.ntmps101
 go_wp2_with fail
 rw [← hW0]
 clear hW0
 refine HCK.out.mono ?_
 rintro e w1 ⟨rfl, hb1⟩
 clear HCK
 have X1 := h! (X0.out.below hb1 X0.out.lt)
 have Z1 := h! (Z0.out.below hb1 Z0.out.lt)
 have P1 := h! (P0.out.below hb1 P0.out.lt)
 have B1 := h! (bmore B0.out hb1 n!)
 clear X0 Z0 B0 P0 hb1
 obtain ⟨⟨t0, t1, t2, t3, t4, t5, t6⟩, tf0, tf1, tf2, tf3, tf4, tf5, tf6⟩ := X1.out.seven
 obtain ⟨p0, p1, p2, pf0, pf1, pf2⟩ := P1.out.three
 go_wp2_with fail
 refine (HAN.out _ B1.out).mono ?_
 clear t0 t1 t2 t3 t4 t5 t6 tf0 tf1 tf2 tf3 tf4 tf5 tf6
 clear p0 p1 p2 pf0 pf1 pf2
 rintro e w2 ⟨rfl, hb2⟩
 have X2 := h! (X1.out.below hb2 X1.out.lt)
 have Z2 := h! (Z1.out.below hb2 Z1.out.lt)
 have P2 := h! (P1.out.below hb2 P1.out.lt)
 have B2 := h! (bmore B1.out hb2 n!)
 clear X1 Z1 B1 P1 hb2
 have qx := Z2.out.put7 (.int .u8 0) (.int .i64 0) (.slice none 0 0) (.string ⟨#[]⟩) (.string ⟨#[]⟩) (.slice none 0 0) (.slice none 0 0)
 have qb := below_put7 B2.out (g := w.heap.size + 2) (by omega) (.int .u8 0) (.int .i64 0) (.slice none 0 0) (.string ⟨#[]⟩) (.string ⟨#[]⟩) (.slice none 0 0) (.slice none 0 0)
 unfold put7 at qx qb
 have HQX := h! qx
 have HQB := h! qb
 clear qx qb
 obtain ⟨⟨v0, v1, v2, v3, v4, v5, v6⟩, vf0, vf1, vf2, vf3, vf4, vf5, vf6⟩ := Z2.out.seven
 go_wp2_with fail
 obtain ⟨⟨d0, d1, d2, d3, d4, d5, d6⟩, _⟩ := HQX.out.seven
 exact bodyPost_ret (v := .tuple #[.agg #[.int .u8 0, .int .i64 0, .slice none 0 0, .string ⟨#[]⟩, .string ⟨#[]⟩, .slice none 0 0, .slice none 0 0], .int .i64 6]) (by simp [results, Tryz.results101, go_sem, d0, d1, d2, d3, d4, d5, d6]) rfl ⟨_, rfl, AtOwn.zero _ _, HQB.out⟩
set_option maxRecDepth 100000 in
set_option maxHeartbeats 4000000 in
theorem acc_none2 (v : Value) (a : AM.At) (b x : Int) (w : World) (H : AtIs w v a) (F : Fit a) (hm : AM.may a = true) (hc : 2 ≤ a.ph) (hc2 : (decide (b = a.ba) && QM.has a.ms x) = false) :
  Calls Tryz.prog 103 #[v, .int .i64 b, .int .i64 x] w (ErrRet AM.zero 6 w) := by
 have H' := h! H
 have F' := h! F
 obtain ⟨A, n, c, B, m, d, C, k, f, rfl, h1, h2, h3⟩ := H
 obtain ⟨W0, hW0⟩ : ∃ W0, W0 = (w.alloc (.cells #[.int .u8 a.ph, .int .i64 a.ba, .slice A n c, .string a.wi, .string a.va, .slice B m d, .slice C k f] 57)).alloc (.cells #[.int .u8 0, .int .i64 0, .slice none 0 0, .string ⟨#[]⟩, .string ⟨#[]⟩, .slice none 0 0, .slice none 0 0] 57) := ⟨_, rfl⟩
 have hb0 : Below w.heap.size w W0 := by rw [hW0]; exact ((Below.refl _ _).alloc n! _).alloc (by simp) _
 have hx0 : Box W0 w.heap.size 57 #[.int .u8 a.ph, .int .i64 a.ba, .slice A n c, .string a.wi, .string a.va, .slice B m d, .slice C k f] := by rw [hW0]; exact (Box.new _ _ _).alloc _
 have hz0 : Box W0 (w.heap.size + 1) 57 #[.int .u8 0, .int .i64 0, .slice none 0 0, .string ⟨#[]⟩, .string ⟨#[]⟩, .slice none 0 0, .slice none 0 0] := by rw [hW0]; exact Box.new_at _ (by simp)
 have hs0 : W0.heap.size = w.heap.size + 2 := by rw [hW0]; simp
 have X0 := h! hx0
 have Z0 := h! hz0
 have S0 := h! hs0
 have B0 := h! hb0
 have HCK := h! (acheck_any _ a W0 (H'.out.below hb0) F'.out)
 have HAN := h! (fun (W : World) (hb : Below w.heap.size w W) => isAnswer_any _ a b x W (H'.out.below hb) F'.out)
 have HTW := h! (fun (W : World) (hb : Below w.heap.size w W) => twin_any _ a W (H'.out.below hb) F'.out)
 rw [if_pos hm] at HCK
 rw [hc2] at HAN
 clear h1 h2 h3 hb0 hx0 hz0 hs0 HTW
 have q1 : decide (a.ph < 2) = false := by simp; omega
 clear hc
 go_enter Tryz.func103, Tryz.ntmps103
 go_wp2_with fail
 rw [← hW0]
 clear hW0
 refine HCK.out.mono ?_
 rintro e w1 ⟨rfl, hb1⟩
 clear HCK
 have X1 := h! (X0.out.below hb1 X0.out.lt)
 have Z1 := h! (Z0.out.below hb1 Z0.out.lt)
 have B1 := h! (bmore B0.out hb1 n!)
 clear X0 Z0 B0 hb1
 obtain ⟨⟨t0, t1, t2, t3, t4, t5, t6⟩, tf0, tf1, tf2, tf3, tf4, tf5, tf6⟩ := X1.out.seven
 go_wp2_with fail
 refine (HAN.out _ B1.out).mono ?_
 clear t0 t1 t2 t3 t4 t5 t6 tf0 tf1 tf2 tf3 tf4 tf5 tf6
 rintro e w2 ⟨rfl, hb2⟩
 have X2 := h! (X1.out.below hb2 X1.out.lt)
 have Z2 := h! (Z1.out.below hb2 Z1.out.lt)
 have B2 := h! (bmore B1.out hb2 n!)
 clear X1 Z1 B1 hb2
 have qx := Z2.out.put7 (.int .u8 0) (.int .i64 0) (.slice none 0 0) (.string ⟨#[]⟩) (.string ⟨#[]⟩) (.slice none 0 0) (.slice none 0 0)
 have qb := below_put7 B2.out (g := w.heap.size + 1) (by omega) (.int .u8 0) (.int .i64 0) (.slice none 0 0) (.string ⟨#[]⟩) (.string ⟨#[]⟩) (.slice none 0 0) (.slice none 0 0)
 unfold put7 at qx qb
 have HQX := h! qx
 have HQB := h! qb
 clear qx qb
 obtain ⟨⟨v0, v1, v2, v3, v4, v5, v6⟩, vf0, vf1, vf2, vf3, vf4, vf5, vf6⟩ := Z2.out.seven
 go_wp2_with fail
 obtain ⟨⟨d0, d1, d2, d3, d4, d5, d6⟩, _⟩ := HQX.out.seven
 exact bodyPost_ret (v := .tuple #[.agg #[.int .u8 0, .int .i64 0, .slice none 0 0, .string ⟨#[]⟩, .string ⟨#[]⟩, .slice none 0 0, .slice none 0 0], .int .i64 6]) (by simp [results, Tryz.results103, go_sem, d0, d1, d2, d3, d4, d5, d6]) rfl ⟨_, rfl, AtOwn.zero _ _, HQB.out⟩
set_option maxRecDepth 100000 in
set_option maxHeartbeats 4000000 in
theorem prom_bad2 (v : Value) (a : AM.At) (b : Int) (p : AM.Pr) (w : World) (H : AtIs w v a) (F : Fit a) (FP : FitP p) (hm : AM.may a = true) (hc : a.ph = 1) (hc2 : (decide (b = a.ba) && QM.has a.ms p.n) = true) (ho : AM.okP b p = false) :
  Calls Tryz.prog 101 #[v, .int .i64 b, .agg #[.int .i64 p.n, .int .i64 p.b, .string p.v]] w (ErrRet AM.zero 8 w) := by
 have H' := h! H
 have F' := h! F
 obtain ⟨A, n, c, B, m, d, C, k, f, rfl, h1, h2, h3⟩ := H
 obtain ⟨W0, hW0⟩ : ∃ W0, W0 = ((w.alloc (.cells #[.int .u8 a.ph, .int .i64 a.ba, .slice A n c, .string a.wi, .string a.va, .slice B m d, .slice C k f] 57)).alloc (.cells #[.int .i64 p.n, .int .i64 p.b, .string p.v] 86)).alloc (.cells #[.int .u8 0, .int .i64 0, .slice none 0 0, .string ⟨#[]⟩, .string ⟨#[]⟩, .slice none 0 0, .slice none 0 0] 57) := ⟨_, rfl⟩
 have hb0 : Below w.heap.size w W0 := by rw [hW0]; exact (((Below.refl _ _).alloc n! _).alloc (by simp) _).alloc (by simp; omega) _
 have hx0 : Box W0 w.heap.size 57 #[.int .u8 a.ph, .int .i64 a.ba, .slice A n c, .string a.wi, .string a.va, .slice B m d, .slice C k f] := by rw [hW0]; exact ((Box.new _ _ _).alloc _).alloc _
 have hp0 : Box W0 (w.heap.size + 1) 86 #[.int .i64 p.n, .int .i64 p.b, .string p.v] := by rw [hW0]; exact (Box.new_at _ (by simp)).alloc _
 have hz0 : Box W0 (w.heap.size + 2) 57 #[.int .u8 0, .int .i64 0, .slice none 0 0, .string ⟨#[]⟩, .string ⟨#[]⟩, .slice none 0 0, .slice none 0 0] := by rw [hW0]; exact Box.new_at _ (by simp)
 have hs0 : W0.heap.size = w.heap.size + 3 := by rw [hW0]; simp
 have P0 := h! hp0
 have X0 := h! hx0
 have Z0 := h! hz0
 have S0 := h! hs0
 have B0 := h! hb0
 have HCK := h! (acheck_any _ a W0 (H'.out.below hb0) F'.out)
 have HAN := h! (fun (W : World) (hb : Below w.heap.size w W) => isAnswer_any _ a b p.n W (H'.out.below hb) F'.out)
 have HTW := h! (fun (W : World) (hb : Below w.heap.size w W) => twin_any _ a W (H'.out.below hb) F'.out)
 have HPR := h! (fun (W : World) => isPromise_any b p W FP)
 rw [if_pos hm] at HCK
 rw [hc2] at HAN
 rw [ho] at HPR
 clear h1 h2 h3 hb0 hx0 hz0 hs0 HTW hp0
 have q1 : (a.ph != 1) = false := by simpa using hc
 clear hc
 go_enter Tryz.func101, Tryz.ntmps101
 go_wp2_with fail
 rw [← hW0]
 clear hW0
 refine HCK.out.mono ?_
 rintro e w1 ⟨rfl, hb1⟩
 clear HCK
 have X1 := h! (X0.out.below hb1 X0.out.lt)
 have Z1 := h! (Z0.out.below hb1 Z0.out.lt)
 have P1 := h! (P0.out.below hb1 P0.out.lt)
 have B1 := h! (bmore B0.out hb1 n!)
 clear X0 Z0 B0 P0 hb1
 obtain ⟨⟨t0, t1, t2, t3, t4, t5, t6⟩, tf0, tf1, tf2, tf3, tf4, tf5, tf6⟩ := X1.out.seven
 obtain ⟨p0, p1, p2, pf0, pf1, pf2⟩ := P1.out.three
 go_wp2_with fail
 refine (HAN.out _ B1.out).mono ?_
 clear t0 t1 t2 t3 t4 t5 t6 tf0 tf1 tf2 tf3 tf4 tf5 tf6
 clear p0 p1 p2 pf0 pf1 pf2
 rintro e w2 ⟨rfl, hb2⟩
 have X2 := h! (X1.out.below hb2 X1.out.lt)
 have Z2 := h! (Z1.out.below hb2 Z1.out.lt)
 have P2 := h! (P1.out.below hb2 P1.out.lt)
 have B2 := h! (bmore B1.out hb2 n!)
 clear X1 Z1 B1 P1 hb2
 obtain ⟨⟨t0, t1, t2, t3, t4, t5, t6⟩, tf0, tf1, tf2, tf3, tf4, tf5, tf6⟩ := X2.out.seven
 obtain ⟨p0, p1, p2, pf0, pf1, pf2⟩ := P2.out.three
 go_wp2_with fail
 refine (HPR.out _).mono ?_
 clear t0 t1 t2 t3 t4 t5 t6 tf0 tf1 tf2 tf3 tf4 tf5 tf6
 clear p0 p1 p2 pf0 pf1 pf2
 rintro e w3 ⟨rfl, hb3⟩
 have X3 := h! (X2.out.below hb3 X2.out.lt)
 have Z3 := h! (Z2.out.below hb3 Z2.out.lt)
 have P3 := h! (P2.out.below hb3 P2.out.lt)
 have B3 := h! (bmore B2.out hb3 n!)
 clear X2 Z2 B2 P2 hb3
 have qx := Z3.out.put7 (.int .u8 0) (.int .i64 0) (.slice none 0 0) (.string ⟨#[]⟩) (.string ⟨#[]⟩) (.slice none 0 0) (.slice none 0 0)
 have qb := below_put7 B3.out (g := w.heap.size + 2) (by omega) (.int .u8 0) (.int .i64 0) (.slice none 0 0) (.string ⟨#[]⟩) (.string ⟨#[]⟩) (.slice none 0 0) (.slice none 0 0)
 unfold put7 at qx qb
 have HQX := h! qx
 have HQB := h! qb
 clear qx qb
 obtain ⟨⟨v0, v1, v2, v3, v4, v5, v6⟩, vf0, vf1, vf2, vf3, vf4, vf5, vf6⟩ := Z3.out.seven
 go_wp2_with fail
 obtain ⟨⟨d0, d1, d2, d3, d4, d5, d6⟩, _⟩ := HQX.out.seven
 exact bodyPost_ret (v := .tuple #[.agg #[.int .u8 0, .int .i64 0, .slice none 0 0, .string ⟨#[]⟩, .string ⟨#[]⟩, .slice none 0 0, .slice none 0 0], .int .i64 8]) (by simp [results, Tryz.results101, go_sem, d0, d1, d2, d3, d4, d5, d6]) rfl ⟨_, rfl, AtOwn.zero _ _, HQB.out⟩
set_option maxRecDepth 100000 in
set_option maxHeartbeats 4000000 in
theorem begin_err (A : Option Addr) (n c : Nat) (ms : List Int) (ba : Int) (wi : ByteArray) (y : Int) (w : World) (hr : Rd w A n (ic ms)) (hl : ms.length ≤ 2000) (b1 : -9223372036854775808 ≤ ba) (b2 : ba ≤ 9223372036854775807) (hs : wi.size ≤ maxLen) (hy : AM.BegIs ms ba wi y) (h0 : y ≠ 0) :
  Calls Tryz.prog 77 #[.slice A n c, .int .i64 ba, .string wi] w (ErrRet AM.zero y w) := by
 obtain ⟨W0, hW0⟩ : ∃ W0, W0 = w.alloc (.cells #[.int .u8 0, .int .i64 0, .slice none 0 0, .string ⟨#[]⟩, .string ⟨#[]⟩, .slice none 0 0, .slice none 0 0] 57) := ⟨_, rfl⟩
 have hb0 : Below w.heap.size w W0 := by rw [hW0]; exact (Below.refl _ _).alloc n! _
 have hz0 : Box W0 w.heap.size 57 #[.int .u8 0, .int .i64 0, .slice none 0 0, .string ⟨#[]⟩, .string ⟨#[]⟩, .slice none 0 0, .slice none 0 0] := by rw [hW0]; exact Box.new _ _ _
 have HWR := h! (wrong_any A n c ms ba wi y W0 (hr.below hb0) (by have := hr.1; rw [ic_length] at this; omega) b1 b2 hs hy)
 have B0 := h! hb0
 have Z0 := h! hz0
 have q1 : (y != 0) = true := by simpa using h0
 clear hr hy hb0 hz0 h0
 go_enter Tryz.func77, Tryz.ntmps77
 go_wp2_with fail
 rw [← hW0]
 clear hW0
 refine HWR.out.mono ?_
 rintro e w1 ⟨rfl, rfl⟩
 have qx := Z0.out.put7 (.int .u8 0) (.int .i64 0) (.slice none 0 0) (.string ⟨#[]⟩) (.string ⟨#[]⟩) (.slice none 0 0) (.slice none 0 0)
 have qb := below_put7 B0.out (g := w.heap.size) (by omega) (.int .u8 0) (.int .i64 0) (.slice none 0 0) (.string ⟨#[]⟩) (.string ⟨#[]⟩) (.slice none 0 0) (.slice none 0 0)
 unfold put7 at qx qb
 have HQX := h! qx
 have HQB := h! qb
 clear qx qb
 obtain ⟨⟨v0, v1, v2, v3, v4, v5, v6⟩, vf0, vf1, vf2, vf3, vf4, vf5, vf6⟩ := Z0.out.seven
 go_wp2_with fail
 obtain ⟨⟨d0, d1, d2, d3, d4, d5, d6⟩, _⟩ := HQX.out.seven
 exact bodyPost_ret (v := .tuple #[.agg #[.int .u8 0, .int .i64 0, .slice none 0 0, .string ⟨#[]⟩, .string ⟨#[]⟩, .slice none 0 0, .slice none 0 0], .int .i64 y]) (by simp [results, Tryz.results77, go_sem, d0, d1, d2, d3, d4, d5, d6]) rfl ⟨_, rfl, AtOwn.zero _ _, HQB.out⟩
set_option maxRecDepth 100000 in
set_option maxHeartbeats 4000000 in
theorem begin_ok (A : Option Addr) (n c : Nat) (ms : List Int) (ba : Int) (wi : ByteArray) (y : Int) (w : World) (hr : Rd w A n (ic ms)) (hl : ms.length ≤ 2000) (b1 : -9223372036854775808 ≤ ba) (b2 : ba ≤ 9223372036854775807) (hs : wi.size ≤ maxLen) (hy : AM.BegIs ms ba wi y) (h0 : y = 0) :
  Calls Tryz.prog 77 #[.slice A n c, .int .i64 ba, .string wi] w (ErrRet (AM.start ms ba wi) y w) := by
 obtain ⟨W0, hW0⟩ : ∃ W0, W0 = w.alloc (.cells #[.int .u8 0, .int .i64 0, .slice none 0 0, .string ⟨#[]⟩, .string ⟨#[]⟩, .slice none 0 0, .slice none 0 0] 57) := ⟨_, rfl⟩
 have hb0 : Below w.heap.size w W0 := by rw [hW0]; exact (Below.refl _ _).alloc n! _
 have hz0 : Box W0 w.heap.size 57 #[.int .u8 0, .int .i64 0, .slice none 0 0, .string ⟨#[]⟩, .string ⟨#[]⟩, .slice none 0 0, .slice none 0 0] := by rw [hW0]; exact Box.new _ _ _
 have HWR := h! (wrong_any A n c ms ba wi y W0 (hr.below hb0) (by have := hr.1; rw [ic_length] at this; omega) b1 b2 hs hy)
 have B0 := h! hb0
 have Z0 := h! hz0
 subst h0
 have HTW := h! (twin_any (.agg #[.int .u8 1, .int .i64 ba, .slice A n c, .string wi, .string ⟨#[]⟩, .slice none 0 0, .slice none 0 0]) (AM.start ms ba wi) W0 ⟨A, n, c, none, 0, 0, none, 0, 0, rfl, hr.below hb0, RdP.nil, Rd.nil⟩ ⟨by simp [AM.start], by simp [AM.start], b1, b2, hs, hl, by simp [AM.start], by simp [AM.start], fun q hq => by simp [AM.start] at hq⟩)
 clear hr hy hb0 hz0
 go_enter Tryz.func77, Tryz.ntmps77
 go_wp2_with fail
 rw [← hW0]
 clear hW0
 refine HWR.out.mono ?_
 rintro e w1 ⟨rfl, rfl⟩
 go_wp2_with fail
 refine HTW.out.mono ?_
 rintro e w2 ⟨v, rfl, hnew, hb2⟩
 have Z1 := h! (Z0.out.below hb2 Z0.out.lt)
 have B1 := h! (bmore B0.out hb2 n!)
 have HOWN := h! (And.intro hnew.own hb2.size)
 have hz := Z0.out.lt
 clear hb2 Z0 B0 hnew
 obtain ⟨x1, y1, z1, rfl, o1, o2, o3⟩ := HOWN.out.1
 obtain ⟨A1, qc1, rfl, _, _⟩ := own_form o1
 obtain ⟨B1', qc2, rfl, _, _⟩ := own_form o2
 obtain ⟨C1, qc3, rfl, _, _⟩ := own_form o3
 have qx := Z1.out.put7 (.int .u8 (AM.start ms ba wi).ph) (.int .i64 (AM.start ms ba wi).ba) (.slice A1 (AM.start ms ba wi).ms.length qc1) (.string (AM.start ms ba wi).wi) (.string (AM.start ms ba wi).va) (.slice B1' (AM.start ms ba wi).ps.length qc2) (.slice C1 (AM.start ms ba wi).ac.length qc3)
 have qb := below_put7 B1.out (g := w.heap.size) (by omega) (.int .u8 (AM.start ms ba wi).ph) (.int .i64 (AM.start ms ba wi).ba) (.slice A1 (AM.start ms ba wi).ms.length qc1) (.string (AM.start ms ba wi).wi) (.string (AM.start ms ba wi).va) (.slice B1' (AM.start ms ba wi).ps.length qc2) (.slice C1 (AM.start ms ba wi).ac.length qc3)
 have k1 := own_put7 o1 (g := w.heap.size) hz (.int .u8 (AM.start ms ba wi).ph) (.int .i64 (AM.start ms ba wi).ba) (.slice A1 (AM.start ms ba wi).ms.length qc1) (.string (AM.start ms ba wi).wi) (.string (AM.start ms ba wi).va) (.slice B1' (AM.start ms ba wi).ps.length qc2) (.slice C1 (AM.start ms ba wi).ac.length qc3)
 have k2 := own_put7 o2 (g := w.heap.size) hz (.int .u8 (AM.start ms ba wi).ph) (.int .i64 (AM.start ms ba wi).ba) (.slice A1 (AM.start ms ba wi).ms.length qc1) (.string (AM.start ms ba wi).wi) (.string (AM.start ms ba wi).va) (.slice B1' (AM.start ms ba wi).ps.length qc2) (.slice C1 (AM.start ms ba wi).ac.length qc3)
 have k3 := own_put7 o3 (g := w.heap.size) hz (.int .u8 (AM.start ms ba wi).ph) (.int .i64 (AM.start ms ba wi).ba) (.slice A1 (AM.start ms ba wi).ms.length qc1) (.string (AM.start ms ba wi).wi) (.string (AM.start ms ba wi).va) (.slice B1' (AM.start ms ba wi).ps.length qc2) (.slice C1 (AM.start ms ba wi).ac.length qc3)
 unfold put7 at qx qb k1 k2 k3
 have HQX := h! qx
 have HK := h! (And.intro qb (And.intro (own_base k1 (Nat.le_of_lt (Nat.lt_of_le_of_lt (show w.heap.size ≤ w.heap.size by omega) hz))) (And.intro (own_base k2 (Nat.le_of_lt (Nat.lt_of_le_of_lt (show w.heap.size ≤ w.heap.size by omega) hz))) (own_base k3 (Nat.le_of_lt (Nat.lt_of_le_of_lt (show w.heap.size ≤ w.heap.size by omega) hz))))))
 obtain ⟨⟨v0, v1, v2, v3, v4, v5, v6⟩, vf0, vf1, vf2, vf3, vf4, vf5, vf6⟩ := Z1.out.seven
 clear qx qb k1 k2 k3 o1 o2 o3
 go_wp2_with fail
 obtain ⟨⟨d0, d1, d2, d3, d4, d5, d6⟩, _⟩ := HQX.out.seven
 exact bodyPost_ret (v := .tuple #[.agg #[.int .u8 (AM.start ms ba wi).ph, .int .i64 (AM.start ms ba wi).ba, .slice A1 (AM.start ms ba wi).ms.length qc1, .string (AM.start ms ba wi).wi, .string (AM.start ms ba wi).va, .slice B1' (AM.start ms ba wi).ps.length qc2, .slice C1 (AM.start ms ba wi).ac.length qc3], .int .i64 0]) (by simp [results, Tryz.results77, go_sem, d0, d1, d2, d3, d4, d5, d6]) rfl ⟨_, rfl, ⟨_, _, _, rfl, HK.out.2.1, HK.out.2.2.1, HK.out.2.2.2⟩, HK.out.1⟩
end Go.Proofs.YtiiobafcgdelmaaGreat
