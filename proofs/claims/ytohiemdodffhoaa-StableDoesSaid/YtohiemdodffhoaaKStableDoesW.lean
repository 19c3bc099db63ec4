/-
  The walk of StableDoes: it is checked, compared, copied, told, and records are done as the document says; they stay, and what is answered is new memory. Conditions: any two, record, and place. Written by wip/tools/gen/ps/does.py.
-/
import Derived.Test.YtohiemdodffhoaaKStableReplaysW
import Derived.Test.YtohiemdodffhoaaK04
import Derived.Test.YtohiemdodffhoaaK01
namespace Go.Proofs.Ytohiemdodffhoaa.SP
open Go.RowKit Go.Shelf
open SM (Sn Sb Vo)
set_option linter.unusedVariables false
set_option linter.unusedSimpArgs false
set_option maxRecDepth 100000

theorem five_bd {w : World} {g : Nat} {t : TypeId} {a b c d f : Value} (h : Box w g t #[a, b, c, d, f]) :
    w.cell? ⟨g, 0, none⟩ = some a ∧ w.cell? ⟨g, 1, none⟩ = some b ∧ w.cell? ⟨g, 2, none⟩ = some c ∧ w.cell? ⟨g, 3, none⟩ = some d ∧ w.cell? ⟨g, 4, none⟩ = some f :=
  ⟨h.cell 0, h.cell 1, h.cell 2, h.cell 3, h.cell 4⟩
theorem sv_logs {w : World} {A : Option Addr} {c : Nat} {B : Option Addr} {d : Nat} {x : Sb} (h : StIs w (.agg #[.slice A x.logs.length c, .slice B x.votes.length d]) x) : LogsIs w A x.logs.length c x.logs := by
  obtain ⟨A', c', B', d', e, h1, h2⟩ := h
  injection e with e
  injection e with e
  injection e with e1 e
  injection e1 with e1 _ e2
  subst e1
  subst e2
  exact h1
theorem sv_votes {w : World} {A : Option Addr} {c : Nat} {B : Option Addr} {d : Nat} {x : Sb} (h : StIs w (.agg #[.slice A x.logs.length c, .slice B x.votes.length d]) x) : x.votes.length ≤ d ∧ d ≤ maxLen := by
  obtain ⟨A', c', B', d', e, h1, h2⟩ := h
  injection e with e
  injection e with e
  injection e with e1 e
  injection e with e3 _
  injection e3 with _ _ e4
  subst e4
  exact ⟨h2.2.2.1, h2.2.2.2.1⟩
/-- a variable of a vote -/
structure DvV (w : World) (g : Nat) (p b : Int) (v : ByteArray) : Prop where
  bx : Box w g 48 #[.int .i64 p, .int .i64 b, .string v]
theorem DvV.below {w w' : World} {g : Nat} {p b : Int} {v : ByteArray} (h : DvV w g p b v) (hb : Below w.heap.size w w') : DvV w' g p b v := ⟨h.bx.below hb h.bx.lt⟩
/-- a variable of a record -/
structure DvR (w : World) (g : Nat) (k a s b : Int) (v : ByteArray) : Prop where
  bx : Box w g 29 #[.int .u8 k, .int .i64 a, .int .i64 s, .int .i64 b, .string v]
theorem DvR.below {w w' : World} {g : Nat} {k a s b : Int} {v : ByteArray} (h : DvR w g k a s b v) (hb : Below w.heap.size w w') : DvR w' g k a s b v := ⟨h.bx.below hb h.bx.lt⟩
set_option maxHeartbeats 64000000 in
theorem stableDoes_of (v : Value) (x : Sb) (v' : Value) (x' : Sb) (k g s b : Int) (t : ByteArray) (gp sl : Int) (w : World) (hv : StArg w v x) (hv' : StArg w v' x') (hb1 : -9223372036854775808 ≤ b) (hb2 : b ≤ 9223372036854775807) (ht : t.size ≤ maxLen) :
    Calls Try.prog 4 #[v, v', .agg #[.int .u8 k, .int .i64 g, .int .i64 s, .int .i64 b, .string t], .int .i64 gp, .int .i64 sl] w fun e w' => e = .returned (.bool true) ∧ Below w.heap.size w w' := by
  obtain ⟨⟨A, c, B, d, rfl, hL, hV⟩, F⟩ := hv
  obtain ⟨⟨A', c', B', d', rfl, hL', hV'⟩, F'⟩ := hv'
  obtain ⟨W1, hW1⟩ : ∃ W1, W1 = ((w.alloc (.cells #[.slice A x.logs.length c, .slice B x.votes.length d] 25)).alloc (.cells #[.slice A' x'.logs.length c', .slice B' x'.votes.length d'] 25)).alloc (.cells #[.int .u8 k, .int .i64 g, .int .i64 s, .int .i64 b, .string t] 29) := ⟨_, rfl⟩
  have hb0 : Below w.heap.size w W1 := by rw [hW1]; exact (((Below.refl _ _).alloc (Nat.le_refl _) _).alloc (by simp) _).alloc (by simp; omega) _
  have HB := Lib.hid hb0
  have VS := Lib.hid (show SV W1 w.heap.size A c B d x from ⟨by rw [hW1]; exact ((Box.new w _ _).alloc _).alloc _, A, c, B, d, rfl, hL.below hb0, hV.below hb0⟩)
  have VO := Lib.hid (show SV W1 (w.heap.size + 1) A' c' B' d' x' from ⟨by rw [hW1]; exact (Box.new_at _ (by simp)).alloc _, A', c', B', d', rfl, hL'.below hb0, hV'.below hb0⟩)
  have BR := Lib.hid (show DvR W1 (w.heap.size + 1 + 1) k g s b t from ⟨by rw [hW1]; exact Box.new_at _ (by simp)⟩)
  have HF := Lib.hid F
  have HF' := Lib.hid F'
  have ht2 := ht
  unfold maxLen at ht2
  clear hL hV hL' hV' hb0 F F'
  go_enter Try.func4, Try.ntmps4
  go_upto_region 1 with (fail)
  rw [← hW1]
  clear hW1
  obtain ⟨g0, hg0⟩ : ∃ g0, w.heap.size = g0 := ⟨_, rfl⟩
  rw [hg0] at VS VO BR
  simp only [hg0]
  have HG := Lib.hid hg0
  clear hg0
  obtain ⟨x0, x1, _, _⟩ := VS.out.bx.two
  go_wp2_with fail
  clear x0 x1
  refine (rgreat11_any _ x W1 VS.out.st HF.out).mono ?_
  rintro e w2 ⟨gr, rfl, hfew, hb⟩
  replace HB := Lib.hid (bmore HB.out hb (Nat.le_refl _))
  replace VS := Lib.hid (VS.out.below hb)
  replace VO := Lib.hid (VO.out.below hb)
  replace BR := Lib.hid (BR.out.below hb)
  rcases gr with _ | _
  rotate_left
  · go_wp2_with fail
    go_ret
    exact ⟨rfl, by have := HB.out; rwa [HG.out] at this⟩
  have HMN := Lib.hid (few_many (hfew rfl))
  clear hb hfew
  obtain ⟨x0, x1, _, _⟩ := VO.out.bx.two
  go_wp2_with fail
  clear x0 x1
  refine (rgreat11_any _ x' w2 VO.out.st HF'.out).mono ?_
  rintro e w3 ⟨gr, rfl, hfew, hb⟩
  replace HB := Lib.hid (bmore HB.out hb (Nat.le_refl _))
  replace VS := Lib.hid (VS.out.below hb)
  replace VO := Lib.hid (VO.out.below hb)
  replace BR := Lib.hid (BR.out.below hb)
  clear hb hfew
  rcases gr with _ | _
  rotate_left
  · go_wp2_with fail
    go_ret
    exact ⟨rfl, by have := HB.out; rwa [HG.out] at this⟩
  obtain ⟨r0, r1, r2, r3, r4⟩ := five_bd BR.out.bx
  by_cases h5 : 5000 < t.size
  · have t5 : decide ((5000 : Int) < (t.size : Int)) = true := by rw [decide_eq_true_iff]; omega
    go_wp2_with fail
    go_ret
    exact ⟨rfl, by have := HB.out; rwa [HG.out] at this⟩
  have t5 : decide ((5000 : Int) < (t.size : Int)) = false := by rw [decide_eq_false_iff_not]; omega
  have HGL := Lib.hid (show g0 ≤ w3.heap.size by have := HB.out.size; have := HG.out; omega)
  obtain ⟨x0, x1, _, _⟩ := VS.out.bx.two
  go_wp2_with fail
  clear x0 x1 r0 r1 r2 r3 r4 t5
  refine (rtwin_any _ x w3 VS.out.st HMN.out).mono ?_
  rintro e w4 ⟨vw, rfl, ho, hb⟩
  obtain ⟨A1, c1, B1, d1, rfl⟩ := ty_slices ho.ty
  have VW := Lib.hid (sv_new ho.ty)
  have hba : Below w4.heap.size w4 (w4.alloc (.cells #[.slice A1 x.logs.length c1, .slice B1 x.votes.length d1] 25)) := (Below.refl _ _).alloc (Nat.le_refl _) _
  have hbb := bmore hb hba (Nat.le_refl _)
  replace HB := Lib.hid (bmore HB.out hbb (Nat.le_refl _))
  replace VS := Lib.hid (VS.out.below hbb)
  replace VO := Lib.hid (VO.out.below hbb)
  replace BR := Lib.hid (BR.out.below hbb)
  clear ho hb hba hbb
  go_upto_region 4 with (fail)
  generalize w4.alloc (.cells #[.slice A1 x.logs.length c1, .slice B1 x.votes.length d1] 25) = w5 at HB VS VO BR VW ⊢
  generalize w4.heap.size = gw at VW ⊢
  have VS5 := Lib.hid VS.out
  have VW5 := Lib.hid VW.out
  have BL5 := Lib.hid (Below.refl w5.heap.size w5)
  obtain ⟨x0, x1, _, _⟩ := VW.out.bx.two
  obtain ⟨r0, r1, r2, r3, r4⟩ := five_bd BR.out.bx
  go_wp2_with fail
  clear x0 x1 r0 r1 r2 r3 r4
  refine (apply_any _ x k g s b t w5 VW.out.st HF.out ht hb1 hb2).mono ?_
  rintro e w6 ⟨vx, rfl, ho, hb⟩
  obtain ⟨q, hq⟩ : ∃ q, q = SM.appF x ⟨k, g, s, b, t⟩ := ⟨_, rfl⟩
  have CRA := Lib.hid (fun (W : World) (h : StIs W (.agg #[.slice A x.logs.length c, .slice B x.votes.length d]) x) => rapply_any _ x k g s b t W h HF.out ht)
  have HFY := Lib.hid (fit_app x ⟨k, g, s, b, t⟩)
  unfold AppPost at CRA
  rw [← hq] at ho HFY ⊢
  simp only [← hq] at CRA
  clear hq
  obtain ⟨y, e2⟩ := q
  simp only at ho CRA HFY ⊢
  obtain ⟨A2, c2, B2, d2, rfl⟩ := ty_slices ho.ty
  have VX := Lib.hid (sv_new ho.ty)
  have RX0 := ho.rows
  obtain ⟨_, m1, m2⟩ := rows_rd2 (sv_logs ho.is)
  have hvx := sv_votes ho.is
  have HMX := Lib.hid (And.intro (And.intro m1 m2) hvx)
  have hba : Below w6.heap.size w6 (w6.alloc (.cells #[.slice A2 y.logs.length c2, .slice B2 y.votes.length d2] 25)) := (Below.refl _ _).alloc (Nat.le_refl _) _
  have hbb := bmore hb hba (Nat.le_refl _)
  have RX := Lib.hid (RX0.below hba)
  have HX1 := Lib.hid (show w5.heap.size ≤ w6.heap.size from hb.size)
  have HX2 := Lib.hid (show w6.heap.size < (w6.alloc (.cells #[.slice A2 y.logs.length c2, .slice B2 y.votes.length d2] 25)).heap.size by simp)
  replace HB := Lib.hid (bmore HB.out hbb (Nat.le_refl _))
  replace BL5 := Lib.hid (bmore BL5.out hbb (Nat.le_refl _))
  replace VS := Lib.hid (VS.out.below hbb)
  replace VO := Lib.hid (VO.out.below hbb)
  replace BR := Lib.hid (BR.out.below hbb)
  replace VW := Lib.hid (VW.out.below hbb)
  clear ho hb hba hbb RX0 m1 m2 hvx
  go_upto_region 5 with (fail)
  generalize w6.alloc (.cells #[.slice A2 y.logs.length c2, .slice B2 y.votes.length d2] 25) = w7 at HB BL5 VS VO BR VW VX RX HX2 ⊢
  generalize w6.heap.size = gx at VX RX HX1 HX2 ⊢
  obtain ⟨x0, x1, _, _⟩ := VS.out.bx.two
  obtain ⟨r0, r1, r2, r3, r4⟩ := five_bd BR.out.bx
  go_wp2_with fail
  clear x0 x1 r0 r1 r2 r3 r4
  refine (CRA.out w7 VS.out.st).mono ?_
  rintro e w8 ⟨vy, rfl, ho, hb⟩
  obtain ⟨A3, c3, B3, d3, rfl⟩ := ty_slices ho
  have VY := Lib.hid (sv_new ho)
  have hba : Below w8.heap.size w8 (w8.alloc (.cells #[.slice A3 y.logs.length c3, .slice B3 y.votes.length d3] 25)) := (Below.refl _ _).alloc (Nat.le_refl _) _
  have hbb := bmore hb hba (Nat.le_refl _)
  replace HB := Lib.hid (bmore HB.out hbb (Nat.le_refl _))
  replace BL5 := Lib.hid (bmore BL5.out hbb (Nat.le_refl _))
  replace HX2 := Lib.hid (Nat.lt_of_lt_of_le HX2.out hbb.size)
  replace VS := Lib.hid (VS.out.below hbb)
  replace VO := Lib.hid (VO.out.below hbb)
  replace BR := Lib.hid (BR.out.below hbb)
  replace VW := Lib.hid (VW.out.below hbb)
  replace VX := Lib.hid (VX.out.below hbb)
  replace RX := Lib.hid (RX.out.below hbb)
  clear ho hb hba hbb CRA
  go_upto_region 6 with (fail)
  generalize w8.alloc (.cells #[.slice A3 y.logs.length c3, .slice B3 y.votes.length d3] 25) = w9 at HB BL5 VS VO BR VW VX RX VY HX2 ⊢
  generalize w8.heap.size = gy at VY ⊢
  obtain ⟨o, ho⟩ : ∃ o, o = SM.atF x gp sl := ⟨_, rfl⟩
  have CT1 := Lib.hid (fun (W : World) (h : StIs W (.agg #[.slice A1 x.logs.length c1, .slice B1 x.votes.length d1]) x) => at_any _ x gp sl W h HF.out)
  have CT2 := Lib.hid (fun (W : World) (h : StIs W (.agg #[.slice A x.logs.length c, .slice B x.votes.length d]) x) => rat_any _ x gp sl W h HF.out)
  simp only [← ho] at CT1 CT2
  clear ho
  obtain ⟨⟨p1, b1, v1⟩, z1⟩ := o
  simp only at CT1 CT2
  obtain ⟨x0, x1, _, _⟩ := VW.out.bx.two
  go_wp2_with fail
  clear x0 x1
  refine (CT1.out _ VW.out.st).mono ?_
  rintro e wa ⟨rfl, hb⟩
  have PV := Lib.hid (show DvV (wa.alloc (.cells #[.int .i64 p1, .int .i64 b1, .string v1] 48)) wa.heap.size p1 b1 v1 from ⟨Box.new _ _ _⟩)
  have hba : Below wa.heap.size wa (wa.alloc (.cells #[.int .i64 p1, .int .i64 b1, .string v1] 48)) := (Below.refl _ _).alloc (Nat.le_refl _) _
  have hbb := bmore hb hba (Nat.le_refl _)
  replace HB := Lib.hid (bmore HB.out hbb (Nat.le_refl _))
  replace BL5 := Lib.hid (bmore BL5.out hbb (Nat.le_refl _))
  replace HX2 := Lib.hid (Nat.lt_of_lt_of_le HX2.out hbb.size)
  replace VS := Lib.hid (VS.out.below hbb)
  replace VO := Lib.hid (VO.out.below hbb)
  replace BR := Lib.hid (BR.out.below hbb)
  replace VW := Lib.hid (VW.out.below hbb)
  replace VX := Lib.hid (VX.out.below hbb)
  replace RX := Lib.hid (RX.out.below hbb)
  replace VY := Lib.hid (VY.out.below hbb)
  clear hb hba hbb CT1
  go_upto_region 7 with (fail)
  generalize wa.alloc (.cells #[.int .i64 p1, .int .i64 b1, .string v1] 48) = w10 at HB BL5 VS VO BR VW VX RX VY PV HX2 ⊢
  generalize wa.heap.size = gv at PV ⊢
  obtain ⟨x0, x1, _, _⟩ := VS.out.bx.two
  go_wp2_with fail
  clear x0 x1
  refine (CT2.out _ VS.out.st).mono ?_
  rintro e wa ⟨rfl, hb⟩
  have PW := Lib.hid (show DvV (wa.alloc (.cells #[.int .i64 p1, .int .i64 b1, .string v1] 48)) wa.heap.size p1 b1 v1 from ⟨Box.new _ _ _⟩)
  have hba : Below wa.heap.size wa (wa.alloc (.cells #[.int .i64 p1, .int .i64 b1, .string v1] 48)) := (Below.refl _ _).alloc (Nat.le_refl _) _
  have hbb := bmore hb hba (Nat.le_refl _)
  replace HB := Lib.hid (bmore HB.out hbb (Nat.le_refl _))
  replace BL5 := Lib.hid (bmore BL5.out hbb (Nat.le_refl _))
  replace HX2 := Lib.hid (Nat.lt_of_lt_of_le HX2.out hbb.size)
  replace VS := Lib.hid (VS.out.below hbb)
  replace VO := Lib.hid (VO.out.below hbb)
  replace BR := Lib.hid (BR.out.below hbb)
  replace VW := Lib.hid (VW.out.below hbb)
  replace VX := Lib.hid (VX.out.below hbb)
  replace RX := Lib.hid (RX.out.below hbb)
  replace VY := Lib.hid (VY.out.below hbb)
  replace PV := Lib.hid (PV.out.below hbb)
  clear hb hba hbb CT2
  go_upto_region 8 with (fail)
  generalize wa.alloc (.cells #[.int .i64 p1, .int .i64 b1, .string v1] 48) = w11 at HB BL5 VS VO BR VW VX RX VY PV PW HX2 ⊢
  generalize wa.heap.size = gq at PW ⊢
  obtain ⟨x0, x1, _, _⟩ := VW.out.bx.two
  go_wp2_with fail
  clear x0 x1
  refine (twin_any _ x w11 VW.out.st HMN.out).mono ?_
  rintro e w12 ⟨vt, rfl, ho, hb⟩
  obtain ⟨A4, c4, B4, d4, rfl⟩ := ty_slices ho.ty
  have VT := Lib.hid (sv_new ho.ty)
  have RT0 := ho.rows
  obtain ⟨_, m1, m2⟩ := rows_rd2 (sv_logs ho.is)
  have hvx := sv_votes ho.is
  have HMT := Lib.hid (And.intro (And.intro m1 m2) hvx)
  have hba : Below w12.heap.size w12 (w12.alloc (.cells #[.slice A4 x.logs.length c4, .slice B4 x.votes.length d4] 25)) := (Below.refl _ _).alloc (Nat.le_refl _) _
  have hbb := bmore hb hba (Nat.le_refl _)
  have RT := Lib.hid (RT0.below hba)
  have HT1 := Lib.hid (show w11.heap.size ≤ w12.heap.size from hb.size)
  have HT2 := Lib.hid (show w12.heap.size < (w12.alloc (.cells #[.slice A4 x.logs.length c4, .slice B4 x.votes.length d4] 25)).heap.size by simp)
  have HX3 := Lib.hid HX2.out
  replace HB := Lib.hid (bmore HB.out hbb (Nat.le_refl _))
  replace BL5 := Lib.hid (bmore BL5.out hbb (Nat.le_refl _))
  replace HX2 := Lib.hid (Nat.lt_of_lt_of_le HX2.out hbb.size)
  replace VS := Lib.hid (VS.out.below hbb)
  replace VO := Lib.hid (VO.out.below hbb)
  replace BR := Lib.hid (BR.out.below hbb)
  replace VW := Lib.hid (VW.out.below hbb)
  replace VX := Lib.hid (VX.out.below hbb)
  replace RX := Lib.hid (RX.out.below hbb)
  replace VY := Lib.hid (VY.out.below hbb)
  replace PV := Lib.hid (PV.out.below hbb)
  replace PW := Lib.hid (PW.out.below hbb)
  clear ho hb hba hbb RT0 m1 m2 hvx
  go_upto_region 9 with (fail)
  generalize w12.alloc (.cells #[.slice A4 x.logs.length c4, .slice B4 x.votes.length d4] 25) = wA at HB BL5 VS VO BR VW VX RX VY PV PW VT RT HX2 HT2 ⊢
  generalize w12.heap.size = gt at VT RT HT1 HT2 ⊢
  have HSS := Lib.hid (show ∀ w', Below wA.heap.size wA w' → ((w'.cell? ⟨g0, 0, none⟩ = some (.slice A x.logs.length c) ∧ w'.cell? ⟨g0, 1, none⟩ = some (.slice B x.votes.length d)) ∧ (w'.cell? ⟨g0 + 1, 0, none⟩ = some (.slice A' x'.logs.length c') ∧ w'.cell? ⟨g0 + 1, 1, none⟩ = some (.slice B' x'.votes.length d')) ∧ (w'.cell? ⟨gw, 0, none⟩ = some (.slice A1 x.logs.length c1) ∧ w'.cell? ⟨gw, 1, none⟩ = some (.slice B1 x.votes.length d1)) ∧ (w'.cell? ⟨gx, 0, none⟩ = some (.slice A2 y.logs.length c2) ∧ w'.cell? ⟨gx, 1, none⟩ = some (.slice B2 y.votes.length d2)) ∧ (w'.cell? ⟨gy, 0, none⟩ = some (.slice A3 y.logs.length c3) ∧ w'.cell? ⟨gy, 1, none⟩ = some (.slice B3 y.votes.length d3)) ∧ (w'.cell? ⟨gt, 0, none⟩ = some (.slice A4 x.logs.length c4) ∧ w'.cell? ⟨gt, 1, none⟩ = some (.slice B4 x.votes.length d4)) ∧ (w'.cell? ⟨gv, 0, none⟩ = some (.int .i64 p1) ∧ w'.cell? ⟨gv, 1, none⟩ = some (.int .i64 b1) ∧ w'.cell? ⟨gv, 2, none⟩ = some (.string v1)) ∧ (w'.cell? ⟨gq, 0, none⟩ = some (.int .i64 p1) ∧ w'.cell? ⟨gq, 1, none⟩ = some (.int .i64 b1) ∧ w'.cell? ⟨gq, 2, none⟩ = some (.string v1))) from fun w' hq => ⟨⟨(VS.out.below hq).bx.cell 0, (VS.out.below hq).bx.cell 1⟩, ⟨(VO.out.below hq).bx.cell 0, (VO.out.below hq).bx.cell 1⟩, ⟨(VW.out.below hq).bx.cell 0, (VW.out.below hq).bx.cell 1⟩, ⟨(VX.out.below hq).bx.cell 0, (VX.out.below hq).bx.cell 1⟩, ⟨(VY.out.below hq).bx.cell 0, (VY.out.below hq).bx.cell 1⟩, ⟨(VT.out.below hq).bx.cell 0, (VT.out.below hq).bx.cell 1⟩, ⟨(PV.out.below hq).bx.cell 0, (PV.out.below hq).bx.cell 1, (PV.out.below hq).bx.cell 2⟩, ⟨(PW.out.below hq).bx.cell 0, (PW.out.below hq).bx.cell 1, (PW.out.below hq).bx.cell 2⟩⟩)
  have CS1 := Lib.hid (fun (W : World) (h : Below wA.heap.size wA W) => rsame_self (VX.out.below h).st (VY.out.below h).st)
  have CS2 := Lib.hid (fun (W : World) (h : Below wA.heap.size wA W) => rsame_self (VT.out.below h).st (VS.out.below h).st)
  have CCK := Lib.hid (fun (W : World) (h : Below wA.heap.size wA W) => check_any _ x W (VW.out.below h).st HF.out)
  have CMY := Lib.hid (fun (W : World) (h : Below wA.heap.size wA W) => rmay11_any _ x W (VS.out.below h).st HF.out)
  have CSM := Lib.hid (fun (W : World) (h : Below wA.heap.size wA W) => same_any _ _ x x' W (VW.out.below h).st (VO.out.below h).st)
  have CS3 := Lib.hid (fun (W : World) (h : Below wA.heap.size wA W) => rsame_any _ _ x x' W (VS.out.below h).st (VO.out.below h).st)
  obtain ⟨z, hz⟩ : ∃ z : Int, z = if SM.may x then 0 else 8 := ⟨_, rfl⟩
  obtain ⟨mb, hmb⟩ : ∃ mb : Bool, mb = decide (SM.may x) := ⟨_, rfl⟩
  obtain ⟨sb, hsb⟩ : ∃ sb : Bool, sb = decide (x = x') := ⟨_, rfl⟩
  simp only [← hz] at CCK
  simp only [← hmb] at CMY
  simp only [← hsb] at CSM CS3
  have tzm : (z == 0) = mb := by rw [hz, hmb]; by_cases h : SM.may x <;> simp [h]
  have tmm : (mb != mb) = false := by simp
  have tss : (sb != sb) = false := by simp
  have tee : (e2 != e2) = false := by simp
  have tz1 : (z1 != z1) = false := by simp
  clear hz hmb hsb
  obtain ⟨⟨_, _⟩, ⟨_, _⟩, ⟨_, _⟩, ⟨_, _⟩, ⟨_, _⟩, ⟨_, _⟩, ⟨_, _, _⟩, ⟨_, _, _⟩⟩ := HSS.out wA (Below.refl _ _)
  have bb1 : Below wA.heap.size wA wA.drew := (Below.refl _ _).drew
  obtain ⟨ud, hud⟩ : ∃ ud, ud = wA.drew := ⟨_, rfl⟩
  refine wp_region_held_drew (S := fun w' => ((w'.cell? ⟨g0, 0, none⟩ = some (.slice A x.logs.length c) ∧ w'.cell? ⟨g0, 1, none⟩ = some (.slice B x.votes.length d)) ∧ (w'.cell? ⟨g0 + 1, 0, none⟩ = some (.slice A' x'.logs.length c') ∧ w'.cell? ⟨g0 + 1, 1, none⟩ = some (.slice B' x'.votes.length d')) ∧ (w'.cell? ⟨gw, 0, none⟩ = some (.slice A1 x.logs.length c1) ∧ w'.cell? ⟨gw, 1, none⟩ = some (.slice B1 x.votes.length d1)) ∧ (w'.cell? ⟨gx, 0, none⟩ = some (.slice A2 y.logs.length c2) ∧ w'.cell? ⟨gx, 1, none⟩ = some (.slice B2 y.votes.length d2)) ∧ (w'.cell? ⟨gy, 0, none⟩ = some (.slice A3 y.logs.length c3) ∧ w'.cell? ⟨gy, 1, none⟩ = some (.slice B3 y.votes.length d3)) ∧ (w'.cell? ⟨gt, 0, none⟩ = some (.slice A4 x.logs.length c4) ∧ w'.cell? ⟨gt, 1, none⟩ = some (.slice B4 x.votes.length d4)) ∧ (w'.cell? ⟨gv, 0, none⟩ = some (.int .i64 p1) ∧ w'.cell? ⟨gv, 1, none⟩ = some (.int .i64 b1) ∧ w'.cell? ⟨gv, 2, none⟩ = some (.string v1)) ∧ (w'.cell? ⟨gq, 0, none⟩ = some (.int .i64 p1) ∧ w'.cell? ⟨gq, 1, none⟩ = some (.int .i64 b1) ∧ w'.cell? ⟨gq, 2, none⟩ = some (.string v1)))) (by kernel_rfl) (HSS.out _ bb1) (fun hHeld => ?_)
  rw [← hud] at bb1 hHeld ⊢
  clear hud
  refine qT 0 ?_; try simp only [Act.put, qq]
  refine qT 1 ?_; try simp only [Act.put, qq]
  refine wpAnyH_ready (rs := [2]) (by kernel_rfl) (by simp) ?_
  refine AllReadyH.cons rfl (fun K hK => ?_) AllReadyH.nil
  go_simp
  refine (CS1.out _ bb1).mono ?_
  rintro e1 wb1 ⟨rfl, hb1⟩
  have bb2 : Below wA.heap.size wA wb1 := bb1.trans (hb1.mono bb1.size)
  clear hb1
  refine hK.out _ _ (HSS.out _ bb2) (fun hHeld => ?_)
  clear hK
  try simp only [Act.put, qq]
  refine qT 3 ?_; try simp only [Act.put, qq]
  refine qT 4 ?_; try simp only [Act.put, qq]
  refine qT 5 ?_; try simp only [Act.put, qq]
  refine qT 6 ?_; try simp only [Act.put, qq]
  refine qT 7 ?_; try simp only [Act.put, qq]
  refine qT 8 ?_; try simp only [Act.put, qq]
  refine qT 9 ?_; try simp only [Act.put, qq]
  refine qT 10 ?_; try simp only [Act.put, qq]
  refine qT 11 ?_; try simp only [Act.put, qq]
  refine qT 12 ?_; try simp only [Act.put, qq]
  refine qT 13 ?_; try simp only [Act.put, qq]
  refine qT 14 ?_; try simp only [Act.put, qq]
  refine qT 15 ?_; try simp only [Act.put, qq]
  refine qT 16 ?_; try simp only [Act.put, qq]
  refine qT 17 ?_; try simp only [Act.put, qq]
  refine qT 18 ?_; try simp only [Act.put, qq]
  refine qT 19 ?_; try simp only [Act.put, qq]
  refine qT 20 ?_; try simp only [Act.put, qq]
  refine qT 21 ?_; try simp only [Act.put, qq]
  refine wpAnyH_ready (rs := [22]) (by kernel_rfl) (by simp) ?_
  refine AllReadyH.cons rfl (fun K hK => ?_) AllReadyH.nil
  go_simp
  refine (CS2.out _ bb2).mono ?_
  rintro e2 wb2 ⟨rfl, hb2⟩
  have bb3 : Below wA.heap.size wA wb2 := bb2.trans (hb2.mono bb2.size)
  clear hb2
  refine hK.out _ _ (HSS.out _ bb3) (fun hHeld => ?_)
  clear hK
  try simp only [Act.put, qq]
  refine qT 23 ?_; try simp only [Act.put, qq]
  refine qT 24 ?_; try simp only [Act.put, qq]
  refine qT 25 ?_; try simp only [Act.put, qq]
  refine qT 26 ?_; try simp only [Act.put, qq]
  refine qT 29 ?_; try simp only [Act.put, qq]
  refine wpAnyH_ready (rs := [27]) (by kernel_rfl) (by simp) ?_
  refine AllReadyH.cons rfl (fun K hK => ?_) AllReadyH.nil
  go_simp
  refine (CCK.out _ bb3).mono ?_
  rintro e3 wb3 ⟨rfl, hb3⟩
  have bb4 : Below wA.heap.size wA wb3 := bb3.trans (hb3.mono bb3.size)
  clear hb3
  refine hK.out _ _ (HSS.out _ bb4) (fun hHeld => ?_)
  clear hK
  try simp only [Act.put, qq]
  refine qT 28 ?_; try simp only [Act.put, qq]
  refine wpAnyH_ready (rs := [30]) (by kernel_rfl) (by simp) ?_
  refine AllReadyH.cons rfl (fun K hK => ?_) AllReadyH.nil
  go_simp
  refine (CMY.out _ bb4).mono ?_
  rintro e4 wb4 ⟨rfl, hb4⟩
  have bb5 : Below wA.heap.size wA wb4 := bb4.trans (hb4.mono bb4.size)
  clear hb4
  refine hK.out _ _ (HSS.out _ bb5) (fun hHeld => ?_)
  clear hK
  try simp only [Act.put, qq]
  refine qT 31 ?_; try simp only [Act.put, qq]
  refine qT 32 ?_; try simp only [Act.put, qq]
  refine qT 33 ?_; try simp only [Act.put, qq]
  refine qT 34 ?_; try simp only [Act.put, qq]
  refine qT 35 ?_; try simp only [Act.put, qq]
  refine qT 37 ?_; try simp only [Act.put, qq]
  refine qT 38 ?_; try simp only [Act.put, qq]
  refine wpAnyH_ready (rs := [36]) (by kernel_rfl) (by simp) ?_
  refine AllReadyH.cons rfl (fun K hK => ?_) AllReadyH.nil
  go_simp
  refine (CSM.out _ bb5).mono ?_
  rintro e5 wb5 ⟨rfl, hb5⟩
  have bb6 : Below wA.heap.size wA wb5 := bb5.trans (hb5.mono bb5.size)
  clear hb5
  refine hK.out _ _ (HSS.out _ bb6) (fun hHeld => ?_)
  clear hK
  try simp only [Act.put, qq]
  refine wpAnyH_ready (rs := [39]) (by kernel_rfl) (by simp) ?_
  refine AllReadyH.cons rfl (fun K hK => ?_) AllReadyH.nil
  go_simp
  refine (CS3.out _ bb6).mono ?_
  rintro e6 wb6 ⟨rfl, hb6⟩
  have bb7 : Below wA.heap.size wA wb6 := bb6.trans (hb6.mono bb6.size)
  clear hb6
  refine hK.out _ _ (HSS.out _ bb7) (fun hHeld => ?_)
  clear hK
  try simp only [Act.put, qq]
  refine qT 40 ?_; try simp only [Act.put, qq]
  refine qT 41 ?_; try simp only [Act.put, qq]
  refine wpAnyH_done (by kernel_rfl) ?_ _
  clear hHeld HSS
  clear CS1 CS2 CCK CMY CSM CS3
  replace HB := Lib.hid (bmore HB.out bb7 (Nat.le_refl _))
  replace BL5 := Lib.hid (bmore BL5.out bb7 (Nat.le_refl _))
  replace HX2 := Lib.hid (Nat.lt_of_lt_of_le HX2.out bb7.size)
  replace HT2 := Lib.hid (Nat.lt_of_lt_of_le HT2.out bb7.size)
  replace VS := Lib.hid (VS.out.below bb7)
  replace VO := Lib.hid (VO.out.below bb7)
  replace BR := Lib.hid (BR.out.below bb7)
  replace VW := Lib.hid (VW.out.below bb7)
  replace VX := Lib.hid (VX.out.below bb7)
  replace RX := Lib.hid (RX.out.below bb7)
  replace VY := Lib.hid (VY.out.below bb7)
  replace PV := Lib.hid (PV.out.below bb7)
  replace PW := Lib.hid (PW.out.below bb7)
  replace VT := Lib.hid (VT.out.below bb7)
  replace RT := Lib.hid (RT.out.below bb7)
  clear bb1 bb2 bb3 bb4 bb5 bb6 bb7 VY PV PW BR VO
  obtain ⟨⟨m1, m2⟩, n1, n2⟩ := HMX.out
  unfold maxLen at m2 n2
  have CTX := Lib.hid (sturn_in w5.heap.size gx A2 B2 y.logs.length y.votes.length c2 d2 wb6 RX.out (Nat.le_of_lt HX2.out) (by omega) (by omega))
  clear m1 m2 n1 n2
  obtain ⟨x0, x1, _, _⟩ := VX.out.bx.two
  go_wp2_with fail
  clear x0 x1
  refine (CTX.out).mono ?_
  rintro e wB ⟨rfl, hwi⟩
  have hx5 := HX1.out
  have hgw := VW5.out.bx.lt
  have hg0 := VS5.out.bx.lt
  have hx3 := HX3.out
  have ht1 := HT1.out
  have ht2 := HT2.out
  replace BL5 := Lib.hid (BL5.out.trans (hwi.below (Nat.le_refl _) BL5.out.size))
  have hgl := HGL.out
  replace HB := Lib.hid (HB.out.trans (hwi.below (by have := HG.out; have := hg0; omega) HB.out.size))
  have BT := Lib.hid (VT.out.bx.within hwi (.inr (by omega)))
  have RT2 := Lib.hid (RT.out.within hwi (by omega))
  have HSB := Lib.hid (show gt < wB.heap.size by have := hwi.size; omega)
  obtain ⟨⟨m1, m2⟩, n1, n2⟩ := HMT.out
  unfold maxLen at m2 n2
  have CTT := Lib.hid (sturn_in w11.heap.size gt A4 B4 x.logs.length x.votes.length c4 d4 wB RT2.out (Nat.le_of_lt HSB.out) (by omega) (by omega))
  clear m1 m2 n1 n2 hwi
  obtain ⟨x0, x1, _, _⟩ := BT.out.two
  go_wp2_with fail
  clear x0 x1
  refine (CTT.out).mono ?_
  rintro e wC ⟨rfl, hwi⟩
  replace BL5 := Lib.hid (BL5.out.trans (hwi.below (by omega) BL5.out.size))
  replace HB := Lib.hid (HB.out.trans (hwi.below (by have := HG.out; omega) HB.out.size))
  clear hwi
  have VSC := Lib.hid (VS5.out.below BL5.out)
  have VWC := Lib.hid (VW5.out.below BL5.out)
  obtain ⟨x0, x1, _, _⟩ := VSC.out.bx.two
  obtain ⟨y0, y1, _, _⟩ := VWC.out.bx.two
  go_wp2_with fail
  refine (rsame_self VWC.out.st VSC.out.st).mono ?_
  rintro e wD ⟨rfl, hb⟩
  replace HB := Lib.hid (bmore HB.out hb (Nat.le_refl _))
  clear hb
  go_wp2_with fail
  go_ret
  exact ⟨rfl, by have := HB.out; rwa [HG.out] at this⟩
end Go.Proofs.Ytohiemdodffhoaa.SP
