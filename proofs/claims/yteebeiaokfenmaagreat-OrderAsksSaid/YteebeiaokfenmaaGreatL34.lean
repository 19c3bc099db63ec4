/- Contracts of functions, L34: each as its theorem says. -/
import Derived.Test.YteebeiaokfenmaaGreatL33
set_option linter.unusedVariables false
set_option linter.unusedSimpArgs false
set_option maxRecDepth 100000
set_option maxHeartbeats 16000000
namespace Go.Proofs.YteebeiaokfenmaaGreat
namespace KP
open Go.RowKit CP TP
open CM (Mg Cm)
open TM (Sp)
open KM (Wt Sk)
def wrongF (s : Sk) (g : Int) (c : Cm) : Int := if ¬ KM.may s then 8 else if ¬ (0 ≤ g ∧ g < 4) then 2 else if CM.may c then 0 else 120
theorem pwrong15_any (vs : Value) (s : Sk) (g : Int) (vc : Value) (c : Cm) (w : World) (hs : SkIs w vs s) (hf : SkFit s) (hc : CmIs w vc c) (hcf : CmFit c) : Calls Tryz.prog 84 #[vs, .int .i64 g, vc] w (IsN (wrongF s g c) w) := by
 have K1 := h! (fun W (hb : Below w.heap.size w W) => pcheck15_any vs s W (hs.below hb) hf)
 have K2 := h! (fun W (hb : Below w.heap.size w W) => pcheck_any c vc W (hc.below hb) hcf)
 obtain ⟨r, hr⟩ : ∃ r, r = wrongF s g c := ⟨_, rfl⟩
 have HR := h! hr
 rw [← hr]
 obtain ⟨e1, he1⟩ : ∃ e1 : Int, e1 = if KM.may s then 0 else 8 := ⟨_, rfl⟩
 obtain ⟨e2, he2⟩ : ∃ e2 : Int, e2 = if CM.may c then 0 else 120 := ⟨_, rfl⟩
 rw [← he1] at K1
 rw [← he2] at K2
 have H8 := h! (fun (k : ¬ KM.may s) => show e1 = 8 ∧ r = 8 from ⟨by rw [he1, if_neg k], by rw [hr]; unfold wrongF; rw [if_pos k]⟩)
 have H2 := h! (fun (k : KM.may s) (k2 : ¬ (0 ≤ g ∧ g < 4)) => show r = 2 from by rw [hr]; unfold wrongF; rw [if_neg (fun q => q k), if_pos k2])
 have H0 := h! (fun (k : KM.may s) => show e1 = 0 from by rw [he1, if_pos k])
 have HL := h! (fun (k : KM.may s) (k2 : 0 ≤ g ∧ g < 4) => show r = e2 from by rw [hr, he2]; unfold wrongF; rw [if_neg (fun q => q k), if_neg (fun q => q k2)])
 obtain ⟨M, hM⟩ : ∃ M, M = KM.may s := ⟨_, rfl⟩
 rw [← hM] at H8 H2 H0 HL
 obtain ⟨A, cw, B, cd, rfl, r1, d1⟩ := hs
 obtain ⟨P0, q0, Q0, u0, rfl, r2, r3⟩ := hc
 clear hr he1 he2 hM hf hcf r1 d1 r2 r3
 obtain ⟨sc, ws, ds⟩ := s
 obtain ⟨n, hna⟩ : ∃ n, n = ws.length := ⟨_, rfl⟩
 obtain ⟨m, hmb⟩ : ∃ m, m = ds.length := ⟨_, rfl⟩
 unfold vsk at K1 ⊢
 simp only at K1 ⊢
 rw [← hna, ← hmb] at K1 ⊢
 clear hna hmb
 obtain ⟨ck, ⟨ai, ag, at_, ak, ab⟩, bid, btm, bms, btp, bwh, bn⟩ := c
 unfold ccells at K2 ⊢
 simp only at K2 ⊢
 have HB := h! (show Below w.heap.size w ((w.alloc (.cells #[.int .i64 sc, .slice A n cw, .slice B m cd] 39)).alloc (.cells #[.int .u8 ck, .int .i64 ai, .slice P0 ag.length q0, .int .i64 at_, .string ak, .string ab, .int .i64 bid, .int .i64 btm, .slice Q0 bms.length u0, .int .i64 btp, .int .i64 bwh, .int .i64 bn] 91)) from ((Below.refl _ _).alloc n! _).alloc (by simp) _)
 have X := h! ((Box.new w 39 #[.int .i64 sc, .slice A n cw, .slice B m cd]).alloc (.cells #[.int .u8 ck, .int .i64 ai, .slice P0 ag.length q0, .int .i64 at_, .string ak, .string ab, .int .i64 bid, .int .i64 btm, .slice Q0 bms.length u0, .int .i64 btp, .int .i64 bwh, .int .i64 bn] 91))
 have Y := h! (Box.new_at (w := (w.alloc (.cells #[.int .i64 sc, .slice A n cw, .slice B m cd] 39))) (t := 91) (cs := #[.int .u8 ck, .int .i64 ai, .slice P0 ag.length q0, .int .i64 at_, .string ak, .string ab, .int .i64 bid, .int .i64 btm, .slice Q0 bms.length u0, .int .i64 btp, .int .i64 bwh, .int .i64 bn]) (w.heap.size + 1) (by simp))
 go_enter Tryz.func84, Tryz.ntmps84
 go_upto_region 1 with (fail)
 generalize (w.alloc (.cells #[.int .i64 sc, .slice A n cw, .slice B m cd] 39)).alloc (.cells #[.int .u8 ck, .int .i64 ai, .slice P0 ag.length q0, .int .i64 at_, .string ak, .string ab, .int .i64 bid, .int .i64 btm, .slice Q0 bms.length u0, .int .i64 btp, .int .i64 bwh, .int .i64 bn] 91) = w1 at HB X Y ⊢
 generalize w.heap.size + 1 = g5 at Y ⊢
 obtain ⟨g3, hg3⟩ : ∃ g3, w.heap.size = g3 := ⟨_, rfl⟩
 rw [hg3] at X
 simp only [hg3]
 clear hg3
 obtain ⟨x0, x1, x2⟩ := box_sk X.out
 go_wp2_with fail
 refine (K1.out _ HB.out).mono ?_
 rintro e w2 ⟨rfl, hb⟩
 have HB2 := h! (bmore HB.out hb n!)
 have Y2 := h! (Y.out.below hb Y.out.lt)
 clear hb x0 x1 x2 K1 X Y
 rcases Classical.em M with hM | hM
 rotate_left
 ·obtain ⟨h1, h2⟩ := H8.out hM
  subst h1 h2
  clear hM
  go_wp2_with fail
  go_ret
  exact ⟨rfl, HB2.out⟩
 have h1 := H0.out hM
 subst h1
 by_cases k2 : 0 ≤ g ∧ g < 4
 rotate_left
 ·have h2 := H2.out hM k2
  subst h2
  clear hM
  by_cases k3 : g < 0
  ·go_wp2_with fail
   go_ret
   exact ⟨rfl, HB2.out⟩
  ·have k4 : 4 ≤ g := by omega
   go_wp2_with fail
   go_ret
   exact ⟨rfl, HB2.out⟩
 have h2 := HL.out hM k2
 subst h2
 obtain ⟨k3, k4⟩ := k2
 have k5 : ¬ g < 0 := by omega
 have k6 : ¬ 4 ≤ g := by omega
 clear hM
 have y0 := Y2.out.cell 0
 have y1 := Y2.out.cell 1
 have y2 := Y2.out.cell 2
 have y3 := Y2.out.cell 3
 have y4 := Y2.out.cell 4
 have y5 := Y2.out.cell 5
 have y6 := Y2.out.cell 6
 have y7 := Y2.out.cell 7
 have y8 := Y2.out.cell 8
 have y9 := Y2.out.cell 9
 have y10 := Y2.out.cell 10
 have y11 := Y2.out.cell 11
 simp at y0 y1 y2 y3 y4 y5 y6 y7 y8 y9 y10 y11
 go_wp2_with fail
 refine (K2.out _ HB2.out).mono ?_
 rintro e w3 ⟨rfl, hb⟩
 have HB3 := h! (bmore HB2.out hb n!)
 clear y0 y1 y2 y3 y4 y5 y6 y7 y8 y9 y10 y11 hb K2
 go_wp2_with fail
 go_ret
 exact ⟨rfl, HB3.out⟩
theorem apply_wrong {s : Sk} {g : Int} {c : Cm} (h : wrongF s g c ≠ 0) : KM.applyF s g c = (KM.zero, [], wrongF s g c) := by
 unfold wrongF at h ⊢
 unfold KM.applyF
 by_cases h1 : ¬ KM.may s
 ·rw [if_pos h1, if_pos h1]
 ·rw [if_neg h1, if_neg h1]
  by_cases h2 : ¬ (0 ≤ g ∧ g < 4)
  ·rw [if_pos h2, if_pos h2]
  ·rw [if_neg h2, if_neg h2]
   by_cases h3 : CM.may c
   ·rw [if_neg h1, if_neg h2, if_pos h3] at h; exact absurd rfl h
   ·rw [if_pos h3, if_neg h3]
theorem wrong_no {s : Sk} {g : Int} {c : Cm} (h : wrongF s g c = 0) : KM.may s ∧ (0 ≤ g ∧ g < 4) ∧ CM.may c := by
 unfold wrongF at h
 by_cases h1 : ¬ KM.may s
 ·rw [if_pos h1] at h; exact absurd h (by decide)
 ·rw [if_neg h1] at h
  by_cases h2 : ¬ (0 ≤ g ∧ g < 4)
  ·rw [if_pos h2] at h; exact absurd h (by decide)
  ·rw [if_neg h2] at h
   by_cases h3 : CM.may c
   ·exact ⟨Classical.not_not.1 h1, Classical.not_not.1 h2, h3⟩
   ·rw [if_neg h3] at h; exact absurd h (by decide)
theorem apply_right {s : Sk} {g : Int} {c : Cm} (h1 : KM.may s) (h2 : 0 ≤ g ∧ g < 4) (h3 : CM.may c) : KM.applyF s g c = if (KM.putF s g c).2.2 = true then ((KM.putF s g c).1, (KM.putF s g c).2.1, 0) else (KM.zero, [], 9) := by
 unfold KM.applyF
 rw [if_neg (fun q => q h1), if_neg (fun q => q h2), if_neg (fun q => q h3)]
theorem putF_full {s : Sk} {g : Int} {c : Cm} (h : KM.asg s g c ∧ KM.full s) : KM.putF s g c = (s, [], false) := by
 unfold KM.putF
 exact if_pos h
theorem putF_go {s : Sk} {g : Int} {c : Cm} (h : ¬ (KM.asg s g c ∧ KM.full s)) {F : Sk} (hF : F = KM.fnl (KM.pre s g c) c) {D : List Wt × List Sp × List Mg} (hD : D = KM.drain F.ws.length F.ws F.ds []) : KM.putF s g c = (⟨F.c, D.1, D.2.1⟩, D.2.2, decide (D.2.1.length ≤ 200)) := by
 subst hF hD
 unfold KM.putF
 exact if_neg h
theorem mid_of {s : Sk} {g : Int} {c : Cm} (h1 : KM.may s) (h3 : CM.may c) (hf : ¬ (KM.asg s g c ∧ KM.full s)) :
  ((KM.fnl (KM.pre s g c) c).ws.Pairwise fun a b => a.m.id < b.m.id) ∧ (KM.fnl (KM.pre s g c) c).ws.length ≤ 200 ∧ (KM.fnl (KM.pre s g c) c).ds = s.ds := by
 refine ⟨(KM.half_fnl (KM.half_pre (KM.may_half h1) h3 hf) h3).2.2.2.2, ?_, KM.fnl_c.2.trans KM.pre_c.2⟩
 rw [KM.fnl_len]
 rcases KM.pre_len (s := s) (g := g) (c := c) with h | ⟨h, h4⟩
 ·rw [h]; exact h1.1.2.2.1
 ·have h5 : ¬ KM.full s := fun q => hf ⟨h, q⟩
  have h6 : s.ws.length ≠ 200 := fun q => h5 (.inr q)
  have := h1.1.2.2.1
  rw [h4]
  omega
theorem papply15 : PApply := by
 intro vs s g vc c w hs hf hc hcf hgs
 have K1 := h! (fun W (hb : Below w.heap.size w W) => pwrong15_any vs s g vc c W (hs.below hb) hf (hc.below hb) hcf)
 have KT := h! (fun (h1 : s.ws.length ≤ 4096) (h2 : s.ds.length ≤ 4096) W (hb : Below w.heap.size w W) => ptwin15_any vs s W (hs.below hb) h1 h2 (fun x hx => (hf.2.1 x hx).2))
 obtain ⟨r, hr⟩ : ∃ r, r = KM.applyF s g c := ⟨_, rfl⟩
 rw [← hr]
 have HR := h! hr
 obtain ⟨e1, he1⟩ : ∃ e1, e1 = wrongF s g c := ⟨_, rfl⟩
 rw [← he1] at K1
 have HE1 := h! he1
 clear hr he1
 obtain ⟨A, cw, B, cd, rfl, r1, d1⟩ := hs
 obtain ⟨P0, q0, Q0, u0, rfl, r2, r3⟩ := hc
 have HROW := h! (fun W (hb : Below w.heap.size w W) => r2.below hb)
 obtain ⟨n, hna⟩ : ∃ n, n = s.ws.length := ⟨_, rfl⟩
 obtain ⟨m, hmb⟩ : ∃ m, m = s.ds.length := ⟨_, rfl⟩
 obtain ⟨sc, hsc⟩ : ∃ sc, sc = s.c := ⟨_, rfl⟩
 unfold vsk at K1 KT ⊢
 rw [← hna, ← hmb, ← hsc] at K1 ⊢
 have HNA := h! hna
 have HMB := h! hmb
 have HSC := h! hsc
 have KT2 := h! (fun (h1 : n ≤ 4096) (h2 : m ≤ 4096) W (hb : Below w.heap.size w W) => show Calls Tryz.prog 85 #[.agg #[.int .i64 sc, .slice A n cw, .slice B m cd]] W (SkNew s W) from by rw [hna, hmb, hsc]; exact KT.out (by omega) (by omega) W hb)
 clear hf hcf r1 d1 r2 r3 hna hmb hsc KT
 obtain ⟨cc, hcc⟩ : ∃ cc, cc = c := ⟨_, rfl⟩
 have KD := h! (fun w0 b p W vW vD (hb : Below w.heap.size w w0) (hbb : w.heap.size ≤ b) (t : PtC w0 b p s.c vW vD s.ws s.ds W) (h1 : KM.may s) => pdo15_any w0 b p s.c vW vD s.ws s.ds g c P0 q0 Q0 u0 W t (fun W' hb' => HROW.out W' (hb.trans (hb'.mono hbb))) hgs (KM.may_iff.1 h1).2.1.2.2 (KM.may_iff.1 h1).2.1.1 (KM.may_iff.1 h1).1)
 clear hcc cc hgs
 obtain ⟨ck, ⟨ai, ag, at_, ak, ab⟩, bid, btm, bms, btp, bwh, bn⟩ := c
 unfold ccells at K1 KD ⊢
 simp only at K1 KD HROW ⊢
 have HB := h! (show Below w.heap.size w (((w.alloc (.cells #[.int .i64 sc, .slice A n cw, .slice B m cd] 39)).alloc (.cells #[.int .u8 ck, .int .i64 ai, .slice P0 ag.length q0, .int .i64 at_, .string ak, .string ab, .int .i64 bid, .int .i64 btm, .slice Q0 bms.length u0, .int .i64 btp, .int .i64 bwh, .int .i64 bn] 91)).alloc (.cells #[.int .i64 0, .slice none 0 0, .slice none 0 0] 39)) from (((Below.refl _ _).alloc n! _).alloc (by simp) _).alloc (by simp; omega) _)
 have X := h! (((Box.new w 39 #[.int .i64 sc, .slice A n cw, .slice B m cd]).alloc (.cells #[.int .u8 ck, .int .i64 ai, .slice P0 ag.length q0, .int .i64 at_, .string ak, .string ab, .int .i64 bid, .int .i64 btm, .slice Q0 bms.length u0, .int .i64 btp, .int .i64 bwh, .int .i64 bn] 91)).alloc (.cells #[.int .i64 0, .slice none 0 0, .slice none 0 0] 39))
 have Y := h! ((Box.new_at (w := (w.alloc (.cells #[.int .i64 sc, .slice A n cw, .slice B m cd] 39))) (t := 91) (cs := #[.int .u8 ck, .int .i64 ai, .slice P0 ag.length q0, .int .i64 at_, .string ak, .string ab, .int .i64 bid, .int .i64 btm, .slice Q0 bms.length u0, .int .i64 btp, .int .i64 bwh, .int .i64 bn]) (w.heap.size + 1) (by simp)).alloc (.cells #[.int .i64 0, .slice none 0 0, .slice none 0 0] 39))
 have Z := h! (Box.new_at (w := ((w.alloc (.cells #[.int .i64 sc, .slice A n cw, .slice B m cd] 39)).alloc (.cells #[.int .u8 ck, .int .i64 ai, .slice P0 ag.length q0, .int .i64 at_, .string ak, .string ab, .int .i64 bid, .int .i64 btm, .slice Q0 bms.length u0, .int .i64 btp, .int .i64 bwh, .int .i64 bn] 91))) (t := 39) (cs := #[.int .i64 0, .slice none 0 0, .slice none 0 0]) (w.heap.size + 1 + 1) (by simp))
 go_enter Tryz.func57, Tryz.ntmps57
 go_upto_region 1 with (fail)
 generalize ((w.alloc (.cells #[.int .i64 sc, .slice A n cw, .slice B m cd] 39)).alloc (.cells #[.int .u8 ck, .int .i64 ai, .slice P0 ag.length q0, .int .i64 at_, .string ak, .string ab, .int .i64 bid, .int .i64 btm, .slice Q0 bms.length u0, .int .i64 btp, .int .i64 bwh, .int .i64 bn] 91)).alloc (.cells #[.int .i64 0, .slice none 0 0, .slice none 0 0] 39) = w1 at HB X Y Z ⊢
 have HG6 := h! (show w.heap.size ≤ w.heap.size + 1 + 1 by omega)
 obtain ⟨g6, hg6⟩ : ∃ g6, w.heap.size + 1 + 1 = g6 := ⟨_, rfl⟩
 rw [hg6] at Z HG6
 simp only [hg6]
 clear hg6
 generalize w.heap.size + 1 = g5 at Y ⊢
 obtain ⟨g3, hg3⟩ : ∃ g3, w.heap.size = g3 := ⟨_, rfl⟩
 rw [hg3] at X
 simp only [hg3]
 have HG3 := h! hg3
 clear hg3
 obtain ⟨x0, x1, x2⟩ := box_sk X.out
 have y0 := Y.out.cell 0
 have y1 := Y.out.cell 1
 have y2 := Y.out.cell 2
 have y3 := Y.out.cell 3
 have y4 := Y.out.cell 4
 have y5 := Y.out.cell 5
 have y6 := Y.out.cell 6
 have y7 := Y.out.cell 7
 have y8 := Y.out.cell 8
 have y9 := Y.out.cell 9
 have y10 := Y.out.cell 10
 have y11 := Y.out.cell 11
 simp at y0 y1 y2 y3 y4 y5 y6 y7 y8 y9 y10 y11
 go_wp2_with fail
 refine (K1.out _ HB.out).mono ?_
 rintro e w2 ⟨rfl, hb⟩
 have HB2 := h! (bmore HB.out hb n!)
 have X2 := h! (X.out.below hb X.out.lt)
 have Y2 := h! (Y.out.below hb Y.out.lt)
 have Z2 := h! (Z.out.below hb Z.out.lt)
 clear hb x0 x1 x2 y0 y1 y2 y3 y4 y5 y6 y7 y8 y9 y10 y11 K1 X Y Z HB
 by_cases k0 : e1 = 0
 rotate_left
 ·have HF := h! (show r = (KM.zero, [], e1) by rw [HR.out, HE1.out]; exact apply_wrong (by rw [← HE1.out]; exact k0))
  have k1 : (e1 == 0) = false := by simpa using k0
  have ZB := Z2.out
  have ZW := HB2.out
  have ZP := h! (Box.put3 ZB (.int .i64 0) (.slice none 0 0) (.slice none 0 0))
  have ZL := h! (below_put3 ZW (by have := HG6.out; omega) (.int .i64 0) (.slice none 0 0) (.slice none 0 0) (g := g6))
  obtain ⟨z0, z1, z2, f0, f1, f2⟩ := ZB.three
  clear ZB ZW
  go_wp2_with fail
  obtain ⟨u0', u1, u2⟩ := box_sk ZP.out
  exact bodyPost_ret (v := .tuple #[.agg #[.int .i64 0, .slice none 0 0, .slice none 0 0], .slice none 0 0, .int .i64 e1]) (by simp [results, Tryz.results57, go_sem, u0', u1, u2]; try rfl) rfl ⟨_, _, by rw [HF.out], by rw [HF.out]; exact skO_zero _ _, by rw [HF.out]; exact kO_nil KM_ _ _ _, ZL.out⟩
 have HW3 := h! (wrong_no (by rw [← HE1.out]; exact k0))
 subst k0
 obtain ⟨x0, x1, x2⟩ := box_sk X2.out
 go_wp2_with fail
 refine (KT2.out (by have := HW3.out.1.1.2.2.1; have := HNA.out; omega) (by have := HW3.out.1.1.2.2.2; have := HMB.out; omega) _ HB2.out).mono ?_
 rintro e w4 ⟨v4, rfl, ⟨vW, vD, rfl, hkw, hkd⟩, hb⟩
 obtain ⟨A4, c4, rfl, _⟩ := hkw.g
 obtain ⟨B4, d4, rfl, _, _⟩ := own_form hkd
 unfold vsk
 clear x0 x1 x2 KT2
 have hal : Below w4.heap.size w4 (w4.alloc (.cells #[.int .i64 s.c, .slice A4 s.ws.length c4, .slice B4 s.ds.length d4] 147)) := b!
 have HP5 := h! (show PtC w2 w2.heap.size w4.heap.size s.c (.slice A4 s.ws.length c4) (.slice B4 s.ds.length d4) s.ws s.ds (w4.alloc (.cells #[.int .i64 s.c, .slice A4 s.ws.length c4, .slice B4 s.ds.length d4] 147)) from ⟨bmore hb hal n!, ⟨hb.size, Nat.le_trans hb.size hal.size⟩, Box.new _ _ _, hkw.below hal, own_below3 hkd hal⟩)
 clear hal hb hkw hkd
 go_upto_region 5 with (fail)
 generalize w4.alloc (.cells #[.int .i64 s.c, .slice A4 s.ws.length c4, .slice B4 s.ds.length d4] 147) = w5 at HP5 ⊢
 generalize w4.heap.size = p at HP5 ⊢
 have Y5 := h! (Y2.out.below HP5.out.bl Y2.out.lt)
 have HLO := h! HB2.out.size
 have y0 := Y5.out.cell 0
 have y1 := Y5.out.cell 1
 have y2 := Y5.out.cell 2
 have y3 := Y5.out.cell 3
 have y4 := Y5.out.cell 4
 have y5 := Y5.out.cell 5
 have y6 := Y5.out.cell 6
 have y7 := Y5.out.cell 7
 have y8 := Y5.out.cell 8
 have y9 := Y5.out.cell 9
 have y10 := Y5.out.cell 10
 have y11 := Y5.out.cell 11
 simp at y0 y1 y2 y3 y4 y5 y6 y7 y8 y9 y10 y11
 go_wp2_with fail
 refine (KD.out w2 w2.heap.size p w5 _ _ HB2.out HLO.out HP5.out HW3.out.1).mono ?_
 clear y0 y1 y2 y3 y4 y5 y6 y7 y8 y9 y10 y11
 rintro e w6 (⟨nf, rfl, vW6, t6⟩ | ⟨ha, hfu, rfl, vW6, t6⟩)
 rotate_left
 ·have HF := h! (show r = (KM.zero, [], 9) by rw [HR.out, apply_right HW3.out.1 HW3.out.2.1 HW3.out.2.2]; rw [putF_full ⟨ha, hfu⟩]; rfl)
  have ZB := Z2.out.below t6.bl Z2.out.lt
  have ZW := bmore HB2.out t6.bl n!
  clear ha hfu t6
  have ZP := h! (Box.put3 ZB (.int .i64 0) (.slice none 0 0) (.slice none 0 0))
  have ZL := h! (below_put3 ZW (by have := HG6.out; omega) (.int .i64 0) (.slice none 0 0) (.slice none 0 0) (g := g6))
  obtain ⟨z0, z1, z2, f0, f1, f2⟩ := ZB.three
  clear ZB ZW
  go_wp2_with fail
  obtain ⟨u0', u1, u2⟩ := box_sk ZP.out
  exact bodyPost_ret (v := .tuple #[.agg #[.int .i64 0, .slice none 0 0, .slice none 0 0], .slice none 0 0, .int .i64 9]) (by simp [results, Tryz.results57, go_sem, u0', u1, u2]; try rfl) rfl ⟨_, _, by rw [HF.out], by rw [HF.out]; exact skO_zero _ _, by rw [HF.out]; exact kO_nil KM_ _ _ _, ZL.out⟩
 have HMD := h! (mid_of HW3.out.1 HW3.out.2.2 nf)
 have HRV := h! (apply_right HW3.out.1 HW3.out.2.1 HW3.out.2.2)
 obtain ⟨F, hF⟩ : ∃ F, F = KM.fnl (KM.pre s g ⟨ck, ⟨ai, ag, at_, ak, ab⟩, bid, btm, bms, btp, bwh, bn⟩) ⟨ck, ⟨ai, ag, at_, ak, ab⟩, bid, btm, bms, btp, bwh, bn⟩ := ⟨_, rfl⟩
 rw [← hF] at HMD
 have HPF := h! (fun D hD => putF_go nf hF (D := D) hD)
 clear nf
 have t6' : PtC w2 w2.heap.size p F.c vW6 (.slice B4 s.ds.length d4) F.ws F.ds w6 := by
  have h1 := HMD.out.2.2
  rw [h1, hF]
  exact t6
 clear hF t6
 have CV := h! (pdeliver15_any w2 w2.heap.size p F.c vW6 (.slice B4 s.ds.length d4) F.ws F.ds w6 t6' HMD.out.1 HMD.out.2.1 (by rw [HMD.out.2.2]; exact HW3.out.1.1.2.2.2))
 clear t6' HMD
 obtain ⟨D, hD⟩ : ∃ D, D = KM.drain F.ws.length F.ws F.ds [] := ⟨_, rfl⟩
 rw [← hD] at CV
 replace HPF := h! (HPF.out D hD)
 clear hD
 go_wp2_with fail
 refine (CV.out).mono ?_
 clear CV
 rintro e w7 (⟨hle, vm, rfl, hkm, vW7, vD7, t7⟩ | ⟨hgt, rfl, vW7, vD7, ws7, ds7, t7⟩)
 rotate_left
 ·have HF := h! (show r = (KM.zero, [], 9) by
   rw [HR.out, HRV.out, HPF.out]
   show (if decide (D.2.1.length ≤ 200) = true then _ else _) = _
   rw [if_neg (by simp; omega)])
  have ZB := Z2.out.below t7.bl Z2.out.lt
  have ZW := bmore HB2.out t7.bl n!
  clear hgt t7
  have ZP := h! (Box.put3 ZB (.int .i64 0) (.slice none 0 0) (.slice none 0 0))
  have ZL := h! (below_put3 ZW (by have := HG6.out; omega) (.int .i64 0) (.slice none 0 0) (.slice none 0 0) (g := g6))
  obtain ⟨z0, z1, z2, f0, f1, f2⟩ := ZB.three
  clear ZB ZW
  go_wp2_with fail
  obtain ⟨u0', u1, u2⟩ := box_sk ZP.out
  exact bodyPost_ret (v := .tuple #[.agg #[.int .i64 0, .slice none 0 0, .slice none 0 0], .slice none 0 0, .int .i64 9]) (by simp [results, Tryz.results57, go_sem, u0', u1, u2]; try rfl) rfl ⟨_, _, by rw [HF.out], by rw [HF.out]; exact skO_zero _ _, by rw [HF.out]; exact kO_nil KM_ _ _ _, ZL.out⟩
 have HF := h! (show r = (⟨F.c, D.1, D.2.1⟩, D.2.2, 0) by
  rw [HR.out, HRV.out, HPF.out]
  show (if decide (D.2.1.length ≤ 200) = true then _ else _) = _
  rw [if_pos (by simp; omega)])
 clear HRV HPF hle
 obtain ⟨A8, n8, c8, B8, d8, f1', f2', f3'⟩ := t7.forms
 subst f1' f2'
 clear f3' n8
 obtain ⟨E8, e8, rfl, _⟩ := hkm.g
 have HT7 := h! t7
 have HKM := h! hkm
 have ZB := h! (Z2.out.below t7.bl Z2.out.lt)
 have ZW := h! (bmore HB2.out t7.bl n!)
 clear t7 hkm
 have hpg : p ≠ g6 := fun e => by
  have h1 := HT7.out.ord.1
  have h2 := Z2.out.lt
  omega
 have hpg2 : g6 ≠ p := Ne.symm hpg
 obtain ⟨x0, x1, x2⟩ := box_sk HT7.out.bx
 obtain ⟨z0, z1, z2, f0, f1, f2⟩ := ZB.out.three
 have ZP := h! (Box.put3 ZB.out (.int .i64 F.c) (.slice A8 D.1.length c8) (.slice B8 D.2.1.length d8))
 have ZK := h! (kept_put3 ZB.out (.int .i64 F.c) (.slice A8 D.1.length c8) (.slice B8 D.2.1.length d8))
 have ZL := h! (below_put3 ZW.out (by have := HG6.out; omega) (.int .i64 F.c) (.slice A8 D.1.length c8) (.slice B8 D.2.1.length d8) (g := g6))
 go_wp2_with fail
 obtain ⟨u0', u1, u2⟩ := box_sk ZP.out
 exact bodyPost_ret (v := .tuple #[.agg #[.int .i64 F.c, .slice A8 D.1.length c8, .slice B8 D.2.1.length d8], .slice E8 D.2.2.length e8, .int .i64 0]) (by simp [results, Tryz.results57, go_sem, u0', u1, u2]; try rfl) rfl ⟨_, _, by rw [HF.out], by rw [HF.out]; exact ⟨_, _, rfl, KO.mono (KO.kept ZK.out (by decide) (by decide) HT7.out.ow) HLO.out, own_base (ZK.out.own HT7.out.od (by decide)) HLO.out⟩, by rw [HF.out]; exact KO.mono (KO.kept ZK.out (by decide) (by decide) HKM.out) HLO.out, ZL.out⟩
end KP
namespace LP
open Go.RowKit CP
open CM (Cm Mg)
theorem rd13 (s : ByteArray) (hs : s.size ≤ maxLen) (w : World) : Calls Tryz.prog 95 #[.string s] w (RdGe (LM.cm s) (LM.er s) w) := read12_ge s (LM.read_is s) hs w
theorem check13_any (A : Option Addr) (n c : Nat) (l : List ByteArray) (w : World) (h : TxIs w A n c l) :
  Calls Tryz.prog 74 #[.slice A n c] w (NumIs (LM.chk l) w) := by
 have hl := h.len
 have hm := h.2.2.1
 have hnc := h.2.1
 have hn : n ≤ 9223372036854775807 := by unfold maxLen at hm; omega
 by_cases h200 : 200 < n
 ·have he : LM.chk l = 4 := by unfold LM.chk; rw [if_pos (by omega)]
  rw [he]
  clear h hl hm he hnc
  go_enter Tryz.func74, Tryz.ntmps74
  go_wp2
  go_ret
  exact ⟨rfl, Below.refl _ _⟩
 have h200' : n ≤ 200 := by omega
 clear h200
 obtain ⟨r, hrr⟩ : ∃ r, r = LM.chk l := ⟨_, rfl⟩
 have hst : LM.chkF (l.drop 0) = r := by rw [hrr]; unfold LM.chk; rw [if_neg (by omega)]; rfl
 rw [← hrr]
 have HS := h! hst
 have HT := h! h
 have HL := h! hl
 clear hrr hst h hl hm hnc
 go_enter Tryz.func74, Tryz.ntmps74
 go_wp2
 go_loopw [3] (fun i wr => ∃ k : Nat, k ≤ n ∧ i = .int .i64 k ∧ Below w.heap.size w wr ∧ Hid (LM.chkF (l.drop k) = r)) (fun i _ => n - (intOf i).toNat)
 case atStart => exact ⟨0, by omega, rfl, Below.refl _ _, HS⟩
 case round =>
  clear HS
  obtain ⟨k, hk, rfl, hB, HR⟩ := hrel
  have HB := h! hB
  clear hB
  by_cases hlt : k < n
  ·have hkz : k < l.length := by have := HL.out; omega
   have hr := (HT.out.below HB.out).1
   obtain ⟨ad, u, rfl, _, hu, hcell⟩ := hr.at_ hlt
   rw [tcx_at l k hkz] at hu
   injection hu with hu
   subst hu
   have hd := HR.out
   rw [List.drop_eq_getElem_cons hkz] at hd
   have hsz := HT.out.2.2.2 _ (List.getElem_mem hkz)
   obtain ⟨z, hz⟩ : ∃ z, z = l[k] := ⟨_, rfl⟩
   rw [← hz] at hcell hd hsz
   clear hz HR hr
   unfold LM.chkF at hd
   have CR := h! (rd13 z hsz wr)
   have HE := h! (LM.er_cases z)
   obtain ⟨y, hy⟩ : ∃ y, y = LM.er z := ⟨_, rfl⟩
   rw [← hy] at CR HE hd
   have HD := h! hd
   clear hd hy hsz
   generalize LM.cm z = x at CR
   obtain ⟨k0, ⟨mi, mg, mt, mk, mb⟩, aid, atm, ams, atp, awh, an⟩ := x
   go_wp2_with fail
   refine (CR.out).mono ?_
   rintro e1 w2 ⟨v, rfl, ⟨A1, c1, P, q, rfl, _, _⟩, hb⟩
   unfold ccells
   replace HB := h! (bmore HB.out hb n!)
   replace HB := h! (HB.out.alloc HB.out.size (.cells #[.int .u8 k0, .int .i64 mi, .slice A1 mg.length c1, .int .i64 mt, .string mk, .string mb, .int .i64 aid, .int .i64 atm, .slice P ams.length q, .int .i64 atp, .int .i64 awh, .int .i64 an] 91))
   clear hb CR hcell
   go_upto_region 7 with (fail)
   generalize w2.alloc (.cells #[.int .u8 k0, .int .i64 mi, .slice A1 mg.length c1, .int .i64 mt, .string mk, .string mb, .int .i64 aid, .int .i64 atm, .slice P ams.length q, .int .i64 atp, .int .i64 awh, .int .i64 an] 91) = w3 at HB ⊢
   rcases HE.out with rfl | rfl | rfl
   ·have HD2 := h! (show LM.chkF (l.drop (k + 1)) = r by have := HD.out; rwa [if_pos rfl] at this)
    clear HD HE
    go_wp2_with fail
    go_roundw
    case rel => exact ⟨k + 1, by omega, by go_num, HB.out, HD2⟩
    case measure => simp [intOf]; omega
   ·have HD2 := h! (show (8 : Int) = r by have := HD.out; rwa [if_neg (by decide)] at this)
    clear HD HE
    go_wp2_with fail
    go_ret
    exact ⟨ret_int HD2.out, HB.out⟩
   ·have HD2 := h! (show (8 : Int) = r by have := HD.out; rwa [if_neg (by decide)] at this)
    clear HD HE
    go_wp2_with fail
    go_ret
    exact ⟨ret_int HD2.out, HB.out⟩
  ·have hd : 0 = r := by have := HR.out; rw [List.drop_of_length_le (by have := HL.out; omega)] at this; simpa [LM.chkF] using this
   have HD := h! hd
   clear hd
   go_wp2
   go_ret
   exact ⟨ret_int HD.out, HB.out⟩
theorem info_cm : (Tryz.prog.info? 91).map (fun i => (i.zero, i.size, i.bytes)) = some (some (.agg #[.int .u8 0, .int .i64 0, .slice none 0 0, .int .i64 0, .string ⟨#[]⟩, .string ⟨#[]⟩, .int .i64 0, .int .i64 0, .slice none 0 0, .int .i64 0, .int .i64 0, .int .i64 0]), 12, 144) := by kernel_rfl
theorem own_lt {w : World} {b n : Nat} {v : Value} {xs : List Value} {g : Nat} (h : w.ownsRow b 91 12 v n xs) (hg : v.ownBlock = some g) : g < w.heap.size := by
 obtain ⟨_, cur, hc⟩ := own_block h hg
 exact hc.lt
theorem cmds_take (l : List ByteArray) (k : Nat) (h : k < l.length) : LM.cmds (l.take (k + 1)) = LM.cmds (l.take k) ++ [LM.cm l[k]] := by
 unfold LM.cmds
 rw [List.take_succ_eq_append_getElem h, List.map_append]
 rfl
theorem all13_any (A : Option Addr) (n c : Nat) (l : List ByteArray) (w : World) (h : TxIs w A n c l) (h5 : n ≤ 100000) :
  Calls Tryz.prog 96 #[.slice A n c] w fun e w' => ∃ v, e = .returned v ∧ CmsO w' w.heap.size v (LM.cmds l) ∧ Below w.heap.size w w' := by
 obtain ⟨i0, hi, hz0, hz1, hz2⟩ := info_parts info_cm
 have HT := h! h
 have HL := h! h.len
 clear h
 go_enter Tryz.func96, Tryz.ntmps96
 go_wp2
 go_loopw [3, 4] (fun u i wr => ∃ k : Nat, k ≤ n ∧ i = .int .i64 k ∧ Below w.heap.size w wr ∧ CmsO wr w.heap.size u (LM.cmds (l.take k))) (fun _ i _ => n - (intOf i).toNat)
 case atStart => exact ⟨0, by omega, rfl, Below.refl _ _, cmsO_nil _ _⟩
 case round =>
  obtain ⟨k, hk, rfl, hB, hC⟩ := hrel
  have HB := h! hB
  have HLE := h! hB.size
  clear hB
  by_cases hlt : k < n
  ·have hkz : k < l.length := by have := HL.out; omega
   have hr := (HT.out.below HB.out).1
   obtain ⟨ad, uu, rfl, _, hu, hcell⟩ := hr.at_ hlt
   rw [tcx_at l k hkz] at hu
   injection hu with hu
   subst hu
   have hsz := HT.out.2.2.2 _ (List.getElem_mem hkz)
   have HN := h! (cmds_take l k hkz)
   obtain ⟨z, hz⟩ : ∃ z, z = l[k] := ⟨_, rfl⟩
   rw [← hz] at hcell hsz HN
   clear hz hr
   have CR := h! (rd13 z hsz wr)
   have HC := h! hC
   clear hC hsz
   generalize LM.er z = y at CR
   generalize LM.cm z = x at CR HN
   obtain ⟨k0, ⟨mi, mg, mt, mk, mb⟩, aid, atm, ams, atp, awh, an⟩ := x
   go_wp2_with fail
   refine (CR.out).mono ?_
   rintro e1 w2 ⟨v, rfl, ⟨A1, c1, P, q, rfl, r1, r3⟩, hb⟩
   simp only at r1 r3
   unfold ccells
   have hb2 : Below w2.heap.size w2 ((w2.alloc (.cells #[.int .u8 k0, .int .i64 mi, .slice A1 mg.length c1, .int .i64 mt, .string mk, .string mb, .int .i64 aid, .int .i64 atm, .slice P ams.length q, .int .i64 atp, .int .i64 awh, .int .i64 an] 91)).alloc (.cells #[.int .u8 k0, .int .i64 mi, .slice A1 mg.length c1, .int .i64 mt, .string mk, .string mb, .int .i64 aid, .int .i64 atm, .slice P ams.length q, .int .i64 atp, .int .i64 awh, .int .i64 an] 91)) := ((Below.refl _ _).alloc n! _).alloc (by simp) _
   have hb3 := bmore hb hb2 n!
   replace HB := h! (bmore HB.out hb3 n!)
   have HX := h! (show Box ((w2.alloc (.cells #[.int .u8 k0, .int .i64 mi, .slice A1 mg.length c1, .int .i64 mt, .string mk, .string mb, .int .i64 aid, .int .i64 atm, .slice P ams.length q, .int .i64 atp, .int .i64 awh, .int .i64 an] 91)).alloc (.cells #[.int .u8 k0, .int .i64 mi, .slice A1 mg.length c1, .int .i64 mt, .string mk, .string mb, .int .i64 aid, .int .i64 atm, .slice P ams.length q, .int .i64 atp, .int .i64 awh, .int .i64 an] 91)) (w2.heap.size + 1) 91 #[.int .u8 k0, .int .i64 mi, .slice A1 mg.length c1, .int .i64 mt, .string mk, .string mb, .int .i64 aid, .int .i64 atm, .slice P ams.length q, .int .i64 atp, .int .i64 awh, .int .i64 an] from Box.new_at _ (by simp))
   obtain ⟨lst, g1, g2, g3⟩ := HC.out
   have hlt2 : ∀ g, u3.ownBlock = some g → g < wr.heap.size := fun g hg => own_lt g2 hg
   have N1 : Hid (∀ ad, A1 = some ad → 0 < mg.length → u3.ownBlock ≠ some ad.block) := h! (fun ad e hn q => by have := hlt2 _ q; have := r1.2 ad e hn; omega)
   have N2 : Hid (∀ ad, P = some ad → 0 < ams.length → u3.ownBlock ≠ some ad.block) := h! (fun ad e hn q => by have := hlt2 _ q; have := r3.2 ad e hn; omega)
   have HG1 := h! g1
   have HO := h! (own_below3 g2 hb3)
   have HRs := h! (g3.below hb3)
   have H1 := h! (r1.below hb2)
   have H2 := h! (r3.below hb2)
   have hll : lst.length ≤ 100000 := by have := congrArg List.length g1; simp [LM.cmds] at this; omega
   clear hb hb2 hb3 r1 r3 CR hcell g1 g2 g3 hlt2
   go_wp2_with (at_builtin; refine wpList_append_g _ rfl _ _ 73 rfl w.heap.size 91 i0 _ 12 144 Tryz.underlying73 hi hz0 hz1 hz2 rfl (by omega) _ _ _ rfl HO.out (some ⟨w2.heap.size + 1, 0, none⟩) 1 1 (ecell ⟨A1, c1, P, q, ⟨k0, ⟨mi, mg, mt, mk, mb⟩, aid, atm, ams, atp, awh, an⟩⟩) rfl (rdG_box HX.out rfl rfl) (ecell_one _) (by unfold maxLen; omega) (by omega) (by have := HB.out.size; exact this) ?_; intro v2 w5 hown2 hg2 hob2)
   have hnext := cmsO_next lst HG1.out HRs.out (H1.out.mono HLE.out) (H2.out.mono HLE.out) N1.out N2.out hg2 hown2 hob2
   have hB5 := below_row HB.out HO.out HB.out.size hg2
   clear hown2 hg2 hob2
   rw [← HN.out] at hnext
   go_roundw
   case rel => exact ⟨k + 1, by omega, by go_num, hB5, hnext⟩
   case measure => simp [intOf]; omega
  ·have hd : l.take k = l := List.take_of_length_le (by have := HL.out; omega)
   have HC := h! (hd ▸ hC)
   clear hC hd
   go_wp2
   go_ret
   exact ⟨_, rfl, HC.out, HB.out⟩
theorem coIs_bad {l : List ByteArray} {w w' : World} {r : Int} (hr : LM.chk l = r) (h0 : r ≠ 0) (hb : Below w.heap.size w w') : CoIs l w (.returned (.tuple #[.slice none 0 0, .int .i64 r])) w' :=
 ⟨hb, .inl ⟨by rw [hr]; exact h0, by rw [hr]⟩⟩
theorem coIs_ok {l : List ByteArray} {w w' : World} {v : Value} (hr : LM.chk l = 0) (hv : CmsO w' w.heap.size v (LM.cmds l)) (hb : Below w.heap.size w w') : CoIs l w (.returned (.tuple #[v, .int .i64 0])) w' :=
 ⟨hb, .inr ⟨hr, v, rfl, hv⟩⟩
theorem pcommands_any (A : Option Addr) (n c : Nat) (l : List ByteArray) (w : World) (h : TxIs w A n c l) :
  Calls Tryz.prog 55 #[.slice A n c] w (CoIs l w) := by
 have hl := h.len
 have hm := h.2.2.1
 have hnc := h.2.1
 have hn : n ≤ 9223372036854775807 := by unfold maxLen at hm; omega
 by_cases h200 : 200 < n
 ·have he : LM.chk l = 4 := by unfold LM.chk; rw [if_pos (by omega)]
  have HE := h! he
  clear h hl hm he hnc
  go_enter Tryz.func55, Tryz.ntmps55
  go_wp2
  go_ret2
  exact coIs_bad HE.out (by decide) (Below.refl _ _)
 have h200' : n ≤ 200 := by omega
 clear h200
 obtain ⟨i0, hi, hz0, hz1, hz2⟩ := info_parts info_cm
 obtain ⟨r, hrr⟩ : ∃ r, r = LM.chk l := ⟨_, rfl⟩
 have hst : LM.chkF (l.drop 0) = r := by rw [hrr]; unfold LM.chk; rw [if_neg (by omega)]; rfl
 have HS := h! hst
 have HR0 := h! hrr.symm
 have HT := h! h
 have HL := h! hl
 clear hrr hst h hl hm hnc
 go_enter Tryz.func55, Tryz.ntmps55
 go_wp2_with (at_make; refine wpList_make_own _ rfl _ _ 73 rfl w.heap.size 91 i0 _ 12 Tryz.underlying73 hi hz0 hz1 .i64 .i64 _ n rfl rfl rfl (by rw [hz2]; omega) (by unfold maxLen; omega) n! ?_; intro w1 hown1 hg1; have HB1 := h! (below_of_grown hg1 (by simp)); have HC1 := h! (show CmsO w1 w.heap.size (.slice (some ⟨w.heap.size, 0, none⟩) 0 n) (LM.cmds (l.take 0)) from ⟨[], rfl, hown1, fun e he => by cases he⟩); clear hown1 hg1)
 go_loopw [4, 17] (fun u i wr => ∃ k : Nat, k ≤ n ∧ i = .int .i64 k ∧ Below w.heap.size w wr ∧ CmsO wr w.heap.size u (LM.cmds (l.take k)) ∧ Hid (LM.chkF (l.drop k) = r)) (fun _ i _ => n - (intOf i).toNat)
 case atStart => exact ⟨0, by omega, rfl, HB1.out, HC1.out, HS⟩
 case round =>
  clear HS
  obtain ⟨k, hk, rfl, hB, hC, HR⟩ := hrel
  have HB := h! hB
  have HLE := h! hB.size
  clear hB
  by_cases hlt : k < n
  ·have hkz : k < l.length := by have := HL.out; omega
   have hr := (HT.out.below HB.out).1
   obtain ⟨ad, uu, rfl, _, hu, hcell⟩ := hr.at_ hlt
   rw [tcx_at l k hkz] at hu
   injection hu with hu
   subst hu
   have hsz := HT.out.2.2.2 _ (List.getElem_mem hkz)
   have HN := h! (cmds_take l k hkz)
   have hd := HR.out
   rw [List.drop_eq_getElem_cons hkz] at hd
   obtain ⟨z, hz⟩ : ∃ z, z = l[k] := ⟨_, rfl⟩
   rw [← hz] at hcell hsz HN hd
   clear hz hr HR
   unfold LM.chkF at hd
   have CR := h! (pread_ge z (LM.read_is z) hsz wr)
   have HE := h! (LM.er_cases z)
   have HC := h! hC
   clear hC hsz
   generalize LM.er z = y at CR HE hd
   generalize LM.cm z = x at CR HN
   have HD := h! hd
   clear hd
   obtain ⟨k0, ⟨mi, mg, mt, mk, mb⟩, aid, atm, ams, atp, awh, an⟩ := x
   go_wp2_with fail
   refine (CR.out).mono ?_
   rintro e1 w2 ⟨v, rfl, ⟨A1, c1, P, q, rfl, r1, r3⟩, hb⟩
   simp only at r1 r3
   unfold ccells
   rcases HE.out with rfl | hy
   ·have HD2 := h! (show LM.chkF (l.drop (k + 1)) = r by have := HD.out; rwa [if_pos rfl] at this)
    clear HD HE
    have hb2 : Below w2.heap.size w2 ((w2.alloc (.cells #[.int .u8 k0, .int .i64 mi, .slice A1 mg.length c1, .int .i64 mt, .string mk, .string mb, .int .i64 aid, .int .i64 atm, .slice P ams.length q, .int .i64 atp, .int .i64 awh, .int .i64 an] 91)).alloc (.cells #[.int .u8 k0, .int .i64 mi, .slice A1 mg.length c1, .int .i64 mt, .string mk, .string mb, .int .i64 aid, .int .i64 atm, .slice P ams.length q, .int .i64 atp, .int .i64 awh, .int .i64 an] 91)) := ((Below.refl _ _).alloc n! _).alloc (by simp) _
    have hb3 := bmore hb hb2 n!
    replace HB := h! (bmore HB.out hb3 n!)
    have HX := h! (show Box ((w2.alloc (.cells #[.int .u8 k0, .int .i64 mi, .slice A1 mg.length c1, .int .i64 mt, .string mk, .string mb, .int .i64 aid, .int .i64 atm, .slice P ams.length q, .int .i64 atp, .int .i64 awh, .int .i64 an] 91)).alloc (.cells #[.int .u8 k0, .int .i64 mi, .slice A1 mg.length c1, .int .i64 mt, .string mk, .string mb, .int .i64 aid, .int .i64 atm, .slice P ams.length q, .int .i64 atp, .int .i64 awh, .int .i64 an] 91)) (w2.heap.size + 1) 91 #[.int .u8 k0, .int .i64 mi, .slice A1 mg.length c1, .int .i64 mt, .string mk, .string mb, .int .i64 aid, .int .i64 atm, .slice P ams.length q, .int .i64 atp, .int .i64 awh, .int .i64 an] from Box.new_at _ (by simp))
    obtain ⟨lst, g1, g2, g3⟩ := HC.out
    have hlt2 : ∀ g, u4.ownBlock = some g → g < wr.heap.size := fun g hg => own_lt g2 hg
    have N1 : Hid (∀ ad, A1 = some ad → 0 < mg.length → u4.ownBlock ≠ some ad.block) := h! (fun ad e hn q => by have := hlt2 _ q; have := r1.2 ad e hn; omega)
    have N2 : Hid (∀ ad, P = some ad → 0 < ams.length → u4.ownBlock ≠ some ad.block) := h! (fun ad e hn q => by have := hlt2 _ q; have := r3.2 ad e hn; omega)
    have HG1 := h! g1
    have HO := h! (own_below3 g2 hb3)
    have HRs := h! (g3.below hb3)
    have H1 := h! (r1.below hb2)
    have H2 := h! (r3.below hb2)
    have hll : lst.length ≤ 100000 := by have := congrArg List.length g1; simp [LM.cmds] at this; omega
    clear hb hb2 hb3 r1 r3 CR hcell g1 g2 g3 hlt2
    go_wp2_with (at_builtin; refine wpList_append_g _ rfl _ _ 73 rfl w.heap.size 91 i0 _ 12 144 Tryz.underlying73 hi hz0 hz1 hz2 rfl (by omega) _ _ _ rfl HO.out (some ⟨w2.heap.size + 1, 0, none⟩) 1 1 (ecell ⟨A1, c1, P, q, ⟨k0, ⟨mi, mg, mt, mk, mb⟩, aid, atm, ams, atp, awh, an⟩⟩) rfl (rdG_box HX.out rfl rfl) (ecell_one _) (by unfold maxLen; omega) (by omega) (by have := HB.out.size; exact this) ?_; intro v2 w5 hown2 hg2 hob2)
    have hnext := cmsO_next lst HG1.out HRs.out (H1.out.mono HLE.out) (H2.out.mono HLE.out) N1.out N2.out hg2 hown2 hob2
    have hB5 := below_row HB.out HO.out HB.out.size hg2
    clear hown2 hg2 hob2
    rw [← HN.out] at hnext
    go_roundw
    case rel => exact ⟨k + 1, by omega, by go_num, hB5, hnext, HD2⟩
    case measure => simp [intOf]; omega
   ·have HD2 := h! (show (8 : Int) = r by have := HD.out; rwa [if_neg (by rcases hy with rfl | rfl <;> decide)] at this)
    replace HB := h! ((bmore HB.out hb n!).alloc (by have := HB.out.size; have := hb.size; omega) (.cells #[.int .u8 k0, .int .i64 mi, .slice A1 mg.length c1, .int .i64 mt, .string mk, .string mb, .int .i64 aid, .int .i64 atm, .slice P ams.length q, .int .i64 atp, .int .i64 awh, .int .i64 an] 91))
    clear HD HE hb CR hcell r1 r3 HC HN
    rcases hy with rfl | rfl
    all_goals
     go_wp2_with fail
     go_ret2
     exact coIs_bad (by rw [HR0.out]; exact HD2.out.symm) (by decide) HB.out
  ·have hd : l.take k = l := List.take_of_length_le (by have := HL.out; omega)
   have h0 : 0 = r := by have := HR.out; rw [List.drop_of_length_le (by have := HL.out; omega)] at this; simpa [LM.chkF] using this
   have HC := h! (hd ▸ hC)
   have H0 := h! h0
   clear hC hd h0
   go_wp2
   go_ret2
   exact coIs_ok (by rw [HR0.out]; exact H0.out.symm) HC.out HB.out
end LP
end Go.Proofs.YteebeiaokfenmaaGreat
