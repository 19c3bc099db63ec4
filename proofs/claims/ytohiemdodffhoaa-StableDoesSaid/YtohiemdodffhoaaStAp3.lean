/-
  What the document's own Apply of layer 11 answers (towncrierref11.Apply): a decision. Conditions: texts' lengths are ones that Go has.
-/
import Derived.Test.YtohiemdodffhoaaStApH
namespace Go.Proofs.Ytohiemdodffhoaa.SP
open Go.RowKit Go.Shelf
open SM (Sn Sb Vo)
set_option linter.unusedVariables false
set_option linter.unusedSimpArgs false
set_option maxRecDepth 100000

set_option maxHeartbeats 16000000 in
theorem rapp_3 (MC : MayC) (A : Option Addr) (c : Nat) (B : Option Addr) (d : Nat) (x : Sb) (g s b : Int) (t : ByteArray) (W : World) (hL : LogsIs W A x.logs.length c x.logs) (hV : VotesIs W B x.votes.length d x.votes) (F : Fit x) (ht : t.size ≤ maxLen) (hm : SM.may x) (hr : RM.may ⟨3, g, s, b, t⟩) :
    Calls Try.prog 21 #[.agg #[.slice A x.logs.length c, .slice B x.votes.length d], .agg #[.int .u8 3, .int .i64 g, .int .i64 s, .int .i64 b, .string t]] W (AppPost x ⟨3, g, s, b, t⟩ W) := by
  have S := Lib.hid (ap_new (W := W) (X := #[.slice A x.logs.length c, .slice B x.votes.length d]) (R := #[.int .u8 3, .int .i64 g, .int .i64 s, .int .i64 b, .string t]))
  have HL := Lib.hid (fun w (h : Below W.heap.size W w) => hL.below h)
  have HV := Lib.hid (fun w (h : Below W.heap.size W w) => hV.below h)
  have CM := Lib.hid (fun w (h : Below W.heap.size W w) => MC (.agg #[.slice A x.logs.length c, .slice B x.votes.length d]) x w ⟨A, c, B, d, rfl, hL.below h, hV.below h⟩ F)
  have DM := Lib.hid (fun w => RP.rmay_any 3 g s b t w ht)
  obtain ⟨m0, m1, m2⟩ := rows_rd2 hL
  unfold maxLen at m2
  clear m0 MC
  have hg := hr.1
  have hs := hr.2.1
  simp only at hg hs
  have HM := Lib.hid hm
  have HRR := Lib.hid hr
  have htl := ht
  obtain ⟨gi, rfl⟩ : ∃ gi : Nat, g = gi := ⟨g.toNat, by omega⟩
  obtain ⟨si, rfl⟩ : ∃ si : Nat, s = si := ⟨s.toNat, by omega⟩
  clear hL hV F ht hm hr
  go_enter Try.func21, Try.ntmps21
  go_upto_region 1 with (fail)
  generalize ((W.alloc (.cells #[.slice A x.logs.length c, .slice B x.votes.length d] 25)).alloc (.cells #[.int .u8 3, .int .i64 gi, .int .i64 si, .int .i64 b, .string t] 29)).alloc (.cells #[.slice none 0 0, .slice none 0 0] 25) = w1 at S ⊢
  generalize W.heap.size = g0 at S ⊢
  obtain ⟨x0, x1, _, _⟩ := S.out.bx.two
  go_wp2_with fail
  clear x0 x1
  refine (CM.out w1 S.out.bl).mono ?_
  rintro e w2 ⟨rfl, hb⟩
  replace S := Lib.hid (S.out.below hb); clear hb CM
  obtain ⟨x0, x1, _, _⟩ := S.out.bx.two
  obtain ⟨r0, r1, r2, r3, r4⟩ := five_box S.out.br
  obtain ⟨z0, z1, f0, f1⟩ := S.out.bz.two
  rw [decide_eq_true HM.out]
  go_wp2_with fail
  clear x0 x1 r0 r1 r2 r3 r4 z0 z1 f0 f1
  refine (DM.out _).mono ?_
  rintro e w3 ⟨y, hy, rfl, hb⟩
  obtain rfl : y = true := hy.2 HRR.out
  replace S := Lib.hid (S.out.below hb); clear hb hy DM
  obtain ⟨x0, x1, _, _⟩ := S.out.bx.two
  obtain ⟨r0, r1, r2, r3, r4⟩ := five_box S.out.br
  obtain ⟨z0, z1, f0, f1⟩ := S.out.bz.two
  by_cases c1 : x.logs.length ≤ gi
  · have HE := Lib.hid (app_6 HM.out HRR.out (by simp only; omega))
    go_wp2_with fail
    exact bodyPost_ret (v := .tuple #[.agg #[.slice none 0 0, .slice none 0 0], .int .i64 6]) (by simp [results, Try.results21, go_sem, z0, z1]; try rfl) rfl (ap_err S.out HE.out)
  obtain ⟨l, hl⟩ : ∃ l, x.logs[gi]? = some l := ⟨_, List.getElem?_eq_getElem (by omega)⟩
  have hll := llen_at hl
  have hl200 := (SM.may_logs HM.out).1 l (List.mem_of_getElem? hl)
  obtain ⟨ad, C, e, hA, _, q1, _, q3, q4⟩ := logs_get (HL.out _ S.out.bl) hl
  subst hA
  unfold maxLen at q4
  have HLL := Lib.hid hl
  clear hl
  by_cases c2 : si ≤ l.length
  · have HE := Lib.hid (app_8 HM.out HRR.out (by simp only; omega) (.inl (by simp only [hll]; omega)))
    go_wp2_with fail
    exact bodyPost_ret (v := .tuple #[.agg #[.slice none 0 0, .slice none 0 0], .int .i64 8]) (by simp [results, Try.results21, go_sem, z0, z1]; try rfl) rfl (ap_err S.out HE.out)
  by_cases c3 : si ≠ l.length + 1
  · have HE := Lib.hid (app_8 HM.out HRR.out (by simp only; omega) (.inr ⟨rfl, by simp only [hll]; omega⟩))
    have e3 : ((si : Int) != (l.length : Int) + 1) = true := by simp; omega
    clear c3
    go_wp2_with fail
    exact bodyPost_ret (v := .tuple #[.agg #[.slice none 0 0, .slice none 0 0], .int .i64 8]) (by simp [results, Try.results21, go_sem, z0, z1]; try rfl) rfl (ap_err S.out HE.out)
  have e3 : ((si : Int) != (l.length : Int) + 1) = false := by simp; omega
  have C4 := Lib.hid (show si = l.length + 1 by omega)
  clear c3
  have HA2 := Lib.hid (app_3 HM.out HRR.out (by omega) (by rw [hll]; omega) (by rw [hll, C4.out]; push_cast; rfl))
  clear hll
  go_wp2_with fail
  clear x0 x1 r0 r1 r2 r3 r4 z0 z1 f0 f1
  clear q1
  refine (rvote_any B x.votes.length d x.votes gi si w3 (HV.out _ S.out.bl)).mono ?_
  rintro e w4 ⟨rfl, hb⟩
  replace S := Lib.hid (S.out.below hb); clear hb
  have hfm := SM.find_may HM.out gi si
  have hvl := SM.votes_le HM.out
  have h44 := HM.out.1.2
  obtain ⟨o, ho⟩ : ∃ o, o = SM.find x.votes gi si := ⟨_, rfl⟩
  try simp only at HA2
  rw [← ho] at hfm ⊢
  clear ho
  have V := Lib.hid (Box.new w4 48 #[.int .i64 o.p, .int .i64 o.b, .string o.v])
  have hh1 := S.out.behind
  replace S := Lib.hid (S.out.below ((Below.refl _ _).alloc (Nat.le_refl _) (.cells #[.int .i64 o.p, .int .i64 o.b, .string o.v] 48)))
  go_upto_region 9 with (fail)
  generalize w4.alloc (.cells #[.int .i64 o.p, .int .i64 o.b, .string o.v] 48) = w5 at S V ⊢
  generalize w4.heap.size = h1 at V hh1 ⊢
  obtain ⟨x0, x1, _, _⟩ := S.out.bx.two
  obtain ⟨r0, r1, r2, r3, r4⟩ := five_box S.out.br
  obtain ⟨z0, z1, f0, f1⟩ := S.out.bz.two
  obtain ⟨v0, v1, v2, u0, u1, u2⟩ := V.out.three
  have HE := Lib.hid HA2.out
  clear HA2
  go_upto_region 16 with (fail)
  clear x0 x1 r0 r1 r2 r3 r4 z0 z1 f0 f1
  clear v0 v1 v2 u0 u1 u2
  replace S := Lib.hid (((S.out.set hh1 (i := 0) (.int .i64 0)).set hh1 (i := 1) (.int .i64 0)).set hh1 (i := 2) (.string ⟨#[]⟩))
  replace V := Lib.hid (V.out.put3 (.int .i64 0) (.int .i64 0) (.string ⟨#[]⟩))
  generalize ((w5.setCell ⟨h1, 0, none⟩ (.int .i64 0)).setCell ⟨h1, 1, none⟩ (.int .i64 0)).setCell ⟨h1, 2, none⟩ (.string ⟨#[]⟩) = w7 at S V ⊢
  obtain ⟨x0, x1, _, _⟩ := S.out.bx.two
  obtain ⟨r0, r1, r2, r3, r4⟩ := five_box S.out.br
  obtain ⟨z0, z1, f0, f1⟩ := S.out.bz.two
  go_wp2_with fail
  clear x0 x1 r0 r1 r2 r3 r4 z0 z1 f0 f1
  refine (rtwin_any (.agg #[.slice (some ad) x.logs.length c, .slice B x.votes.length d]) x w7 ⟨some ad, c, B, d, rfl, HL.out _ S.out.bl, HV.out _ S.out.bl⟩ ⟨by omega, fun l hl => by have := (SM.may_logs HM.out).1 l hl; omega, by omega⟩).mono ?_
  rintro e w8 ⟨v8, rfl, ho, hb⟩
  have hW7 := S.out.bl.size
  replace S := Lib.hid (S.out.below hb)
  replace V := Lib.hid (V.out.below hb V.out.lt)
  obtain ⟨vL, vV, rows, rfl, o1, o2, o3, o4⟩ := ho
  obtain ⟨A2, c5, rfl, _, _⟩ := own_form o1
  obtain ⟨B2, d5, rfl, _, _⟩ := own_form o4
  clear hb o4
  have hh2 := S.out.behind
  have hh12 := V.out.lt
  have hba : Below w8.heap.size w8 (w8.alloc (.cells #[.slice A2 x.logs.length c5, .slice B2 x.votes.length d5] 25)) := (Below.refl _ _).alloc (Nat.le_refl _) _
  have O := Lib.hid (Box.new w8 25 #[.slice A2 x.logs.length c5, .slice B2 x.votes.length d5])
  replace S := Lib.hid (S.out.below hba)
  replace V := Lib.hid (V.out.below hba V.out.lt)
  have O1 := Lib.hid (own_below3 (own_base o1 hW7) hba)
  have O2 := Lib.hid ((show RwOwn w8 W.heap.size rows x.logs from ⟨o2.1, fun i l hi => by obtain ⟨u, h1, h2⟩ := o2.2 i l hi; exact ⟨u, h1, own_base h2 hW7⟩⟩).below hba)
  have o3ap := o3
  clear o1 o2 o3 hba
  go_upto_region 19 with (fail)
  generalize w8.alloc (.cells #[.slice A2 x.logs.length c5, .slice B2 x.votes.length d5] 25) = w9 at S V O O1 O2 ⊢
  generalize w8.heap.size = h2 at O hh2 hh12 ⊢
  obtain ⟨x0, x1, _, _⟩ := S.out.bx.two
  obtain ⟨r0, r1, r2, r3, r4⟩ := five_box S.out.br
  obtain ⟨z0, z1, f0, f1⟩ := S.out.bz.two
  obtain ⟨v0, v1, v2, u0, u1, u2⟩ := V.out.three
  go_wp2_with fail
  clear x0 x1 r0 r1 r2 r3 r4 z0 z1 f0 f1
  clear v0 v1 v2 u0 u1 u2
  refine (rwith_any B x.votes.length d x.votes ⟨gi, si, SM.vz⟩ w9 (HV.out _ S.out.bl) (by omega) (.inl rfl)).mono ?_
  rintro e w10 ⟨vW, rfl, oW, hb⟩
  have hW9 := S.out.bl.size
  obtain ⟨B3, d6, rfl, _, _⟩ := own_form oW
  replace S := Lib.hid (S.out.below hb)
  replace O := Lib.hid (O.out.below hb O.out.lt)
  replace O1 := Lib.hid (own_below3 O1.out hb)
  replace O2 := Lib.hid (O2.out.below hb)
  clear hb V
  obtain ⟨y0, y1, t0, t1⟩ := O.out.two
  go_upto_region 20 with (fail)
  clear y0 y1 t0 t1
  have ks : Kept isSt w10 (w10.setCell ⟨h2, 1, none⟩ (.slice B3 (SM.put x.votes ⟨gi, si, SM.vz⟩).length d6)) := Kept.set (S := isSt) O.out rfl _
  have OW := Lib.hid (ks.own (own_base oW hW9) (by unfold isSt; decide))
  replace O1 := Lib.hid (ks.own O1.out (by unfold isSt; decide))
  replace O2 := Lib.hid (O2.out.kept ks (by unfold isSt; decide))
  replace S := Lib.hid (S.out.set hh2 (i := 1) (.slice B3 (SM.put x.votes ⟨gi, si, SM.vz⟩).length d6))
  replace O := Lib.hid (show Box _ h2 25 #[.slice A2 x.logs.length c5, .slice B3 (SM.put x.votes ⟨gi, si, SM.vz⟩).length d6] by have := O.out.stored 1 (.slice B3 (SM.put x.votes ⟨gi, si, SM.vz⟩).length d6); simpa using this)
  clear ks oW
  generalize w10.setCell ⟨h2, 1, none⟩ (.slice B3 (SM.put x.votes ⟨gi, si, SM.vz⟩).length d6) = w11 at S O O1 O2 OW ⊢
  obtain ⟨x0, x1, _, _⟩ := S.out.bx.two
  obtain ⟨r0, r1, r2, r3, r4⟩ := five_box S.out.br
  obtain ⟨z0, z1, f0, f1⟩ := S.out.bz.two
  obtain ⟨y0, y1, t0, t1⟩ := O.out.two
  obtain ⟨i2, hl2, hx0, hx1, hx2⟩ := info_parts info_str
  have mixed : Try.prog.follows Departure.mixedOrders = true := by kernel_rfl
  obtain ⟨qq2, hA2, _, _⟩ := own_some O1.out (show 0 < x.logs.length by omega)
  subst hA2
  obtain ⟨u, hu, ou⟩ := O2.out.2 gi l HLL.out
  obtain ⟨C2, e2, rfl, _, _⟩ := own_form ou
  have HU := Lib.hid hu
  have i0' : (0 : Int) ≤ (gi : Int) := by omega
  have i1' : (gi : Int) < (x.logs.length : Int) := by omega
  have hgx : gi < x.logs.length := by omega
  clear ou hu
  go_upto_region 21 with (fail)
  clear y0 y1 t0 t1
  clear x0 x1 r0 r1 r2 r3 r4 z0 z1 f0 f1
  have HSS : Hid (∀ w', Box w' h2 25 #[.slice (some ⟨qq2, 0, none⟩) x.logs.length c5, .slice B3 (SM.put x.votes ⟨gi, si, SM.vz⟩).length d6] → Box w' (g0 + 1) 29 #[.int .u8 3, .int .i64 gi, .int .i64 si, .int .i64 b, .string t] → w'.cell? ⟨h2, 0, none⟩ = some (.slice (some ⟨qq2, 0, none⟩) x.logs.length c5) ∧ w'.cell? ⟨g0 + 1, 1, none⟩ = some (.int .i64 gi) ∧ w'.cell? ⟨g0 + 1, 4, none⟩ = some (.string t)) := Lib.hid (fun w' hx hy => ⟨hx.cell 0, hy.cell 1, hy.cell 4⟩)
  have hd : Below w11.heap.size w11 w11.drew := (Below.refl _ _).drew
  obtain ⟨ud, hud⟩ : ∃ ud, ud = w11.drew := ⟨_, rfl⟩
  rw [← hud] at hd
  replace S := Lib.hid (S.out.below hd)
  replace O := Lib.hid (O.out.below hd O.out.lt)
  replace O1 := Lib.hid (own_below3 O1.out hd)
  replace O2 := Lib.hid (O2.out.below hd)
  replace OW := Lib.hid (own_below3 OW.out hd)
  clear hd
  refine wp_region_held_drew (S := fun w' => w'.cell? ⟨h2, 0, none⟩ = some (.slice (some ⟨qq2, 0, none⟩) x.logs.length c5) ∧ w'.cell? ⟨g0 + 1, 1, none⟩ = some (.int .i64 gi) ∧ w'.cell? ⟨g0 + 1, 4, none⟩ = some (.string t)) (by kernel_rfl) (by rw [← hud]; exact HSS.out _ O.out S.out.br) (fun hHeld => ?_)
  rw [← hud] at hHeld ⊢
  clear hud
  refine qT 0 ?_; try simp only [Act.put, qq]
  refine qT 1 ?_; try simp only [Act.put, qq]
  refine qT 2 ?_; try simp only [Act.put, qq]
  refine qT 3 ?_; try simp only [Act.put, qq]
  refine qT 4 ?_; try simp only [Act.put, qq]
  refine qT 5 ?_; try simp only [Act.put, qq]
  refine qT 6 ?_; try simp only [Act.put, qq]
  refine qT 7 ?_; try simp only [Act.put, qq]
  refine qT 8 ?_; try simp only [Act.put, qq]
  refine qT 10 ?_; try simp only [Act.put, qq]
  refine qT 11 ?_; try simp only [Act.put, qq]
  refine wpAnyH_ready (rs := [9, 12]) (by kernel_rfl) (by simp) ?_
  refine AllReadyH.cons rfl (fun K hK => ?_) (AllReadyH.cons rfl (fun K hK => ?_) AllReadyH.nil)
  · skip
    obtain ⟨_, hA3, _, hcell⟩ := own_some O1.out (by omega)
    injection hA3 with hA3
    injection hA3 with hA3
    subst hA3
    have hc9 := hcell gi _ HU.out
    clear hcell
    go_simp
    refine hK.out _ _ (HSS.out _ O.out S.out.br) (fun hHeld => ?_)
    clear hK hc9
    try simp only [Act.put, qq]
    refine wpAnyH_ready (rs := [12]) (by kernel_rfl) (by simp) ?_
    refine AllReadyH.cons rfl (fun K hK => ?_) AllReadyH.nil
    · skip
      go_simp
      have hb : Below ud.heap.size ud (ud.alloc (.cells #[.string t] 9)) := (Below.refl _ _).alloc (Nat.le_refl _) _
      have N := Lib.hid (rdG_box (s := 1) (n := 1) (xs := [.string t]) (Box.new ud 9 #[.string t]) rfl rfl)
      replace S := Lib.hid (S.out.below hb)
      replace O := Lib.hid (O.out.below hb O.out.lt)
      replace O1 := Lib.hid (own_below3 O1.out hb)
      replace O2 := Lib.hid (O2.out.below hb)
      replace OW := Lib.hid (own_below3 OW.out hb)
      clear hb
      refine hK.out _ _ (HSS.out _ O.out S.out.br) (fun hHeld => ?_)
      clear hK
      try simp only [Act.put, qq]
      generalize ud.alloc (.cells #[.string t] 9) = ue1 at S O O1 O2 OW N hHeld ⊢
      generalize ud.heap.size = gn at N ⊢
      refine wpAnyH_ready (rs := [13]) (by kernel_rfl) (by simp) ?_
      refine AllReadyH.cons rfl (fun K hK => ?_) AllReadyH.nil
      obtain ⟨u2, hu2, ou⟩ := O2.out.2 gi l HLL.out
      rw [HU.out] at hu2
      injection hu2 with hu2
      subst hu2
      refine step_append_h rfl (.tmp 110) (.tmp 113) 32 rfl W.heap.size 9 i2 _ 1 16 Try.underlying32 hl2 hx0 hx1 hx2 rfl (by omega) (.slice C2 l.length e2) l.length (tc l) (by simp [Act.eval, Act.put]) ou (some ⟨gn, 0, none⟩) 1 1 _ (by simp [Act.eval, Act.put]) N.out (by intro x hx; simp at hx; subst hx; rfl) (by unfold maxLen; omega) (by omega) S.out.bl.size ?_
      intro v9 w12 o9 g9 hob
      obtain ⟨C9, e9, rfl, _, _⟩ := own_form o9
      have k9 : Kept isStr ue1 w12 := Kept.grown ou rfl g9
      have RM2 := Lib.hid (rw_more O2.out o3ap HU.out HLL.out o9 g9)
      have S9 := Lib.hid (show ApR W g0 _ _ w12 from ⟨below_row S.out.bl ou S.out.bl.size g9, S.out.hg, k9.box _ _ _ (by unfold isStr; decide) S.out.bx, k9.box _ _ _ (by unfold isStr; decide) S.out.br, k9.box _ _ _ (by unfold isStr; decide) S.out.bz⟩)
      have O9 := Lib.hid (k9.box _ _ _ (by unfold isStr; decide) O.out)
      have P1 := Lib.hid (k9.own O1.out (by unfold isStr; decide))
      have PW := Lib.hid (k9.own OW.out (by unfold isStr; decide))
      clear k9 o9 g9 hob ou S O O1 O2 OW N
      refine hK.out _ _ (HSS.out _ O9.out S9.out.br) (fun hHeld => ?_)
      clear hK
      try simp only [Act.put, qq]
      refine qT 14 ?_; try simp only [Act.put, qq]
      refine wpAnyH_ready (rs := [15]) (by kernel_rfl) (by simp) ?_
      refine AllReadyH.cons rfl (fun K hK => ?_) AllReadyH.nil
      obtain ⟨hbq, cur9, hx9⟩ := own_block P1.out (g := qq2) rfl
      have fq := hx9.frozen gi
      have cq := hx9.cell gi
      have hq0 : qq2 ≠ g0 + 1 + 1 := fun e => by have h1 := S9.out.bz; rw [← e] at h1; rw [Box] at h1 hx9; rw [hx9] at h1; injection h1 with h1; injection h1 with _ h1; revert h1; decide
      have kq : Kept isRow w12 (w12.setCell ⟨qq2, gi, none⟩ (.slice C9 (l.length + 1) e9)) := Kept.set (S := isRow) hx9 rfl _
      have Q1 := Lib.hid ((P1.out.stored gi (.slice C9 (l.length + 1) e9)).1)
      have Q2 := Lib.hid (RM2.out.kept kq (by unfold isRow; decide))
      have QW := Lib.hid (kq.own PW.out (by unfold isRow; decide))
      have QO := Lib.hid (kq.box _ _ _ (by unfold isRow; decide) O9.out)
      have QS := Lib.hid (show ApR W g0 _ _ (w12.setCell ⟨qq2, gi, none⟩ (.slice C9 (l.length + 1) e9)) from ⟨S9.out.bl.setCell (p := ⟨qq2, gi, none⟩) hbq _, S9.out.hg, kq.box _ _ _ (by unfold isRow; decide) S9.out.bx, kq.box _ _ _ (by unfold isRow; decide) S9.out.br, kq.box _ _ _ (by unfold isRow; decide) S9.out.bz⟩)
      have hsome : ∃ cv, w12.cell? ⟨qq2, gi, none⟩ = some cv := by
        obtain ⟨_, hA3, _, hcell⟩ := own_some P1.out (by omega)
        injection hA3 with hA3
        injection hA3 with hA3
        subst hA3
        exact ⟨_, hcell gi _ HU.out⟩
      obtain ⟨cv, hcv⟩ := hsome
      clear cq hx9 kq
      go_simp
      refine hK.out _ _ (HSS.out _ QO.out QS.out.br) (fun hHeld => ?_)
      clear hK fq hcv
      try simp only [Act.put, qq]
      refine wpAnyH_done (by kernel_rfl) ?_ _
      clear hHeld HSS
      generalize w12.setCell ⟨qq2, gi, none⟩ (.slice C9 (l.length + 1) e9) = w13 at Q1 Q2 QW QO QS ⊢
      obtain ⟨y0, y1, t0, t1⟩ := QO.out.two
      obtain ⟨z0, z1, f0, f1⟩ := QS.out.bz.two
      go_wp2_with fail
      exact bodyPost_ret (v := .tuple #[.agg #[.slice (some ⟨qq2, 0, none⟩) x.logs.length c5, .slice B3 (SM.put x.votes ⟨gi, si, SM.vz⟩).length d6], .int .i64 0]) (by simp [results, Try.results21, go_sem, z0, z1]; try rfl) rfl (ap_fin QS.out (by have := HE.out; rw [Int.toNat_natCast, modify_set HLL.out] at this; exact this) (by simpa using Q1.out) Q2.out QW.out)
  · skip
    go_simp
    have hb : Below ud.heap.size ud (ud.alloc (.cells #[.string t] 9)) := (Below.refl _ _).alloc (Nat.le_refl _) _
    have N := Lib.hid (rdG_box (s := 1) (n := 1) (xs := [.string t]) (Box.new ud 9 #[.string t]) rfl rfl)
    replace S := Lib.hid (S.out.below hb)
    replace O := Lib.hid (O.out.below hb O.out.lt)
    replace O1 := Lib.hid (own_below3 O1.out hb)
    replace O2 := Lib.hid (O2.out.below hb)
    replace OW := Lib.hid (own_below3 OW.out hb)
    clear hb
    refine hK.out _ _ (HSS.out _ O.out S.out.br) (fun hHeld => ?_)
    clear hK
    try simp only [Act.put, qq]
    generalize ud.alloc (.cells #[.string t] 9) = ue2 at S O O1 O2 OW N hHeld ⊢
    generalize ud.heap.size = gn at N ⊢
    refine wpAnyH_ready (rs := [9]) (by kernel_rfl) (by simp) ?_
    refine AllReadyH.cons rfl (fun K hK => ?_) AllReadyH.nil
    · skip
      obtain ⟨_, hA3, _, hcell⟩ := own_some O1.out (by omega)
      injection hA3 with hA3
      injection hA3 with hA3
      subst hA3
      have hc9 := hcell gi _ HU.out
      clear hcell
      go_simp
      refine hK.out _ _ (HSS.out _ O.out S.out.br) (fun hHeld => ?_)
      clear hK hc9
      try simp only [Act.put, qq]
      refine wpAnyH_ready (rs := [13]) (by kernel_rfl) (by simp) ?_
      refine AllReadyH.cons rfl (fun K hK => ?_) AllReadyH.nil
      obtain ⟨u2, hu2, ou⟩ := O2.out.2 gi l HLL.out
      rw [HU.out] at hu2
      injection hu2 with hu2
      subst hu2
      refine step_append_h rfl (.tmp 110) (.tmp 113) 32 rfl W.heap.size 9 i2 _ 1 16 Try.underlying32 hl2 hx0 hx1 hx2 rfl (by omega) (.slice C2 l.length e2) l.length (tc l) (by simp [Act.eval, Act.put]) ou (some ⟨gn, 0, none⟩) 1 1 _ (by simp [Act.eval, Act.put]) N.out (by intro x hx; simp at hx; subst hx; rfl) (by unfold maxLen; omega) (by omega) S.out.bl.size ?_
      intro v9 w12 o9 g9 hob
      obtain ⟨C9, e9, rfl, _, _⟩ := own_form o9
      have k9 : Kept isStr ue2 w12 := Kept.grown ou rfl g9
      have RM2 := Lib.hid (rw_more O2.out o3ap HU.out HLL.out o9 g9)
      have S9 := Lib.hid (show ApR W g0 _ _ w12 from ⟨below_row S.out.bl ou S.out.bl.size g9, S.out.hg, k9.box _ _ _ (by unfold isStr; decide) S.out.bx, k9.box _ _ _ (by unfold isStr; decide) S.out.br, k9.box _ _ _ (by unfold isStr; decide) S.out.bz⟩)
      have O9 := Lib.hid (k9.box _ _ _ (by unfold isStr; decide) O.out)
      have P1 := Lib.hid (k9.own O1.out (by unfold isStr; decide))
      have PW := Lib.hid (k9.own OW.out (by unfold isStr; decide))
      clear k9 o9 g9 hob ou S O O1 O2 OW N
      refine hK.out _ _ (HSS.out _ O9.out S9.out.br) (fun hHeld => ?_)
      clear hK
      try simp only [Act.put, qq]
      refine qT 14 ?_; try simp only [Act.put, qq]
      refine wpAnyH_ready (rs := [15]) (by kernel_rfl) (by simp) ?_
      refine AllReadyH.cons rfl (fun K hK => ?_) AllReadyH.nil
      obtain ⟨hbq, cur9, hx9⟩ := own_block P1.out (g := qq2) rfl
      have fq := hx9.frozen gi
      have cq := hx9.cell gi
      have hq0 : qq2 ≠ g0 + 1 + 1 := fun e => by have h1 := S9.out.bz; rw [← e] at h1; rw [Box] at h1 hx9; rw [hx9] at h1; injection h1 with h1; injection h1 with _ h1; revert h1; decide
      have kq : Kept isRow w12 (w12.setCell ⟨qq2, gi, none⟩ (.slice C9 (l.length + 1) e9)) := Kept.set (S := isRow) hx9 rfl _
      have Q1 := Lib.hid ((P1.out.stored gi (.slice C9 (l.length + 1) e9)).1)
      have Q2 := Lib.hid (RM2.out.kept kq (by unfold isRow; decide))
      have QW := Lib.hid (kq.own PW.out (by unfold isRow; decide))
      have QO := Lib.hid (kq.box _ _ _ (by unfold isRow; decide) O9.out)
      have QS := Lib.hid (show ApR W g0 _ _ (w12.setCell ⟨qq2, gi, none⟩ (.slice C9 (l.length + 1) e9)) from ⟨S9.out.bl.setCell (p := ⟨qq2, gi, none⟩) hbq _, S9.out.hg, kq.box _ _ _ (by unfold isRow; decide) S9.out.bx, kq.box _ _ _ (by unfold isRow; decide) S9.out.br, kq.box _ _ _ (by unfold isRow; decide) S9.out.bz⟩)
      have hsome : ∃ cv, w12.cell? ⟨qq2, gi, none⟩ = some cv := by
        obtain ⟨_, hA3, _, hcell⟩ := own_some P1.out (by omega)
        injection hA3 with hA3
        injection hA3 with hA3
        subst hA3
        exact ⟨_, hcell gi _ HU.out⟩
      obtain ⟨cv, hcv⟩ := hsome
      clear cq hx9 kq
      go_simp
      refine hK.out _ _ (HSS.out _ QO.out QS.out.br) (fun hHeld => ?_)
      clear hK fq hcv
      try simp only [Act.put, qq]
      refine wpAnyH_done (by kernel_rfl) ?_ _
      clear hHeld HSS
      generalize w12.setCell ⟨qq2, gi, none⟩ (.slice C9 (l.length + 1) e9) = w13 at Q1 Q2 QW QO QS ⊢
      obtain ⟨y0, y1, t0, t1⟩ := QO.out.two
      obtain ⟨z0, z1, f0, f1⟩ := QS.out.bz.two
      go_wp2_with fail
      exact bodyPost_ret (v := .tuple #[.agg #[.slice (some ⟨qq2, 0, none⟩) x.logs.length c5, .slice B3 (SM.put x.votes ⟨gi, si, SM.vz⟩).length d6], .int .i64 0]) (by simp [results, Try.results21, go_sem, z0, z1]; try rfl) rfl (ap_fin QS.out (by have := HE.out; rw [Int.toNat_natCast, modify_set HLL.out] at this; exact this) (by simpa using Q1.out) Q2.out QW.out)
end Go.Proofs.Ytohiemdodffhoaa.SP
