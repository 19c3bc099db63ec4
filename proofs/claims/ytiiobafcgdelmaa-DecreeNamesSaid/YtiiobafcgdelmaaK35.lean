/-
  What package decree's Twin answers: the same world in new memory. Conditions: the world fits.
  All that is found chosen is one value, and it was somebody's wish: what holds behind whatever moves. No program.
-/
import Derived.Test.YtiiobafcgdelmaaK34
import Derived.Test.YtiiobafcgdelmaaK28
import Derived.Test.YtiiobafcgdelmaaK06
namespace Go.Proofs.Ytiiobafcgdelmaa.PD
open Go.RowKit Go.Shelf
set_option linter.unusedVariables false
set_option linter.unusedSimpArgs false

def isW (e : TypeId) : Prop := e = 28
theorem isW_w : isW 28 := rfl
set_option maxRecDepth 100000 in
set_option maxHeartbeats 8000000 in
theorem wtwin_any (v : Value) (w : DC.Wd) (W : World) (H : WIs W v w) (F : WFit w) :
    Calls Try.prog 19 #[v] W (WRet w W) := by
  obtain ⟨A0, c0, A1, c1, A2, c2, A3, c3, A4, c4, xs, rfl, R⟩ := H
  have HC0 := Lib.hid (fun (U : World) (hU : Below W.heap.size W U) => cloneI_any A0 w.ms.length c0 (ic w.ms) U (R.h0.below hU).g (ic_one _) F.l0)
  have HC1 := Lib.hid (fun (U : World) (hU : Below W.heap.size W U) => cloneV_any A1 w.vs.length c1 (flat vcell w.vs) U (R.h1.below hU) (one_flat v_one _) F.l1)
  have HC2 := Lib.hid (fun (U : World) (hU : Below W.heap.size W U) => cloneT_any A2 w.ts.length c2 xs U (R.h2.below hU) (ts_one R.ht) F.l2)
  have HC3 := Lib.hid (fun (U : World) (hU : Below W.heap.size W U) => cloneM_any A3 w.ml.length c3 (flat mcell w.ml) U (R.h3.below hU) (one_flat m_one _) F.l3)
  have HC4 := Lib.hid (fun (U : World) (hU : Below W.heap.size W U) => cloneC_any A4 w.ch.length c4 (flat ccell w.ch) U (R.h4.below hU) (one_flat c_one _) F.l4)
  have HTS := Lib.hid R.ht
  have HFT := Lib.hid F.ts
  have hL2 := F.l2
  obtain ⟨W0, hW0⟩ : ∃ W0, W0 = (W.alloc (.cells #[.slice A0 w.ms.length c0, .slice A1 w.vs.length c1, .slice A2 w.ts.length c2, .slice A3 w.ml.length c3, .slice A4 w.ch.length c4] 28)).alloc (.cells #[.slice none 0 0, .slice none 0 0, .slice none 0 0, .slice none 0 0, .slice none 0 0] 28) := ⟨_, rfl⟩
  have hs0 : TwSt W W0 W.heap.size (W.heap.size + 1) (.slice A0 w.ms.length c0) (.slice A1 w.vs.length c1) (.slice A2 w.ts.length c2) (.slice A3 w.ml.length c3) (.slice A4 w.ch.length c4) := by
    refine ⟨?_, ?_, ?_, Nat.le_refl _, by omega, by omega⟩
    · rw [hW0]; exact (Box.new _ _ _).below ((Below.refl _ _).alloc (Nat.le_refl _) _) (by simp)
    · rw [hW0]
      have := Box.new (W.alloc (.cells #[.slice A0 w.ms.length c0, .slice A1 w.vs.length c1, .slice A2 w.ts.length c2, .slice A3 w.ml.length c3, .slice A4 w.ch.length c4] 28)) 28 #[.slice none 0 0, .slice none 0 0, .slice none 0 0, .slice none 0 0, .slice none 0 0]
      rwa [show (W.alloc (.cells #[.slice A0 w.ms.length c0, .slice A1 w.vs.length c1, .slice A2 w.ts.length c2, .slice A3 w.ml.length c3, .slice A4 w.ch.length c4] 28)).heap.size = W.heap.size + 1 by simp] at this
    · rw [hW0]; exact ((Below.refl _ _).alloc (Nat.le_refl _) _).alloc (by simp) _
  have HS0 := Lib.hid hs0
  have mixed : Try.prog.follows Departure.mixedOrders = true := by kernel_rfl
  clear hs0 R F
  go_enter Try.func19, Try.ntmps19
  go_wp2_with fail
  rw [← hW0]
  clear hW0
  obtain ⟨gr, hgr⟩ : ∃ gr, gr = W.heap.size + 1 := ⟨_, rfl⟩
  rw [← hgr] at HS0 ⊢
  clear hgr
  obtain ⟨gb, hgb⟩ : ∃ gb, gb = W.heap.size := ⟨_, rfl⟩
  rw [← hgb] at HS0
  rw [← hgb]
  clear hgb
  refine (HC0.out _ HS0.out.bl).mono ?_
  rintro e w1 ⟨B0, d0, rfl, o0, b1⟩
  have st := HS0.out.below b1
  obtain ⟨⟨x0, x1, x2, x3, x4⟩, z0, z1, z2, z3, z4⟩ := st.bx.five
  have HS1 := Lib.hid (st.s0 (.slice B0 w.ms.length d0))
  have O0 := Lib.hid (own_base (base' := W.heap.size) (own_setother (i := 0) o0 st.bx (by decide) (.slice B0 w.ms.length d0)) HS0.out.bl.size)
  clear st o0 b1 HS0 HC0
  go_wp2_with fail
  generalize w1.setCell ⟨gb, 0, none⟩ (.slice B0 w.ms.length d0) = u1 at HS1 O0 ⊢
  clear x0 x1 x2 x3 x4 z0 z1 z2 z3 z4

  refine (HC1.out _ HS1.out.bl).mono ?_
  rintro e w2 ⟨B1, d1, rfl, o1, b2⟩
  have st := HS1.out.below b2
  obtain ⟨⟨x0, x1, x2, x3, x4⟩, z0, z1, z2, z3, z4⟩ := st.bx.five
  have HS2 := Lib.hid (st.s1 (.slice B1 w.vs.length d1))
  have O1 := Lib.hid (own_base (base' := W.heap.size) (own_setother (i := 1) o1 st.bx (by decide) (.slice B1 w.vs.length d1)) HS1.out.bl.size)
  have O0x := Lib.hid (own_setother (i := 1) (own_below3 O0.out b2) st.bx (by decide) (.slice B1 w.vs.length d1))
  clear st o1 b2 HS1 HC1 O0
  go_wp2_with fail
  generalize w2.setCell ⟨gb, 1, none⟩ (.slice B1 w.vs.length d1) = u2 at HS2 O1 O0x ⊢
  clear x0 x1 x2 x3 x4 z0 z1 z2 z3 z4
  have O0 := O0x
  clear O0x

  refine (HC2.out _ HS2.out.bl).mono ?_
  rintro e w3 ⟨B2, d2, rfl, o2, b3⟩
  have st := HS2.out.below b3
  obtain ⟨⟨x0, x1, x2, x3, x4⟩, z0, z1, z2, z3, z4⟩ := st.bx.five
  have HS3 := Lib.hid (st.s2 (.slice B2 w.ts.length d2))
  have O2 := Lib.hid (own_base (base' := W.heap.size) (own_setother (i := 2) o2 st.bx (by decide) (.slice B2 w.ts.length d2)) HS2.out.bl.size)
  have O0x := Lib.hid (own_setother (i := 2) (own_below3 O0.out b3) st.bx (by decide) (.slice B2 w.ts.length d2))
  have O1x := Lib.hid (own_setother (i := 2) (own_below3 O1.out b3) st.bx (by decide) (.slice B2 w.ts.length d2))
  clear st o2 b3 HS2 HC2 O0 O1
  go_wp2_with fail
  generalize w3.setCell ⟨gb, 2, none⟩ (.slice B2 w.ts.length d2) = u3 at HS3 O2 O0x O1x ⊢
  clear x0 x1 x2 x3 x4 z0 z1 z2 z3 z4
  have O0 := O0x
  clear O0x
  have O1 := O1x
  clear O1x

  have HR := Lib.hid (show TwRel W gb gr w B0 B1 B2 A3 A4 d0 d1 d2 c3 c4 0 u3 from ⟨HS3.out, O0.out, O1.out, xs, O2.out, TsMid.start HTS.out⟩)
  clear HS3 O0 O1 O2 HTS
  go_loopw [20] (fun i wr => ∃ k : Nat, k ≤ w.ts.length ∧ i = .int .i64 k ∧ Hid (TwRel W gb gr w B0 B1 B2 A3 A4 d0 d1 d2 c3 c4 k wr)) (fun i _ => w.ts.length - (intOf i).toNat)
  case atStart => exact ⟨0, by omega, rfl, HR⟩
  case round =>
    clear HR
    obtain ⟨k, hk, rfl, HR⟩ := hrel
    by_cases hlt : k < w.ts.length
    · have ht : w.ts[k]? = some w.ts[k] := List.getElem?_eq_getElem hlt
      have hF : Fit w.ts[k] := HFT.out _ (List.getElem_mem ..)
      obtain ⟨st, r0, r1, ys, r2, hmid⟩ := HR.out
      obtain ⟨q, rfl, hqb, hc⟩ := own_some r2 (by omega)
      have hqlt : q < wr.heap.size := by obtain ⟨_, cur, hx⟩ := own_block r2 (show (Value.slice (some ⟨q, 0, none⟩) w.ts.length d2).ownBlock = some q from rfl); exact hx.lt
      obtain ⟨A, n, c, B, m, d, C, qq, f, hcells, e1, e2, e3⟩ := hmid.at_ ht
      obtain ⟨t, htt⟩ : ∃ t, t = w.ts[k] := ⟨_, rfl⟩
      rw [← htt] at ht hF hcells e1 e2 e3
      clear htt
      have t0 := hc _ _ (hcells 0 (by omega))
      have t1 := hc _ _ (hcells 1 (by omega))
      have t2 := hc _ _ (hcells 2 (by omega))
      have t3 := hc _ _ (hcells 3 (by omega))
      have t4 := hc _ _ (hcells 4 (by omega))
      have t5 := hc _ _ (hcells 5 (by omega))
      have t6 := hc _ _ (hcells 6 (by omega))
      simp only [Nat.add_zero] at t0
      have HTW := Lib.hid (fun (U : World) (hU : Below W.heap.size W U) => twin_any _ t U (show AtIs U (.agg #[.int .u8 t.ph, .int .i64 t.ba, .slice A n c, .string t.wi, .string t.va, .slice B m d, .slice C qq f]) t from ⟨A, n, c, B, m, d, C, qq, f, rfl, e1.below hU, e2.below hU, e3.below hU⟩) hF)
      have hal : Below wr.heap.size wr (wr.alloc (.cells #[.int .u8 t.ph, .int .i64 t.ba, .slice A n c, .string t.wi, .string t.va, .slice B m d, .slice C qq f] 49)) := (Below.refl _ _).alloc (Nat.le_refl _) _
      have HRA := Lib.hid (HR.out.below hal)
      have HBX := Lib.hid (Box.new wr 49 #[.int .u8 t.ph, .int .i64 t.ba, .slice A n c, .string t.wi, .string t.va, .slice B m d, .slice C qq f])
      have hqne : wr.heap.size ≠ q := by omega
      have HT := Lib.hid ht
      have HQ := Lib.hid hqb
      have i0 : (0 : Int) ≤ (k : Int) := by omega
      have i1 : (k : Int) < (w.ts.length : Int) := by omega
      clear hcells e1 e2 e3 hc st r0 r1 r2 hmid HR hal ht hF hqb hqlt
      go_upto_region 7 with (fail)
      clear t0 t1 t2 t3 t4 t5 t6
      generalize wr.alloc (.cells #[.int .u8 t.ph, .int .i64 t.ba, .slice A n c, .string t.wi, .string t.va, .slice B m d, .slice C qq f] 49) = u at HRA HBX ⊢
      generalize wr.heap.size = gM at HBX hqne ⊢
      have hd : Below u.heap.size u u.drew := (Below.refl _ _).drew
      have RD := Lib.hid (HRA.out.below hd)
      have hbx : Box u.drew gM 49 #[.int .u8 t.ph, .int .i64 t.ba, .slice A n c, .string t.wi, .string t.va, .slice B m d, .slice C qq f] := HBX.out
      have HS : Hid (∀ w', Below u.drew.heap.size u.drew w' → w'.cell? ⟨gb, 2, none⟩ = some (.slice (some ⟨q, 0, none⟩) w.ts.length d2) ∧ w'.cell? ⟨gM, 0, none⟩ = some (.int .u8 t.ph) ∧ w'.cell? ⟨gM, 1, none⟩ = some (.int .i64 t.ba) ∧ w'.cell? ⟨gM, 2, none⟩ = some (.slice A n c) ∧ w'.cell? ⟨gM, 3, none⟩ = some (.string t.wi) ∧ w'.cell? ⟨gM, 4, none⟩ = some (.string t.va) ∧ w'.cell? ⟨gM, 5, none⟩ = some (.slice B m d) ∧ w'.cell? ⟨gM, 6, none⟩ = some (.slice C qq f)) := Lib.hid (fun w' hb => by
        obtain ⟨⟨_, _, x2, _, _⟩, _⟩ := (RD.out.1.below hb).bx.five
        obtain ⟨⟨s0, s1, s2, s3, s4, s5, s6⟩, _⟩ := (hbx.below hb hbx.lt).seven
        exact ⟨x2, s0, s1, s2, s3, s4, s5, s6⟩)
      have HBX2 := Lib.hid hbx
      have htw := HTW.out u.drew RD.out.1.bl
      have HTW2 := Lib.hid htw
      clear HTW htw HRA HBX hbx hd
      refine wp_region_held_drew (S := fun w' => w'.cell? ⟨gb, 2, none⟩ = some (.slice (some ⟨q, 0, none⟩) w.ts.length d2) ∧ w'.cell? ⟨gM, 0, none⟩ = some (.int .u8 t.ph) ∧ w'.cell? ⟨gM, 1, none⟩ = some (.int .i64 t.ba) ∧ w'.cell? ⟨gM, 2, none⟩ = some (.slice A n c) ∧ w'.cell? ⟨gM, 3, none⟩ = some (.string t.wi) ∧ w'.cell? ⟨gM, 4, none⟩ = some (.string t.va) ∧ w'.cell? ⟨gM, 5, none⟩ = some (.slice B m d) ∧ w'.cell? ⟨gM, 6, none⟩ = some (.slice C qq f)) (by kernel_rfl) (HS.out _ (Below.refl _ _)) (fun hHeld => ?_)
      refine wpAnyH_take (i := 0) (v := ?_) rfl (by kernel_rfl) (by kernel_rfl) (by kernel_rfl) (fun _ _ _ h => h) (Or.inl ⟨by rfl, ?_⟩) (by assumption) ?_
      rotate_left
      · intro w' hSw
        (try dsimp only at hSw)
        go_simp
        all_goals (with_reducible rfl)
      try simp only [Act.put, List.setIfInBounds_toArray, List.set_cons_zero, List.set_cons_succ, List.getElem_toArray, List.getElem_cons_zero, List.getElem_cons_succ]
      refine wpAnyH_take (i := 1) (v := ?_) rfl (by kernel_rfl) (by kernel_rfl) (by kernel_rfl) (fun _ _ _ h => h) (Or.inl ⟨by rfl, ?_⟩) (by assumption) ?_
      rotate_left
      · intro w' hSw
        (try dsimp only at hSw)
        go_simp
        all_goals (with_reducible rfl)
      try simp only [Act.put, List.setIfInBounds_toArray, List.set_cons_zero, List.set_cons_succ, List.getElem_toArray, List.getElem_cons_zero, List.getElem_cons_succ]
      refine wpAnyH_take (i := 2) (v := ?_) rfl (by kernel_rfl) (by kernel_rfl) (by kernel_rfl) (fun _ _ _ h => h) (Or.inl ⟨by rfl, ?_⟩) (by assumption) ?_
      rotate_left
      · intro w' hSw
        (try dsimp only at hSw)
        go_simp
        all_goals (with_reducible rfl)
      try simp only [Act.put, List.setIfInBounds_toArray, List.set_cons_zero, List.set_cons_succ, List.getElem_toArray, List.getElem_cons_zero, List.getElem_cons_succ]
      refine wpAnyH_take (i := 3) (v := ?_) rfl (by kernel_rfl) (by kernel_rfl) (by kernel_rfl) (fun _ _ _ h => h) (Or.inl ⟨by rfl, ?_⟩) (by assumption) ?_
      rotate_left
      · intro w' hSw
        (try dsimp only at hSw)
        go_simp
        all_goals (with_reducible rfl)
      try simp only [Act.put, List.setIfInBounds_toArray, List.set_cons_zero, List.set_cons_succ, List.getElem_toArray, List.getElem_cons_zero, List.getElem_cons_succ]
      refine wpAnyH_ready (rs := [4]) (by kernel_rfl) (by simp) ?_
      refine AllReadyH.cons rfl (fun K hK => ?_) AllReadyH.nil
      go_simp
      refine HTW2.out.mono ?_
      rintro e wa ⟨v5, rfl, hnew, hba⟩
      have hown := hnew.own
      obtain ⟨A5, c5, D5, q5, C5, f5, rfl⟩ := hown.form
      clear HTW2 hnew
      obtain ⟨st, r0, r1, ys, r2, hmid⟩ := RD.out.below hba
      have hthere := there_own (o := k * 7) (k := 7) r2 (by omega)
      obtain ⟨r2', kk⟩ := own_at7 (o := k * 7) (S := isA) r2 (by omega) rfl (.int .u8 t.ph) (.int .i64 t.ba) (.slice A5 t.ms.length c5) (.string t.wi) (.string t.va) (.slice D5 t.ps.length q5) (.slice C5 t.ac.length f5)
      have hbl2 : Below W.heap.size W (putAt7 wa q (k * 7) (.int .u8 t.ph) (.int .i64 t.ba) (.slice A5 t.ms.length c5) (.string t.wi) (.string t.va) (.slice D5 t.ps.length q5) (.slice C5 t.ac.length f5)) := below_at7 st.bl HQ.out ..
      have hmid2 := hmid.kept kk (by unfold isA; decide) (by unfold isA; decide)
      have hown2 := kk.at_ (hown.mono RD.out.1.bl.size) (by unfold isA; decide) (by unfold isA; decide)
      have NX : Hid (TwRel W gb gr w B0 B1 (some ⟨q, 0, none⟩) A3 A4 d0 d1 d2 c3 c4 (k + 1) (putAt7 wa q (k * 7) (.int .u8 t.ph) (.int .i64 t.ba) (.slice A5 t.ms.length c5) (.string t.wi) (.string t.va) (.slice D5 t.ps.length q5) (.slice C5 t.ac.length f5))) :=
        Lib.hid ⟨st.kept kk (by unfold isA; decide) hbl2, kk.own r0 (by unfold isA; decide), kk.own r1 (by unfold isA; decide), _, r2', hmid2.put HT.out hown2⟩
      have hS1 := HS.out _ hba
      have hx2 := (st.kept kk (by unfold isA; decide) hbl2).bx.five.1.2.2.1
      have hxM := box_at7 (o := k * 7) (HBX2.out.below hba HBX2.out.lt) hqne (.int .u8 t.ph) (.int .i64 t.ba) (.slice A5 t.ms.length c5) (.string t.wi) (.string t.va) (.slice D5 t.ps.length q5) (.slice C5 t.ac.length f5)
      obtain ⟨⟨s0, s1, s2, s3, s4, s5, s6⟩, _⟩ := hxM.seven
      have hS2 := And.intro hx2 (And.intro s0 (And.intro s1 (And.intro s2 (And.intro s3 (And.intro s4 (And.intro s5 s6))))))
      clear hown hba st r0 r1 r2 hmid r2' kk hbl2 hmid2 hown2 hx2 hxM s0 s1 s2 s3 s4 s5 s6 RD HS HBX2
      refine hK.out _ _ (hS1) (fun hHeld => ?_)
      clear hK
      try simp only [Act.put, List.setIfInBounds_toArray, List.set_cons_zero, List.set_cons_succ, List.getElem_toArray, List.getElem_cons_zero, List.getElem_cons_succ]
      refine wpAnyH_take (i := 5) (v := ?_) rfl (by kernel_rfl) (by kernel_rfl) (by kernel_rfl) (fun _ _ _ h => h) (Or.inl ⟨by rfl, ?_⟩) (by assumption) ?_
      rotate_left
      · intro w' hSw
        (try dsimp only at hSw)
        go_simp
        all_goals (with_reducible rfl)
      try simp only [Act.put, List.setIfInBounds_toArray, List.set_cons_zero, List.set_cons_succ, List.getElem_toArray, List.getElem_cons_zero, List.getElem_cons_succ]
      refine wpAnyH_ready (rs := [6]) (by kernel_rfl) (by simp) ?_
      refine AllReadyH.cons rfl (fun K hK => ?_) AllReadyH.nil
      refine step_store_mid rfl 49 _ _ rfl q (k * 7) #[.int .u8 t.ph, .int .i64 t.ba, .slice A5 t.ms.length c5, .string t.wi, .string t.va, .slice D5 t.ps.length q5, .slice C5 t.ac.length f5] (by simp [Act.eval, Act.put]) (by simp [Act.eval, Act.put]) hthere (by kernel_rfl) (by simp [Value.oneCell']) ?_
      refine hK.out _ _ (hS2) (fun hHeld => ?_)
      clear hK
      try simp only [Act.put, List.setIfInBounds_toArray, List.set_cons_zero, List.set_cons_succ, List.getElem_toArray, List.getElem_cons_zero, List.getElem_cons_succ]
      refine wpAnyH_done (by kernel_rfl) ?_ _
      clear hS1 hS2 hthere
      go_wp2_with fail
      go_roundw
      case rel => exact ⟨k + 1, by omega, by go_num, NX⟩
      case measure => simp [intOf]; omega
    · obtain rfl : k = w.ts.length := by omega
      have hd : Hid (TsRow wr W.heap.size _ w.ts) := Lib.hid HR.out.2.2.2.choose_spec.2.end_
      obtain ⟨st, r0, r1, ys, r2, hmid⟩ := HR.out
      have hts := hmid.end_
      obtain ⟨⟨x0, x1, x2, x3, x4⟩, z0, z1, z2, z3, z4⟩ := st.bx.five
      have HS3 := Lib.hid st
      have O0 := Lib.hid r0
      have O1 := Lib.hid r1
      have O2 := Lib.hid r2
      have OT := Lib.hid hts
      clear hd st r0 r1 r2 hmid hts HR HFT
      go_wp2_with fail
      refine (HC3.out _ HS3.out.bl).mono ?_
      rintro e w4 ⟨B3, d3, rfl, o3, b4⟩
      have st := HS3.out.below b4
      clear x0 x1 x2 x3 x4 z0 z1 z2 z3 z4
      obtain ⟨⟨x0, x1, x2, x3, x4⟩, z0, z1, z2, z3, z4⟩ := st.bx.five
      have HS4 := Lib.hid (st.s3 (.slice B3 w.ml.length d3))
      have kk : Kept isW wr (w4.setCell ⟨gb, 3, none⟩ (.slice B3 w.ml.length d3)) := (Kept.of_below b4).trans (Kept.set (S := isW) st.bx isW_w _)
      have O3 := Lib.hid (own_base (base' := W.heap.size) (own_setother (i := 3) o3 st.bx (by decide) (.slice B3 w.ml.length d3)) HS3.out.bl.size)
      have O0x := Lib.hid (kk.own O0.out (by unfold isW; decide))
      have O1x := Lib.hid (kk.own O1.out (by unfold isW; decide))
      have O2x := Lib.hid (kk.own O2.out (by unfold isW; decide))
      have OTx := Lib.hid (OT.out.kept kk (by unfold isW; decide) (by unfold isW; decide))
      clear st o3 b4 HS3 HC3 kk OT O0 O1 O2
      go_upto_region 10 with (fail)
      generalize w4.setCell ⟨gb, 3, none⟩ (.slice B3 w.ml.length d3) = u4 at HS4 O3 O0x O1x O2x OTx ⊢
      clear x0 x1 x2 x3 x4 z0 z1 z2 z3 z4
      have O0 := O0x
      clear O0x
      have O1 := O1x
      clear O1x
      have O2 := O2x
      clear O2x
      have OT := OTx
      clear OTx
      obtain ⟨⟨x0, x1, x2, x3, x4⟩, z0, z1, z2, z3, z4⟩ := HS4.out.bx.five
      go_wp2_with fail
      refine (HC4.out _ HS4.out.bl).mono ?_
      rintro e w5 ⟨B4, d4, rfl, o4, b5⟩
      have st := HS4.out.below b5
      clear x0 x1 x2 x3 x4 z0 z1 z2 z3 z4
      obtain ⟨⟨x0, x1, x2, x3, x4⟩, z0, z1, z2, z3, z4⟩ := st.bx.five
      have HS5 := Lib.hid (st.s4 (.slice B4 w.ch.length d4))
      have kk : Kept isW u4 (w5.setCell ⟨gb, 4, none⟩ (.slice B4 w.ch.length d4)) := (Kept.of_below b5).trans (Kept.set (S := isW) st.bx isW_w _)
      have O4 := Lib.hid (own_base (base' := W.heap.size) (own_setother (i := 4) o4 st.bx (by decide) (.slice B4 w.ch.length d4)) HS4.out.bl.size)
      have O0x := Lib.hid (kk.own O0.out (by unfold isW; decide))
      have O1x := Lib.hid (kk.own O1.out (by unfold isW; decide))
      have O2x := Lib.hid (kk.own O2.out (by unfold isW; decide))
      have O3x := Lib.hid (kk.own O3.out (by unfold isW; decide))
      have OTx := Lib.hid (OT.out.kept kk (by unfold isW; decide) (by unfold isW; decide))
      clear st o4 b5 HS4 HC4 kk OT O0 O1 O2 O3
      go_upto_region 11 with (fail)
      generalize w5.setCell ⟨gb, 4, none⟩ (.slice B4 w.ch.length d4) = u5 at HS5 O4 O0x O1x O2x O3x OTx ⊢
      clear x0 x1 x2 x3 x4 z0 z1 z2 z3 z4
      have O0 := O0x
      clear O0x
      have O1 := O1x
      clear O1x
      have O2 := O2x
      clear O2x
      have O3 := O3x
      clear O3x
      have OT := OTx
      clear OTx
      obtain ⟨⟨x0, x1, x2, x3, x4⟩, z0, z1, z2, z3, z4⟩ := HS5.out.bx.five
      obtain ⟨⟨_, _, _, _, _⟩, y0, y1, y2, y3, y4⟩ := HS5.out.br.five
      have k6 : Kept isW u5 (u5.setCells gr 0 [.slice B0 w.ms.length d0, .slice B1 w.vs.length d1, .slice B2 w.ts.length d2, .slice B3 w.ml.length d3, .slice B4 w.ch.length d4]) := kept_setCells (S := isW) isW_w _ _ HS5.out.br
      have b6 : Below W.heap.size W (u5.setCells gr 0 [.slice B0 w.ms.length d0, .slice B1 w.vs.length d1, .slice B2 w.ts.length d2, .slice B3 w.ml.length d3, .slice B4 w.ch.length d4]) := below_setCells _ _ HS5.out.bl HS5.out.hr
      have x6 := box_setAll HS5.out.br [.slice B0 w.ms.length d0, .slice B1 w.vs.length d1, .slice B2 w.ts.length d2, .slice B3 w.ml.length d3, .slice B4 w.ch.length d4] rfl
      have HF : Hid (WOwn (u5.setCells gr 0 [.slice B0 w.ms.length d0, .slice B1 w.vs.length d1, .slice B2 w.ts.length d2, .slice B3 w.ml.length d3, .slice B4 w.ch.length d4]) W.heap.size (.agg #[.slice B0 w.ms.length d0, .slice B1 w.vs.length d1, .slice B2 w.ts.length d2, .slice B3 w.ml.length d3, .slice B4 w.ch.length d4]) w) :=
        Lib.hid ⟨B0, d0, B1, d1, B2, d2, B3, d3, B4, d4, _, rfl, k6.own O0.out (by unfold isW; decide), k6.own O1.out (by unfold isW; decide), k6.own O2.out (by unfold isW; decide), OT.out.kept k6 (by unfold isW; decide) (by unfold isW; decide), k6.own O3.out (by unfold isW; decide), k6.own O4.out (by unfold isW; decide)⟩
      have HB6 := Lib.hid b6
      have HX6 := Lib.hid x6
      clear k6 b6 x6 HS5 O0 O1 O2 O3 O4 OT
      go_wp2_with fail
      obtain ⟨⟨s0, s1, s2, s3, s4⟩, _⟩ := (show Box _ gr 28 #[.slice B0 w.ms.length d0, .slice B1 w.vs.length d1, .slice B2 w.ts.length d2, .slice B3 w.ml.length d3, .slice B4 w.ch.length d4] from HX6.out).five
      have hF := HF.out
      have hB := HB6.out
      simp only [World.setCells, Nat.zero_add, Nat.reduceAdd] at s0 s1 s2 s3 s4 hF hB
      exact bodyPost_ret (v := .agg #[.slice B0 w.ms.length d0, .slice B1 w.vs.length d1, .slice B2 w.ts.length d2, .slice B3 w.ml.length d3, .slice B4 w.ch.length d4]) (by simp [results, Try.results19, go_sem, s0, s1, s2, s3, s4]) rfl ⟨_, rfl, hF, hB⟩
end Go.Proofs.Ytiiobafcgdelmaa.PD

namespace Go.Proofs.Ytiiobafcgdelmaa.DC
set_option linter.unusedVariables false
set_option linter.unusedSimpArgs false

/-- the value of a promise of the greatest ballot, if one is above m -/
theorem bestF_max : ∀ (l : List AM.Pr) (m : Int) (s : ByteArray), ((∀ p ∈ l, p.b ≤ m) ∧ AM.bestF m s l = s) ∨ (∃ p ∈ l, m < p.b ∧ (∀ q ∈ l, q.b ≤ p.b) ∧ AM.bestF m s l = p.v)
  | [], m, s => .inl ⟨(fun p hp => by cases hp), rfl⟩
  | p :: l, m, s => by
    unfold AM.bestF
    split
    · rename_i h
      rcases bestF_max l p.b p.v with ⟨h1, h2⟩ | ⟨q, h1, h2, h3, h4⟩
      · refine .inr ⟨p, List.mem_cons_self .., h, fun q hq => ?_, h2⟩
        rcases List.mem_cons.1 hq with rfl | hq
        · exact Int.le_refl _
        · exact h1 q hq
      · refine .inr ⟨q, List.mem_cons_of_mem _ h1, by omega, fun r hr => ?_, h4⟩
        rcases List.mem_cons.1 hr with rfl | hr
        · omega
        · exact h3 r hr
    · rename_i h
      rcases bestF_max l m s with ⟨h1, h2⟩ | ⟨q, h1, h2, h3, h4⟩
      · refine .inl ⟨fun q hq => ?_, h2⟩
        rcases List.mem_cons.1 hq with rfl | hq
        · omega
        · exact h1 q hq
      · refine .inr ⟨q, List.mem_cons_of_mem _ h1, h2, fun r hr => ?_, h4⟩
        rcases List.mem_cons.1 hr with rfl | hr
        · omega
        · exact h3 r hr

/-- what was told, who accepted what, who promised what: T b s, V x b s, P x k b s; whose wishes there were: Wi s -/
structure Ghost where
  T : Int → ByteArray → Prop
  V : Int → Int → ByteArray → Prop
  P : Int → Int → Int → ByteArray → Prop
  Wi : ByteArray → Prop
/-- one ghost goes on from another -/
structure Ghost.Le (g h : Ghost) : Prop where
  T : ∀ b s, g.T b s → h.T b s
  V : ∀ x b s, g.V x b s → h.V x b s
  P : ∀ x k b s, g.P x k b s → h.P x k b s
  Wi : ∀ s, g.Wi s → h.Wi s
theorem Ghost.Le.refl (g : Ghost) : g.Le g := ⟨fun _ _ h => h, fun _ _ _ h => h, fun _ _ _ _ h => h, fun _ h => h⟩
theorem Ghost.Le.trans {a b c : Ghost} (h : a.Le b) (k : b.Le c) : a.Le c := ⟨fun x y z => k.T x y (h.T x y z), fun x y z u => k.V x y z (h.V x y z u), fun x y z u v => k.P x y z u (h.P x y z u v), fun x y => k.Wi x (h.Wi x y)⟩
/-- the ballots of node i that are in use are not above what its vote promised -/
def Begun (vs : List Vt) (b : Int) : Prop := ∀ (i : Nat) v, vs[i]? = some v → b % 8 = i → b ≤ v.p
structure MailOk (g : Ghost) (vs : List Vt) (m : Ml) : Prop where
  m1 : m.k = 1 → Begun vs m.b
  m2 : m.k = 2 → g.P m.f m.b m.p m.v
  m3 : m.k = 3 → g.T m.b m.v
  m4 : m.k = 4 → ∃ s, g.V m.f m.b s
structure TryOk (g : Ghost) (vs : List Vt) (t : AM.At) : Prop where
  beg : Begun vs t.ba
  wi : g.Wi t.wi
  ps : ∀ p ∈ t.ps, g.P p.n t.ba p.b p.v
  ask : t.ph = 1 → ∀ s, ¬ g.T t.ba s
  told : 2 ≤ t.ph → g.T t.ba t.va ∧ ∀ x ∈ t.ac, g.V x t.ba t.va
structure Inv (g : Ghost) (w : Wd) : Prop where
  t1 : ∀ b s s', g.T b s → g.T b s' → s = s'
  tg : ∀ b s, g.T b s → BM.good b
  tq : ∀ b s, g.T b s → ∃ l wi, AM.most w.ms (AM.nodes l) = true ∧ (∀ p ∈ l, g.P p.n b p.b p.v ∧ p.b < b) ∧ s = AM.best l wi ∧ g.Wi wi
  tb : ∀ b s, g.T b s → Begun w.vs b
  tv : ∀ x b s, g.V x b s → g.T b s
  pn : ∀ x k b s, g.P x k b s → isNode x
  pb : ∀ x k b s, g.P x k b s → Begun w.vs k
  vv : ∀ (i : Nat) v, w.vs[i]? = some v → (∀ b s, g.V i b s → b ≤ v.b) ∧ (v.b ≠ 0 → g.V i v.b v.v)
  pp : ∀ (i : Nat) v, w.vs[i]? = some v → ∀ k b s, g.P i k b s → k ≤ v.p ∧ (∀ b' s', g.V i b' s' → b' < k → b' ≤ b) ∧ (b ≠ 0 → g.V i b s)
  at_ : ∀ (i : Nat) t, w.ts[i]? = some t → t.ph ≠ 0 → TryOk g w.vs t
  mo : ∀ m ∈ w.ml, MailOk g w.vs m
  ch : ∀ c ∈ w.ch, ∃ b ns, AM.most w.ms ns = true ∧ ∀ x ∈ ns, g.V x b c.v

-- what follows
theorem most_some {ms ns : List Int} (h : AM.most ms ns = true) : ∃ x ∈ ms, x ∈ ns := by
  unfold AM.most at h
  have h' : ms.length / 2 + 1 ≤ QM.cnt ms ns := by simpa using h
  obtain ⟨x, hx, h1, _⟩ := QM.meet h' h'
  exact ⟨x, hx, AM.has_iff.1 h1⟩
theorem most_meet {ms a b : List Int} (ha : AM.most ms a = true) (hb : AM.most ms b = true) : ∃ x ∈ ms, x ∈ a ∧ x ∈ b := by
  unfold AM.most at ha hb
  obtain ⟨x, hx, h1, h2⟩ := QM.meet (show ms.length / 2 + 1 ≤ QM.cnt ms a by simpa using ha) (show ms.length / 2 + 1 ≤ QM.cnt ms b by simpa using hb)
  exact ⟨x, hx, AM.has_iff.1 h1, AM.has_iff.1 h2⟩
theorem vote_at {w : Wd} (h : May0 w) {n : Int} (hn : isNode n) : ∃ (i : Nat) (v : Vt), (i : Int) = n ∧ i = n.toNat ∧ w.vs[i]? = some v ∧ v = getV w n ∧ VM.may v.p v.b v.v :=
  ⟨n.toNat, getV w n, (node_nat hn).1, rfl, getV_at h.vl hn, rfl, h.vote hn⟩
/-- behind a choice whatever is told is that value -/
theorem safe {g : Ghost} {w : Wd} (I : Inv g w) (h : May0 w) {b : Int} {s : ByteArray} {ns : List Int} (hm : AM.most w.ms ns = true) (hv : ∀ x ∈ ns, g.V x b s) :
    ∀ (k : Nat) (b' : Int) (s' : ByteArray), b' = b + k → g.T b' s' → s' = s := by
  intro k
  induction k using Nat.strongRecOn with
  | _ k ih =>
    intro b' s' hb ht
    obtain ⟨x0, hx0, hx0'⟩ := most_some hm
    have htb := I.tv _ _ _ (hv x0 hx0')
    by_cases hk : k = 0
    · subst hk
      have : b' = b := by omega
      subst this
      exact I.t1 _ _ _ ht htb
    · obtain ⟨l, wi, hl, hp, hs, hw⟩ := I.tq _ _ ht
      obtain ⟨x, hx, hx1, hx2⟩ := most_meet hl hm
      unfold AM.nodes at hx1
      obtain ⟨p, hpl, rfl⟩ := List.mem_map.1 hx1
      obtain ⟨hpp, hlt⟩ := hp p hpl
      obtain ⟨i, v, hi, _, hvi, _, _⟩ := vote_at h (member_node h.ms hx)
      have hpp' := hpp
      rw [← hi] at hpp'
      obtain ⟨_, q2, _⟩ := I.pp i v hvi _ _ _ hpp'
      have hVx := hv _ hx2
      rw [← hi] at hVx
      have hle : b ≤ p.b := q2 b s hVx (by omega)
      have hg := I.tg _ _ htb
      unfold BM.good at hg
      rcases bestF_max l 0 wi with ⟨h1, _⟩ | ⟨q, hq, h1, h2, h3⟩
      · have := h1 p hpl; omega
      · obtain ⟨hqp, hqlt⟩ := hp q hq
        have hqb : b ≤ q.b := by have := h2 p hpl; omega
        obtain ⟨i', v', hi', _, hvi', _, _⟩ := vote_at h (I.pn _ _ _ _ hqp)
        have hqp' := hqp
        rw [← hi'] at hqp'
        obtain ⟨_, _, q3⟩ := I.pp i' v' hvi' _ _ _ hqp'
        have hTq := I.tv _ _ _ (q3 (by omega))
        have he : s' = q.v := hs.trans h3
        rw [he]
        exact ih (q.b - b).toNat (by omega) q.b q.v (by omega) hTq
theorem safe_le {g : Ghost} {w : Wd} (I : Inv g w) (h : May0 w) {b b' : Int} {s s' : ByteArray} {ns : List Int} (hm : AM.most w.ms ns = true) (hv : ∀ x ∈ ns, g.V x b s) (hb : b ≤ b') (ht : g.T b' s') : s' = s :=
  safe I h hm hv (b' - b).toNat b' s' (by omega) ht
/-- all that is found chosen is one value -/
theorem one_value {g : Ghost} {w : Wd} (I : Inv g w) (h : May0 w) {c d : Ch} (hc : c ∈ w.ch) (hd : d ∈ w.ch) : c.v = d.v := by
  obtain ⟨b1, n1, m1, v1⟩ := I.ch c hc
  obtain ⟨b2, n2, m2, v2⟩ := I.ch d hd
  obtain ⟨x1, _, hx1⟩ := most_some m1
  obtain ⟨x2, _, hx2⟩ := most_some m2
  rcases Int.le_total b1 b2 with hle | hle
  · exact (safe_le I h m1 v1 hle (I.tv _ _ _ (v2 x2 hx2))).symm
  · exact safe_le I h m2 v2 hle (I.tv _ _ _ (v1 x1 hx1))
/-- what is told was somebody's wish -/
theorem told_wish {g : Ghost} {w : Wd} (I : Inv g w) (h : May0 w) : ∀ (k : Nat) (b : Int) (s : ByteArray), b.toNat = k → g.T b s → g.Wi s := by
  intro k
  induction k using Nat.strongRecOn with
  | _ k ih =>
    intro b s hb ht
    have hg := I.tg _ _ ht
    unfold BM.good at hg
    obtain ⟨l, wi, hl, hp, hs, hw⟩ := I.tq _ _ ht
    rcases bestF_max l 0 wi with ⟨_, h2⟩ | ⟨q, hq, h1, h2, h3⟩
    · rw [hs]
      show g.Wi (AM.bestF 0 wi l)
      rw [h2]; exact hw
    · obtain ⟨hqp, hqlt⟩ := hp q hq
      obtain ⟨i', v', hi', _, hvi', _, _⟩ := vote_at h (I.pn _ _ _ _ hqp)
      have hqp' := hqp
      rw [← hi'] at hqp'
      obtain ⟨_, _, q3⟩ := I.pp i' v' hvi' _ _ _ hqp'
      have hTq := I.tv _ _ _ (q3 (by omega))
      have he : s = q.v := hs.trans h3
      rw [he]
      exact ih q.b.toNat (by omega) q.b q.v rfl hTq
theorem chosen_wish {g : Ghost} {w : Wd} (I : Inv g w) (h : May0 w) {c : Ch} (hc : c ∈ w.ch) : g.Wi c.v := by
  obtain ⟨b1, n1, m1, v1⟩ := I.ch c hc
  obtain ⟨x1, _, hx1⟩ := most_some m1
  exact told_wish I h _ _ _ rfl (I.tv _ _ _ (v1 x1 hx1))
end Go.Proofs.Ytiiobafcgdelmaa.DC
