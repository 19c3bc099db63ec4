/-
  The walk of SkeenAll (towncrierlaw15). Conditions: any clock, any numbers.
-/
import Derived.Test.YtnpgjcapekopnaaK17
import Derived.Test.YtnpgjcapekopnaaK21
import Derived.Test.YtnpgjcapekopnaaK22
import Derived.Test.YtnpgjcapekopnaaK23
namespace Go.Proofs.Ytnpgjcapekopnaa.KP
open Go.RowKit CP TP
open CM (Mg Cm)
open TM (Sp)
open KM (Wt Sk)
set_option linter.unusedVariables false
set_option linter.unusedSimpArgs false
set_option maxRecDepth 100000
set_option maxHeartbeats 32000000 in
theorem skeenAll_walk (v : Value) (x : Sk) (A2 : Option Addr) (n2 c2 : Nat) (zs : List Int) (w : World) (hx : SkArg w v x) (hz : IsRow .i64 w A2 n2 c2 zs) :
    Calls Try.prog 5 #[v, .slice A2 n2 c2] w fun e w' => e = .returned (.bool true) ∧ Below w.heap.size w w' := by
  obtain ⟨hs, hf⟩ := hx
  have PA := papply15
  have KG := Lib.hid (fun W (hb : Below w.heap.size w W) => rgreat15_any v x W (hs.below hb) hf)
  have KT := Lib.hid (fun (h1 : x.ws.length ≤ 4096) (h2 : x.ds.length ≤ 4096) W (hb : Below w.heap.size w W) => ptwin15_any v x W (hs.below hb) h1 h2 (fun y hy => (hf.2.1 y hy).2))
  have KH := Lib.hid (fun W (hb : Below w.heap.size w W) => pcheck15_any v x W (hs.below hb) hf)
  have HSX := Lib.hid hs
  have HRD := Lib.hid (fun W (hb : Below w.heap.size w W) => hz.ints.below hb)
  have hl2 := hz.len_le
  have hn63 : n2 ≤ 9223372036854775807 := by have := hl2.2.1; unfold maxLen at this; omega
  obtain ⟨ys, hys⟩ : ∃ ys, ys = zs.take n2 := ⟨_, rfl⟩
  have HYL := Lib.hid (show ys.length = n2 by rw [hys, List.length_take]; omega)
  rw [← hys] at HRD
  obtain ⟨A, ca, B, cb, rfl, r1, d1⟩ := hs
  obtain ⟨n, hna⟩ : ∃ n, n = x.ws.length := ⟨_, rfl⟩
  obtain ⟨m, hmb⟩ : ∃ m, m = x.ds.length := ⟨_, rfl⟩
  have HNA := Lib.hid hna
  have HMB := Lib.hid hmb
  unfold vsk at KG KT KH HSX ⊢
  rw [← hna, ← hmb] at KG KH HSX ⊢
  have KT2 := Lib.hid (fun (h1 : n ≤ 4096) (h2 : m ≤ 4096) W (hb : Below w.heap.size w W) => show Calls Try.prog 15 #[.agg #[.int .i64 x.c, .slice A n ca, .slice B m cb]] W (SkNew x W) from by rw [hna, hmb]; exact KT.out (by omega) (by omega) W hb)
  clear hf hz hl2 hys hna hmb r1 d1 KT
  have HB := Lib.hid (show Below w.heap.size w (w.alloc (.cells #[.int .i64 x.c, .slice A n ca, .slice B m cb] 25)) from (Below.refl _ _).alloc (Nat.le_refl _) _)
  have X := Lib.hid (Box.new w 25 #[.int .i64 x.c, .slice A n ca, .slice B m cb])
  go_enter Try.func5, Try.ntmps5
  go_upto_region 1 with (fail)
  generalize w.alloc (.cells #[.int .i64 x.c, .slice A n ca, .slice B m cb] 25) = w1 at HB X ⊢
  obtain ⟨p2, hp2⟩ : ∃ p2, w.heap.size = p2 := ⟨_, rfl⟩
  rw [hp2] at X
  simp only [hp2]
  have HP2 := Lib.hid hp2
  clear hp2
  go_wp2_with fail
  refine (alive15_any PA pnew15_any w1).mono ?_
  rintro e w2 ⟨rfl, hb⟩
  replace HB := Lib.hid (bmore HB.out hb (Nat.le_refl _))
  replace X := Lib.hid (X.out.below hb X.out.lt)
  clear hb
  obtain ⟨x0, x1, x2⟩ := box_sk X.out
  go_wp2_with fail
  refine (KG.out _ HB.out).mono ?_
  rintro e w3 ⟨b1, rfl, hfew, hb⟩
  replace HB := Lib.hid (bmore HB.out hb (Nat.le_refl _))
  replace X := Lib.hid (X.out.below hb X.out.lt)
  have HFEW := Lib.hid hfew
  clear hb hfew x0 x1 x2 KG
  rcases b1 with _ | _
  rotate_left
  · go_wp2_with fail
    go_ret
    exact ⟨rfl, HB.out⟩
  have HF := Lib.hid (HFEW.out rfl)
  obtain ⟨x0, x1, x2⟩ := box_sk X.out
  have KH1 := Lib.hid (KH.out _ HB.out)
  go_wp2_with fail
  by_cases hmay : KM.may x
  rotate_left
  · rw [if_neg hmay] at KH1
    clear hmay
    refine (KH1.out).mono ?_
    rintro e w4 ⟨rfl, hb⟩
    replace HB := Lib.hid (bmore HB.out hb (Nat.le_refl _))
    clear hb x0 x1 x2 KH1
    go_wp2_with fail
    go_ret
    exact ⟨rfl, HB.out⟩
  rw [if_pos hmay] at KH1
  have HMAY := Lib.hid hmay
  clear hmay
  refine (KH1.out).mono ?_
  rintro e w4 ⟨rfl, hb⟩
  replace HB := Lib.hid (bmore HB.out hb (Nat.le_refl _))
  replace X := Lib.hid (X.out.below hb X.out.lt)
  clear hb x0 x1 x2 KH1 HFEW KH
  obtain ⟨x0, x1, x2⟩ := box_sk X.out
  have hn300 : n ≤ 300 := by have := HF.out.1; have := HNA.out; omega
  have hm300 : m ≤ 300 := by have := HF.out.2; have := HMB.out; omega
  have hwm : IntKind.i64.wrap ((n : Int) + (m : Int)) = ((n + m : Nat) : Int) := by rw [IntKind.wrap_i64]; omega
  go_wp2_with fail
  refine (KT2.out (by omega) (by omega) _ HB.out).mono ?_
  rintro e w5 ⟨v5, rfl, ⟨vW5, vD5, rfl, hk1, hk2⟩, hb⟩
  have hgw := hk1.g
  rw [← HNA.out] at hgw
  obtain ⟨A7, c7, rfl, _⟩ := hgw
  clear x0 x1 x2 KT2
  have hfd : ∀ W, (Instr.field 25 (vsk x.c (.slice A7 n c7) vD5) 1).run Try.prog W = .ok (.slice A7 n c7) W := fun W => by
    obtain ⟨B5, d5, rfl, _, _⟩ := own_form hk2
    kernel_rfl
  have hst : AlR w p2 x x A7 n c7 0 w5 := by
    have h1 := X.out.lt
    have h3 := HB.out.size
    have h4 := HP2.out
    refine ⟨bmore HB.out hb (Nat.le_refl _), by omega, ⟨A, ca, B, cb, ?_, .inl ?_⟩, KO.mono hk1 h3, allI_start HMAY.out⟩
    · have h5 := X.out.below hb h1
      rw [HNA.out, HMB.out] at h5
      exact h5
    · have h6 := HSX.out
      rw [HNA.out, HMB.out] at h6
      exact h6
  have HT := Lib.hid hst
  clear hst hk1 hk2 hb HB X HSX hwm
  unfold vsk at hfd ⊢
  go_wp2_with fail
  clear hfd
  go_loopw [8] (fun u8 wr => ∃ (k : Nat) (st : Sk), k ≤ n ∧ u8 = .int .i64 k ∧ Hid (AlR w p2 x st A7 n c7 k wr)) (fun u _ => n - (intOf u).toNat)
  case atStart => exact ⟨0, x, by omega, rfl, HT⟩
  case round =>
    clear HT
    obtain ⟨k, st, hk, rfl, HT⟩ := hrel
    by_cases hlt : k < n
    · obtain ⟨y, hy⟩ : ∃ y, x.ws[k]? = some y := ⟨_, List.getElem?_eq_getElem (by have := HNA.out; omega)⟩
      have HY := Lib.hid hy
      obtain ⟨q, rfl⟩ := HT.out.ws.some hy
      obtain ⟨Q7, q7, hat, _, _⟩ := wtc_store HT.out.ws hy
      have HYM := Lib.hid (HMAY.out.2.2.1.1 y (List.mem_of_getElem? hy))
      have HSK := Lib.hid (fun (h : y.f = true) => allI_skip HT.out.inv hy h)
      have HNX := Lib.hid (fun t (h : y.f = false) (ht : y.t ≤ t) (hok : (KM.applyF st 0 (finC y.m.id t)).2.2 = 0) => allI_next HMAY.out HT.out.inv hy h ht hok)
      have HNO := Lib.hid (fun t (h : y.f = false) (ht : y.t ≤ t) (hno : (KM.applyF st 0 (finC y.m.id t)).2.2 ≠ 0) => allI_no HT.out.inv hy h ht hno)
      have HAT := Lib.hid hat
      have hk0 : (0 : Int) ≤ (k : Int) := by omega
      have hkn : (k : Int) < (n : Int) := by omega
      have hyt : 1 ≤ y.t ∧ y.t ≤ 1073741824 := by have h1 := HYM.out.2.1; have h2 := HMAY.out.1.2.1; omega
      have hyi : i64In y.m.id := by have h1 := HYM.out.1.1; unfold CM.idOk at h1; unfold i64In; omega
      have HYI := Lib.hid hyi
      clear hy hat hyi
      obtain ⟨⟨yi, yg, yt, yk, yb⟩, ym, yf⟩ := y
      simp only at hyt HSK HNX HNO HYI
      obtain ⟨a0, a1, a2, a3, a4, a5, a6⟩ := HAT.out
      simp only at a0 a1 a2 a3 a4 a5 a6
      rcases yf with _ | _
      rotate_left
      · have NX := Lib.hid (show AlR w p2 x st (some ⟨q, 0, none⟩) n c7 (k + 1) wr from ⟨HT.out.bl, HT.out.lo, HT.out.v2, HT.out.ws, HSK.out rfl⟩)
        go_wp2_with fail
        go_roundw
        case rel => exact ⟨k + 1, st, by omega, by go_num, NX⟩
        case measure => simp [intOf]; omega
      go_upto_region 13 with (fail)
      go_cut [67] (fun u67 wx => ∃ b : Bool, u67 = .bool b ∧ (b = true → ∃ z, ys[k]? = some z ∧ 0 < z ∧ z < 1000) ∧ wx = wr)
      case first =>
        by_cases hk2 : k < n2
        rotate_left
        · have hk3 : ¬ ((k : Int) < (n2 : Int)) := by omega
          go_wp2_with fail
          go_meet
          case rel => exact ⟨false, rfl, (fun h => by cases h), rfl⟩
        · obtain ⟨z, hz⟩ : ∃ z, ys[k]? = some z := ⟨_, List.getElem?_eq_getElem (by have := HYL.out; omega)⟩
          obtain ⟨ad, uu, rfl, _, hu, hcell⟩ := (HRD.out _ HT.out.bl).at_ hk2
          rw [show (ic ys)[k]? = some (.int .i64 z) by unfold ic; rw [List.getElem?_map, hz]; rfl] at hu
          injection hu with hu
          subst hu
          have hk3 : (k : Int) < (n2 : Int) := by omega
          have HZ := Lib.hid hz
          clear hz
          by_cases hz1 : 0 < z
          rotate_left
          · go_wp2_with fail
            go_meet
            case rel => exact ⟨false, by first | rfl | simp, (fun h => by cases h), rfl⟩
          by_cases hz2 : z < 1000
          rotate_left
          · go_wp2_with fail
            go_meet
            case rel => exact ⟨false, by first | rfl | simp, (fun h => by cases h), rfl⟩
          go_wp2_with fail
          go_meet
          case rel => exact ⟨true, by first | rfl | simp, fun _ => ⟨z, HZ.out, hz1, hz2⟩, rfl⟩
      case rest =>
      obtain ⟨b67, rfl, hb67, hwc⟩ := hcut
      rw [hwc]
      clear hwc wc
      have HB67 := Lib.hid hb67
      clear hb67
      go_upto_if 67 with (fail)
      go_cut [9] (fun u9 wx => ∃ tm : Int, u9 = .int .i64 tm ∧ ym ≤ tm ∧ tm ≤ ym + 1000 ∧ wx = wr)
      case first =>
        rcases b67 with _ | _
        · go_wp2_with fail
          go_meet
          case rel => exact ⟨ym, rfl, by omega, by omega, rfl⟩
        · obtain ⟨z, hz, hz1, hz2⟩ := HB67.out (by first | rfl | trivial)
          have hk2 : k < n2 := by have h1 := (List.getElem?_eq_some_iff.1 hz).1; have := HYL.out; omega
          obtain ⟨ad, uu, rfl, _, hu, hcell⟩ := (HRD.out _ HT.out.bl).at_ hk2
          rw [show (ic ys)[k]? = some (.int .i64 z) by unfold ic; rw [List.getElem?_map, hz]; rfl] at hu
          injection hu with hu
          subst hu
          have hk3 : (k : Int) < (n2 : Int) := by omega
          have hw5 : IntKind.i64.wrap (ym + z) = ym + z := by rw [IntKind.wrap_i64]; omega
          clear hz
          go_wp2_with fail
          go_meet
          case rel => exact ⟨ym + z, rfl, by omega, by omega, rfl⟩
      case rest =>
        obtain ⟨tm, rfl, ht1, ht2, hwc⟩ := hcut
        rw [hwc]
        clear hwc wc
        obtain ⟨S, hS⟩ : ∃ S, S = KM.applyF st 0 (finC yi tm) := ⟨_, rfl⟩
        have HSE := Lib.hid hS
        have HNX2 := Lib.hid (HNX.out tm rfl ht1)
        have HNO2 := Lib.hid (HNO.out tm rfl ht1)
        rw [← hS] at HNX2 HNO2
        obtain ⟨A5, c5, B5, d5, hbx, hcur⟩ := HT.out.v2
        have HFIT := Lib.hid (fit_may HT.out.inv.1)
        have HTM := Lib.hid (show i64In tm by unfold i64In; omega)
        have KA := Lib.hid (fun W (hb : Below wr.heap.size wr W) A1 c1 P1 d1 (r1 : RowIs W A1 c1 []) (r2 : RowIs W P1 d1 []) => PA (vsk st.c (.slice A5 st.ws.length c5) (.slice B5 st.ds.length d5)) st 0 (.agg (ccells A1 c1 P1 d1 (finC yi tm))) (finC yi tm) W ((hcur.is HT.out.bl).below hb) HFIT.out ⟨A1, c1, P1, d1, rfl, r1, r2⟩ (fit_finC HYI.out HTM.out) (Nat.zero_le _))
        rw [← hS] at KA
        have KF := Lib.hid (fun W => final15_any yi tm W)
        have HBX := Lib.hid hbx
        clear hcur hS HNX HNO
        unfold vsk at KA
        obtain ⟨x0, x1, x2⟩ := box_sk hbx
        clear hbx
        go_upto_region 15 with (fail)
        go_cut [10, 11, 12] (fun u9 u10 u11 wx => AfMid wr S u9 u10 u11 wx)
        case first =>
          have HSS := Lib.hid (fun (w' : World) (h : Below wr.heap.size wr w') => show w'.cell? ⟨p2, 0, none⟩ = some (.int .i64 st.c) ∧ w'.cell? ⟨p2, 1, none⟩ = some (.slice A5 st.ws.length c5) ∧ w'.cell? ⟨p2, 2, none⟩ = some (.slice B5 st.ds.length d5) ∧ w'.cell? ⟨q, k * 7, none⟩ = some (.int .i64 yi) from
            ⟨(h.cell (cell_block x0)).trans x0, (h.cell (cell_block x1)).trans x1, (h.cell (cell_block x2)).trans x2, (h.cell (cell_block a0)).trans a0⟩)
          have bb1 : Below wr.heap.size wr wr.drew := (Below.refl _ _).drew
          obtain ⟨ud, hud⟩ : ∃ ud, ud = wr.drew := ⟨_, rfl⟩
          refine wp_region_held_drew (S := fun w' => w'.cell? ⟨p2, 0, none⟩ = some (.int .i64 st.c) ∧ w'.cell? ⟨p2, 1, none⟩ = some (.slice A5 st.ws.length c5) ∧ w'.cell? ⟨p2, 2, none⟩ = some (.slice B5 st.ds.length d5) ∧ w'.cell? ⟨q, k * 7, none⟩ = some (.int .i64 yi)) (by kernel_rfl) (HSS.out _ bb1) (fun hHeld => ?_)
          rw [← hud] at bb1 hHeld ⊢
          clear hud
          refine qT 0 ?_; try simp only [Act.put, qq]
          refine qT 1 ?_; try simp only [Act.put, qq]
          refine qT 2 ?_; try simp only [Act.put, qq]
          refine qT 3 ?_; try simp only [Act.put, qq]
          refine qT 4 ?_; try simp only [Act.put, qq]
          refine qT 5 ?_; try simp only [Act.put, qq]
          refine qT 6 ?_; try simp only [Act.put, qq]
          refine qT 7 ?_; try simp only [Act.put, qq]
          refine wpAnyH_ready (rs := [8, 14]) (by kernel_rfl) (by simp) ?_
          refine AllReadyH.cons rfl (fun K hK => ?_) (AllReadyH.cons rfl (fun K hK => ?_) AllReadyH.nil)
          · go_simp
            refine (KF.out ud).mono ?_
            rintro e w6 ⟨v4, rfl, ⟨A1, c1, P1, d1, rfl, r1, r2⟩, hb4⟩
            have HR1 := Lib.hid (show RowIs w6 A1 c1 [] from r1)
            have HR2 := Lib.hid (show RowIs w6 P1 d1 [] from r2)
            have bb2 := bmore bb1 hb4 (Nat.le_refl _)
            clear hb4 r1 r2
            refine hK.out _ _ (HSS.out _ bb2) (fun hHeld => ?_)
            clear hK
            try simp only [Act.put, qq]
            refine wpAnyH_ready (rs := [9, 14]) (by kernel_rfl) (by simp) ?_
            refine AllReadyH.cons rfl (fun K hK => ?_) (AllReadyH.cons rfl (fun K hK => ?_) AllReadyH.nil)
            · go_simp
              refine (KA.out w6 bb2 A1 c1 P1 d1 HR1.out HR2.out).mono ?_
              rintro e w7 ⟨v6, vm6, rfl, hso6, hkm6, hb6⟩
              obtain ⟨vW6, vD6, rfl, hk1, hk2⟩ := hso6
              obtain ⟨A6, c6, rfl, _⟩ := hk1.g
              obtain ⟨B6, d6, rfl, _, _⟩ := own_form hk2
              obtain ⟨E6, f6, rfl, _⟩ := hkm6.g
              unfold vsk
              have HT5 := Lib.hid (show wr.heap.size ≤ w6.heap.size from bb2.size)
              have bb3 := bmore bb2 hb6 (Nat.le_refl _)
              have HK1 := Lib.hid (hk1.mono HT5.out)
              have HK2 := Lib.hid (own_base hk2 HT5.out)
              have HK3 := Lib.hid (hkm6.mono HT5.out)
              clear hk1 hk2 hkm6 hb6
              refine hK.out _ _ (HSS.out _ bb3) (fun hHeld => ?_)
              clear hK
              try simp only [Act.put, qq]
              refine qT 10 ?_; try simp only [Act.put, qq]
              refine qT 11 ?_; try simp only [Act.put, qq]
              refine qT 12 ?_; try simp only [Act.put, qq]
              refine qT 13 ?_; try simp only [Act.put, qq]
              refine wpAnyH_ready (rs := [14]) (by kernel_rfl) (by simp) ?_
              refine AllReadyH.cons rfl (fun K hK => ?_) AllReadyH.nil
              go_simp
              have bb4 : Below wr.heap.size wr (w7.alloc (.cells #[.int .i64 0, .slice none 0 0, .slice none 0 0] 25)) := bmore bb3 ((Below.refl _ _).alloc (Nat.le_refl _) _) (Nat.le_refl _)
              have V := Lib.hid (Box.new w7 25 #[.int .i64 0, .slice none 0 0, .slice none 0 0])
              have HVW := Lib.hid (show Below w7.heap.size w7 (w7.alloc (.cells #[.int .i64 0, .slice none 0 0, .slice none 0 0] 25)) from (Below.refl _ _).alloc (Nat.le_refl _) _)
              have HV9 := Lib.hid (show wr.heap.size ≤ w7.heap.size from bb3.size)
              refine hK.out _ _ (HSS.out _ bb4) (fun hHeld => ?_)
              clear hK
              try simp only [Act.put, qq]
              generalize w7.alloc (.cells #[.int .i64 0, .slice none 0 0, .slice none 0 0] 25) = w8 at V HVW bb4 hHeld ⊢
              obtain ⟨p9, hp9⟩ : ∃ p9, w7.heap.size = p9 := ⟨_, rfl⟩
              rw [hp9] at V HV9
              simp only [hp9]
              clear hp9
              replace HK1 := Lib.hid (HK1.out.below HVW.out)
              replace HK2 := Lib.hid (own_below3 HK2.out HVW.out)
              replace HK3 := Lib.hid (HK3.out.below HVW.out)
              obtain ⟨q0, q1, q2, q3, q4, q5⟩ := V.out.three
              refine wpAnyH_ready (rs := [15]) (by kernel_rfl) (by simp) ?_
              refine AllReadyH.cons rfl (fun K hK => ?_) AllReadyH.nil
              go_simp
              have HKP := Lib.hid (kept_put3 V.out (.int .i64 S.1.c) (.slice A6 S.1.ws.length c6) (.slice B6 S.1.ds.length d6))
              have bbE := below_put3 bb4 HV9.out (.int .i64 S.1.c) (.slice A6 S.1.ws.length c6) (.slice B6 S.1.ds.length d6)
              refine hK.out _ _ (HSS.out _ bbE) (fun hHeld => ?_)
              clear hK
              try simp only [Act.put, qq]
              refine qT 16 ?_; try simp only [Act.put, qq]
              refine qT 17 ?_; try simp only [Act.put, qq]
              refine wpAnyH_done (by kernel_rfl) ?_ _
              go_wp2_with fail
              go_meet
              case rel => exact ⟨p9, A6, c6, B6, d6, E6, f6, rfl, rfl, rfl, HV9.out, Box.put3 V.out (.int .i64 S.1.c) (.slice A6 S.1.ws.length c6) (.slice B6 S.1.ds.length d6), KO.kept HKP.out (by decide) (by decide) HK1.out, HKP.out.own HK2.out (by decide), KO.kept HKP.out (by decide) (by decide) HK3.out, bbE⟩
            · go_simp
              have bb3 : Below wr.heap.size wr (w6.alloc (.cells #[.int .i64 0, .slice none 0 0, .slice none 0 0] 25)) := bmore bb2 ((Below.refl _ _).alloc (Nat.le_refl _) _) (Nat.le_refl _)
              have V := Lib.hid (Box.new w6 25 #[.int .i64 0, .slice none 0 0, .slice none 0 0])
              have HVW := Lib.hid (show Below w6.heap.size w6 (w6.alloc (.cells #[.int .i64 0, .slice none 0 0, .slice none 0 0] 25)) from (Below.refl _ _).alloc (Nat.le_refl _) _)
              have HV9 := Lib.hid (show wr.heap.size ≤ w6.heap.size from bb2.size)
              refine hK.out _ _ (HSS.out _ bb3) (fun hHeld => ?_)
              clear hK
              try simp only [Act.put, qq]
              generalize w6.alloc (.cells #[.int .i64 0, .slice none 0 0, .slice none 0 0] 25) = w7 at V HVW bb3 hHeld ⊢
              obtain ⟨p9, hp9⟩ : ∃ p9, w6.heap.size = p9 := ⟨_, rfl⟩
              rw [hp9] at V HV9
              simp only [hp9]
              clear hp9
              replace HR1 := Lib.hid (HR1.out.below HVW.out)
              replace HR2 := Lib.hid (HR2.out.below HVW.out)
              refine wpAnyH_ready (rs := [9]) (by kernel_rfl) (by simp) ?_
              refine AllReadyH.cons rfl (fun K hK => ?_) AllReadyH.nil
              go_simp
              refine (KA.out w7 bb3 A1 c1 P1 d1 HR1.out HR2.out).mono ?_
              rintro e w8 ⟨v6, vm6, rfl, hso6, hkm6, hb6⟩
              obtain ⟨vW6, vD6, rfl, hk1, hk2⟩ := hso6
              obtain ⟨A6, c6, rfl, _⟩ := hk1.g
              obtain ⟨B6, d6, rfl, _, _⟩ := own_form hk2
              obtain ⟨E6, f6, rfl, _⟩ := hkm6.g
              unfold vsk
              have HT5 := Lib.hid (show wr.heap.size ≤ w7.heap.size from bb3.size)
              have bb4 := bmore bb3 hb6 (Nat.le_refl _)
              have HK1 := Lib.hid (hk1.mono HT5.out)
              have HK2 := Lib.hid (own_base hk2 HT5.out)
              have HK3 := Lib.hid (hkm6.mono HT5.out)
              replace V := Lib.hid (V.out.below hb6 V.out.lt)
              clear hk1 hk2 hkm6 hb6
              refine hK.out _ _ (HSS.out _ bb4) (fun hHeld => ?_)
              clear hK
              try simp only [Act.put, qq]
              refine qT 10 ?_; try simp only [Act.put, qq]
              refine qT 11 ?_; try simp only [Act.put, qq]
              refine qT 12 ?_; try simp only [Act.put, qq]
              refine qT 13 ?_; try simp only [Act.put, qq]
              obtain ⟨q0, q1, q2, q3, q4, q5⟩ := V.out.three
              refine wpAnyH_ready (rs := [15]) (by kernel_rfl) (by simp) ?_
              refine AllReadyH.cons rfl (fun K hK => ?_) AllReadyH.nil
              go_simp
              have HKP := Lib.hid (kept_put3 V.out (.int .i64 S.1.c) (.slice A6 S.1.ws.length c6) (.slice B6 S.1.ds.length d6))
              have bbE := below_put3 bb4 HV9.out (.int .i64 S.1.c) (.slice A6 S.1.ws.length c6) (.slice B6 S.1.ds.length d6)
              refine hK.out _ _ (HSS.out _ bbE) (fun hHeld => ?_)
              clear hK
              try simp only [Act.put, qq]
              refine qT 16 ?_; try simp only [Act.put, qq]
              refine qT 17 ?_; try simp only [Act.put, qq]
              refine wpAnyH_done (by kernel_rfl) ?_ _
              go_wp2_with fail
              go_meet
              case rel => exact ⟨p9, A6, c6, B6, d6, E6, f6, rfl, rfl, rfl, HV9.out, Box.put3 V.out (.int .i64 S.1.c) (.slice A6 S.1.ws.length c6) (.slice B6 S.1.ds.length d6), KO.kept HKP.out (by decide) (by decide) HK1.out, HKP.out.own HK2.out (by decide), KO.kept HKP.out (by decide) (by decide) HK3.out, bbE⟩
          · go_simp
            have bb2 : Below wr.heap.size wr (ud.alloc (.cells #[.int .i64 0, .slice none 0 0, .slice none 0 0] 25)) := bmore bb1 ((Below.refl _ _).alloc (Nat.le_refl _) _) (Nat.le_refl _)
            have V := Lib.hid (Box.new ud 25 #[.int .i64 0, .slice none 0 0, .slice none 0 0])
            have HVW := Lib.hid (show Below ud.heap.size ud (ud.alloc (.cells #[.int .i64 0, .slice none 0 0, .slice none 0 0] 25)) from (Below.refl _ _).alloc (Nat.le_refl _) _)
            have HV9 := Lib.hid (show wr.heap.size ≤ ud.heap.size from bb1.size)
            refine hK.out _ _ (HSS.out _ bb2) (fun hHeld => ?_)
            clear hK
            try simp only [Act.put, qq]
            generalize ud.alloc (.cells #[.int .i64 0, .slice none 0 0, .slice none 0 0] 25) = w6 at V HVW bb2 hHeld ⊢
            obtain ⟨p9, hp9⟩ : ∃ p9, ud.heap.size = p9 := ⟨_, rfl⟩
            rw [hp9] at V HV9
            simp only [hp9]
            clear hp9
            refine wpAnyH_ready (rs := [8]) (by kernel_rfl) (by simp) ?_
            refine AllReadyH.cons rfl (fun K hK => ?_) AllReadyH.nil
            go_simp
            refine (KF.out w6).mono ?_
            rintro e w7 ⟨v4, rfl, ⟨A1, c1, P1, d1, rfl, r1, r2⟩, hb4⟩
            have HR1 := Lib.hid (show RowIs w7 A1 c1 [] from r1)
            have HR2 := Lib.hid (show RowIs w7 P1 d1 [] from r2)
            have bb3 := bmore bb2 hb4 (Nat.le_refl _)
            replace V := Lib.hid (V.out.below hb4 V.out.lt)
            clear hb4 r1 r2
            refine hK.out _ _ (HSS.out _ bb3) (fun hHeld => ?_)
            clear hK
            try simp only [Act.put, qq]
            refine wpAnyH_ready (rs := [9]) (by kernel_rfl) (by simp) ?_
            refine AllReadyH.cons rfl (fun K hK => ?_) AllReadyH.nil
            go_simp
            refine (KA.out w7 bb3 A1 c1 P1 d1 HR1.out HR2.out).mono ?_
            rintro e w8 ⟨v6, vm6, rfl, hso6, hkm6, hb6⟩
            obtain ⟨vW6, vD6, rfl, hk1, hk2⟩ := hso6
            obtain ⟨A6, c6, rfl, _⟩ := hk1.g
            obtain ⟨B6, d6, rfl, _, _⟩ := own_form hk2
            obtain ⟨E6, f6, rfl, _⟩ := hkm6.g
            unfold vsk
            have HT5 := Lib.hid (show wr.heap.size ≤ w7.heap.size from bb3.size)
            have bb4 := bmore bb3 hb6 (Nat.le_refl _)
            have HK1 := Lib.hid (hk1.mono HT5.out)
            have HK2 := Lib.hid (own_base hk2 HT5.out)
            have HK3 := Lib.hid (hkm6.mono HT5.out)
            replace V := Lib.hid (V.out.below hb6 V.out.lt)
            clear hk1 hk2 hkm6 hb6
            refine hK.out _ _ (HSS.out _ bb4) (fun hHeld => ?_)
            clear hK
            try simp only [Act.put, qq]
            refine qT 10 ?_; try simp only [Act.put, qq]
            refine qT 11 ?_; try simp only [Act.put, qq]
            refine qT 12 ?_; try simp only [Act.put, qq]
            refine qT 13 ?_; try simp only [Act.put, qq]
            obtain ⟨q0, q1, q2, q3, q4, q5⟩ := V.out.three
            refine wpAnyH_ready (rs := [15]) (by kernel_rfl) (by simp) ?_
            refine AllReadyH.cons rfl (fun K hK => ?_) AllReadyH.nil
            go_simp
            have HKP := Lib.hid (kept_put3 V.out (.int .i64 S.1.c) (.slice A6 S.1.ws.length c6) (.slice B6 S.1.ds.length d6))
            have bbE := below_put3 bb4 HV9.out (.int .i64 S.1.c) (.slice A6 S.1.ws.length c6) (.slice B6 S.1.ds.length d6)
            refine hK.out _ _ (HSS.out _ bbE) (fun hHeld => ?_)
            clear hK
            try simp only [Act.put, qq]
            refine qT 16 ?_; try simp only [Act.put, qq]
            refine qT 17 ?_; try simp only [Act.put, qq]
            refine wpAnyH_done (by kernel_rfl) ?_ _
            go_wp2_with fail
            go_meet
            case rel => exact ⟨p9, A6, c6, B6, d6, E6, f6, rfl, rfl, rfl, HV9.out, Box.put3 V.out (.int .i64 S.1.c) (.slice A6 S.1.ws.length c6) (.slice B6 S.1.ds.length d6), KO.kept HKP.out (by decide) (by decide) HK1.out, HKP.out.own HK2.out (by decide), KO.kept HKP.out (by decide) (by decide) HK3.out, bbE⟩
        case rest =>
          obtain ⟨p9, A6, c6, B6, d6, E6, f6, rfl, rfl, rfl, hp9, hbx9, hk1, hk2, hk3, hbe⟩ := hcut
          clear KA KF x0 x1 x2 a0 a1 a2 a3 a4 a5 a6
          generalize wc = wx at hbx9 hk1 hk2 hk3 hbe ⊢
          clear wc
          have HBE := Lib.hid hbe
          have HB9 := Lib.hid hbx9
          have HK1 := Lib.hid hk1
          have HK2 := Lib.hid hk2
          clear hbx9 hk1 hk2 hk3 hbe hp9
          obtain ⟨er, her⟩ : ∃ er, er = S.2.2 := ⟨_, rfl⟩
          rw [← her] at HNX2 HNO2 ⊢
          clear her
          by_cases h0 : er = 0
          rotate_left
          · have hno := HNO2.out h0
            have HBF := Lib.hid (bmore HT.out.bl HBE.out (Nat.le_refl _))
            have h1 : (er == 0) = false := by simpa using h0
            rw [← HNA.out, ← HMB.out] at hno
            clear HNX2 HNO2 h0
            by_cases h2 : 1073741824 < tm
            · go_wp2_with fail
              go_ret
              exact ⟨rfl, HBF.out⟩
            · have h3 : 200 < n + m := by omega
              have h4 : (200 : Int) < ((n + m : Nat) : Int) := by omega
              have h5 : decide (1073741824 < tm) = false := by simpa using h2
              go_wp2_with fail
              go_ret
              exact ⟨by first | rfl | (simp; omega) | simp, HBF.out⟩
          subst h0
          have HI := Lib.hid (HNX2.out rfl)
          have hbx5 := HBX.out.below HBE.out HBX.out.lt
          obtain ⟨t0, t1, t2, t3, t4, t5⟩ := hbx5.three
          obtain ⟨y0, y1, y2⟩ := box_sk HB9.out
          have NX := Lib.hid ((HT.out.below HBE.out).put (A := A6) (B := B6) (c := c6) (d := d6) HI.out HT.out.bl.size ⟨_, _, rfl, HK1.out, HK2.out⟩)
          clear hbx5
          go_wp2_with fail
          go_roundw
          case rel => exact ⟨k + 1, S.1, by omega, by go_num, NX⟩
          case measure => simp [intOf]; omega
    · have hlt0 : ¬ ((k : Int) < (n : Int)) := by omega
      obtain ⟨he, hd⟩ := allI_end HT.out.inv (by have := HNA.out; omega)
      obtain ⟨A5, c5, B5, d5, hbx, _⟩ := HT.out.v2
      rw [he, hd] at hbx
      rw [← HNA.out, ← HMB.out] at hbx
      simp only [List.length_nil] at hbx
      have HBL := Lib.hid HT.out.bl
      obtain ⟨x0, x1, x2⟩ := box_sk hbx
      clear he hd hbx HT
      go_wp2_with fail
      go_ret
      exact ⟨by first | rfl | simp, HBL.out⟩
end Go.Proofs.Ytnpgjcapekopnaa.KP
namespace Go.Proofs.Ytnpgjcapekopnaa
open Go.RowKit
theorem skeenAll_walk (v : Value) (x : KM.Sk) (A2 : Option Addr) (n2 c2 : Nat) (zs : List Int) (w : World) (hx : KP.SkArg w v x) (hz : IsRow .i64 w A2 n2 c2 zs) :
    Calls Try.prog 5 #[v, .slice A2 n2 c2] w fun e w' => e = .returned (.bool true) ∧ Below w.heap.size w w' := KP.skeenAll_walk v x A2 n2 c2 zs w hx hz
end Go.Proofs.Ytnpgjcapekopnaa
