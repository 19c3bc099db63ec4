/-
  The walk of OrderBegins. Conditions: as the walk says.
-/
import Derived.Test.YteebeiaokfenmaaGreatK50
import Derived.Test.YteebeiaokfenmaaGreatK01
import Derived.Test.YteebeiaokfenmaaGreatK52
import Derived.Test.YteebeiaokfenmaaGreatK53
namespace Go.Proofs.YteebeiaokfenmaaGreat.KP
open Go.RowKit CP TP LP SP
open CM (Mg Cm)
open TM (Sp)
open KM (Wt Sk)
set_option linter.unusedVariables false
set_option linter.unusedSimpArgs false
set_option maxRecDepth 100000
set_option maxHeartbeats 16000000 in
theorem orderBegins_walk0 (g : Int) (A : Option Addr) (n c : Nat) (z : List ByteArray) (many : Int) (w : World) (h : TxIs w A n c z) :
    Calls Tryz.prog 7 #[.int .i64 g, .slice A n c, .int .i64 many] w fun e w' => e = .returned (.bool true) ∧ Below w.heap.size w w' := by
  have hzl := h.len
  have hnc := h.2.1
  have hc63 : c ≤ 9223372036854775807 := by have := h.2.2.1; unfold maxLen at this; omega
  have H := Lib.hid (fun W (hb : Below w.heap.size w W) => h.below hb)
  have HS := Lib.hid h.2.2.2
  have HZL := Lib.hid hzl
  clear h hzl
  go_enter Tryz.func7, Tryz.ntmps7
  go_wp2_with fail
  refine (alive16_any _).mono ?_
  rintro e w1 ⟨rfl, hb1⟩
  have HB1 := Lib.hid hb1
  have HG := Lib.hid (OP.great16_any _ 1 1 [z] _ (logs_one (H.out w1 hb1)) (fun l hl s hs => by rw [List.mem_singleton] at hl; subst hl; exact HS.out s hs))
  have hal : Below w1.heap.size w1 (w1.alloc (.cells #[.slice A n c] 26)) := (Below.refl _ _).alloc (Nat.le_refl _) _
  have HBA := Lib.hid (bmore hb1 hal (Nat.le_refl _))
  clear hb1 hal
  go_wp2_with fail
  refine (HG.out).mono ?_
  rintro e w2 ⟨bg, rfl, _, hb⟩
  have HB2 := Lib.hid (bmore HBA.out hb (Nat.le_refl _))
  clear hb HG HBA HB1
  rcases bg with _ | _
  rotate_left
  · go_wp2_with fail
    go_ret
    exact ⟨rfl, HB2.out⟩
  by_cases hm0 : many < 0
  · go_wp2_with fail
    go_ret
    exact ⟨rfl, HB2.out⟩
  obtain ⟨k, rfl⟩ : ∃ k : Nat, many = (k : Int) := ⟨many.toNat, by omega⟩
  by_cases hmn : (n : Int) < (k : Int)
  · go_wp2_with fail
    go_ret
    exact ⟨rfl, HB2.out⟩
  have hk : k ≤ n := by omega
  have hk0 : (0 : Int) ≤ (k : Int) := by omega
  have hkc : (k : Int) ≤ (c : Int) := by omega
  have hkc2 : k ≤ c := by omega
  have KP1 := Lib.hid (fun W (hb : Below w.heap.size w W) => pplay16_any g A n c z W (H.out W hb))
  have KP2 := Lib.hid (fun W (hb : Below w.heap.size w W) => pplay16_any g A k c (z.take k) W (tx_cut (H.out W hb) hk))
  have KL1 := Lib.hid (fun W (hb : Below w.heap.size w W) => plocal16_any g A n c z W (H.out W hb))
  have KL2 := Lib.hid (fun W (hb : Below w.heap.size w W) => plocal16_any g A k c (z.take k) W (tx_cut (H.out W hb) hk))
  have HAT := Lib.hid (fun h0 => asked_take (g := g) (l := z) h0 k)
  have HBG := Lib.hid (fun h0 => begin_all (g := g) (l := z) h0 k)
  have HE1 := Lib.hid (playR_err g z)
  have HE2 := Lib.hid (playR_err g (z.take k))
  obtain ⟨R1, hR1⟩ : ∃ R1, R1 = playR g z := ⟨_, rfl⟩
  obtain ⟨R2, hR2⟩ : ∃ R2, R2 = playR g (z.take k) := ⟨_, rfl⟩
  obtain ⟨L1, hL1⟩ : ∃ L1, L1 = locS g z := ⟨_, rfl⟩
  obtain ⟨L2, hL2⟩ : ∃ L2, L2 = locS g (z.take k) := ⟨_, rfl⟩
  obtain ⟨r1, hr1⟩ : ∃ r1, r1 = asked g z := ⟨_, rfl⟩
  obtain ⟨r2, hr2⟩ : ∃ r2, r2 = asked g (z.take k) := ⟨_, rfl⟩
  rw [← hR1] at KP1 HBG HE1
  rw [← hR2] at KP2 HBG HE2
  rw [← hL1] at KL1 HBG
  rw [← hL2] at KL2 HBG
  rw [← hr1] at KL1 HAT HE1 HBG
  rw [← hr2] at KL2 HAT HE2
  clear hR1 hR2 hL1 hL2 hr1 hr2
  go_wp2_with fail
  refine (KP1.out _ HB2.out).mono ?_
  rintro e w3 ⟨v, vm, rfl, ⟨vw, vd, rfl, k1, k2⟩, km, hb⟩
  obtain ⟨A4, c4, rfl, _⟩ := k1.g
  obtain ⟨B4, d4, rfl, k3, k4⟩ := own_form k2
  obtain ⟨C4, f4, rfl, kg⟩ := km.g
  unfold vsk
  rw [HE1.out]
  have HD1 := Lib.hid (show SpsIs w3 B4 R1.1.ds.length d4 R1.1.ds from ⟨rdg_own k2, rfl, k3, k4⟩)
  have HM1 := Lib.hid kg.r
  have hal : Below w3.heap.size w3 (w3.alloc (.cells #[.int .i64 R1.1.c, .slice A4 R1.1.ws.length c4, .slice B4 R1.1.ds.length d4] 39)) := (Below.refl _ _).alloc (Nat.le_refl _) _
  have X8 := Lib.hid (Box.new w3 39 #[.int .i64 R1.1.c, .slice A4 R1.1.ws.length c4, .slice B4 R1.1.ds.length d4])
  have HB3 := Lib.hid (bmore (bmore HB2.out hb (Nat.le_refl _)) hal (Nat.le_refl _))
  replace HD1 := Lib.hid (HD1.out.below hal)
  replace HM1 := Lib.hid (HM1.out.below hal)
  clear k1 k2 k3 k4 km kg hb hal KP1
  go_upto_region 7 with (fail)
  generalize w3.alloc (.cells #[.int .i64 R1.1.c, .slice A4 R1.1.ws.length c4, .slice B4 R1.1.ds.length d4] 39) = w4 at X8 HB3 HD1 HM1 ⊢
  obtain ⟨p8, hp8⟩ : ∃ p8, w3.heap.size = p8 := ⟨_, rfl⟩
  rw [hp8] at X8
  try simp only [hp8]
  clear hp8
  go_wp2_with fail
  refine (KP2.out _ HB3.out).mono ?_
  rintro e w5 ⟨v, vm, rfl, ⟨vw, vd, rfl, k1, k2⟩, km, hb⟩
  obtain ⟨A5, c5, rfl, _⟩ := k1.g
  obtain ⟨B5, d5, rfl, k3, k4⟩ := own_form k2
  obtain ⟨C5, f5, rfl, kg⟩ := km.g
  unfold vsk
  rw [HE2.out]
  have HD2 := Lib.hid (show SpsIs w5 B5 R2.1.ds.length d5 R2.1.ds from ⟨rdg_own k2, rfl, k3, k4⟩)
  have HM2 := Lib.hid kg.r
  have hal : Below w5.heap.size w5 (w5.alloc (.cells #[.int .i64 R2.1.c, .slice A5 R2.1.ws.length c5, .slice B5 R2.1.ds.length d5] 39)) := (Below.refl _ _).alloc (Nat.le_refl _) _
  have X11 := Lib.hid (Box.new w5 39 #[.int .i64 R2.1.c, .slice A5 R2.1.ws.length c5, .slice B5 R2.1.ds.length d5])
  have HB4 := Lib.hid (bmore (bmore HB3.out hb (Nat.le_refl _)) hal (Nat.le_refl _))
  have h45 := bmore hb hal (Nat.le_refl _)
  replace HD1 := Lib.hid (HD1.out.below h45)
  replace HM1 := Lib.hid (HM1.out.below h45)
  replace X8 := Lib.hid (X8.out.below h45 X8.out.lt)
  replace HD2 := Lib.hid (HD2.out.below hal)
  replace HM2 := Lib.hid (HM2.out.below hal)
  clear k1 k2 k3 k4 km kg hb hal h45 KP2
  go_upto_region 8 with (fail)
  generalize w5.alloc (.cells #[.int .i64 R2.1.c, .slice A5 R2.1.ws.length c5, .slice B5 R2.1.ds.length d5] 39) = w6 at X8 X11 HB4 HD1 HM1 HD2 HM2 ⊢
  obtain ⟨p11, hp11⟩ : ∃ p11, w5.heap.size = p11 := ⟨_, rfl⟩
  rw [hp11] at X11
  try simp only [hp11]
  clear hp11
  go_wp2_with fail
  refine (KL1.out _ HB4.out).mono ?_
  rintro e w7 ⟨v, rfl, ho, hb⟩
  obtain ⟨A6, c6, rfl, hs6⟩ := sps_new ho
  replace HD1 := Lib.hid (HD1.out.below hb)
  replace HM1 := Lib.hid (HM1.out.below hb)
  replace X8 := Lib.hid (X8.out.below hb X8.out.lt)
  replace HD2 := Lib.hid (HD2.out.below hb)
  replace HM2 := Lib.hid (HM2.out.below hb)
  replace X11 := Lib.hid (X11.out.below hb X11.out.lt)
  have HL1 := Lib.hid hs6
  have HB5 := Lib.hid (bmore HB4.out hb (Nat.le_refl _))
  clear ho hs6 hb KL1
  go_wp2_with fail
  refine (KL2.out _ HB5.out).mono ?_
  rintro e w8 ⟨v, rfl, ho, hb⟩
  obtain ⟨A7, c7, rfl, hs7⟩ := sps_new ho
  replace HD1 := Lib.hid (HD1.out.below hb)
  replace HM1 := Lib.hid (HM1.out.below hb)
  replace X8 := Lib.hid (X8.out.below hb X8.out.lt)
  replace HD2 := Lib.hid (HD2.out.below hb)
  replace HM2 := Lib.hid (HM2.out.below hb)
  replace X11 := Lib.hid (X11.out.below hb X11.out.lt)
  replace HL1 := Lib.hid (HL1.out.below hb)
  have HL2 := Lib.hid hs7
  have HB6 := Lib.hid (bmore HB5.out hb (Nat.le_refl _))
  clear ho hs7 hb KL2
  by_cases h0 : r1 = 0
  rotate_left
  · have hq : (r1 == 0) = false := by simpa using h0
    clear HAT HBG
    go_wp2_with fail
    go_ret
    exact ⟨by first | rfl | simp [h0], HB6.out⟩
  have h2 := HAT.out h0
  obtain ⟨q1, q2, q3, q4, q5, q6, q7⟩ := HBG.out h0
  subst h0 h2
  have HQ2 := Lib.hid q2
  have HQ4 := Lib.hid q4
  have HQ7 := Lib.hid q7
  obtain ⟨na, hna⟩ : ∃ na, na = R1.2.1.length := ⟨_, rfl⟩
  obtain ⟨nb, hnb⟩ : ∃ nb, nb = R2.2.1.length := ⟨_, rfl⟩
  obtain ⟨da, hda⟩ : ∃ da, da = R1.1.ds.length := ⟨_, rfl⟩
  obtain ⟨db, hdb⟩ : ∃ db, db = R2.1.ds.length := ⟨_, rfl⟩
  obtain ⟨ta, hta⟩ : ∃ ta, ta = L1.length := ⟨_, rfl⟩
  obtain ⟨tb, htb⟩ : ∃ tb, tb = L2.length := ⟨_, rfl⟩
  rw [← hna] at HM1 q1 ⊢
  rw [← hnb] at HM2 q1 HQ2 ⊢
  rw [← hda] at HD1 X8 q3 ⊢
  rw [← hdb] at HD2 X11 q3 HQ4 ⊢
  rw [← hta] at HL1 q6 ⊢
  rw [← htb] at HL2 q6 HQ7 ⊢
  have KS1 := Lib.hid (fun W (hb : Below w8.heap.size w8 W) => show Calls Tryz.prog 22 #[.slice C4 nb f4, .slice C5 nb f5] W (IsB true W) from by
    have := rsameMessages_any C4 C5 nb nb f4 f5 _ _ W (kr_cut (HM1.out.below hb) q1) (HM2.out.below hb)
    rw [decide_eq_true HQ2.out] at this
    exact this)
  have KS2 := Lib.hid (fun W (hb : Below w8.heap.size w8 W) => show Calls Tryz.prog 23 #[.slice B4 db d4, .slice B5 db d5] W (IsB true W) from by
    have := rsameStamps_any B4 B5 db db d4 d5 _ _ W (sps_cut (HD1.out.below hb) q3) (HD2.out.below hb)
    rw [decide_eq_true HQ4.out] at this
    exact this)
  have KS3 := Lib.hid (fun W (hb : Below w8.heap.size w8 W) => show Calls Tryz.prog 23 #[.slice A6 tb c6, .slice A7 tb c7] W (IsB true W) from by
    have := rsameStamps_any A6 A7 tb tb c6 c7 _ _ W (sps_cut (HL1.out.below hb) q6) (HL2.out.below hb)
    rw [decide_eq_true HQ7.out] at this
    exact this)
  have l1 : (nb : Int) ≤ (na : Int) := by omega
  have l2 : (db : Int) ≤ (da : Int) := by omega
  have l3 : (tb : Int) ≤ (ta : Int) := by omega
  have m1 := HM1.out.le
  have m2 := HD1.out.2.2.1
  have m3 := HL1.out.2.2.1
  have m4 := HM1.out.small
  have m5 := HD1.out.small
  have m6 := HL1.out.small
  have n1 : (nb : Int) ≤ (f4 : Int) := by omega
  have n2 : (db : Int) ≤ (d4 : Int) := by omega
  have n3 : (tb : Int) ≤ (c6 : Int) := by omega
  have n4 : nb ≤ f4 := by omega
  have n5 : db ≤ d4 := by omega
  have n6 : tb ≤ c6 := by omega
  have o1 : (0 : Int) ≤ (nb : Int) := by omega
  have o2 : (0 : Int) ≤ (db : Int) := by omega
  have o3 : (0 : Int) ≤ (tb : Int) := by omega
  obtain ⟨ca, hca⟩ : ∃ ca, ca = R1.1.c := ⟨_, rfl⟩
  obtain ⟨cb, hcb⟩ : ∃ cb, cb = R2.1.c := ⟨_, rfl⟩
  rw [← hca] at X8 q5
  rw [← hcb] at X11 q5
  clear q2 q4 q7 HAT HBG hna hnb hda hdb hta htb hca hcb
  have HSS := Lib.hid (fun (w' : World) (h : Below w8.heap.size w8 w') => show w'.cell? ⟨p8, 0, none⟩ = some (.int .i64 ca) ∧ w'.cell? ⟨p8, 2, none⟩ = some (.slice B4 da d4) ∧ w'.cell? ⟨p11, 0, none⟩ = some (.int .i64 cb) ∧ w'.cell? ⟨p11, 2, none⟩ = some (.slice B5 db d5) from by
    have hx := X8.out.below h X8.out.lt
    have hy := X11.out.below h X11.out.lt
    exact ⟨hx.cell 0, hx.cell 2, hy.cell 0, hy.cell 2⟩)
  obtain ⟨x0, x1, x2⟩ := box_sk X8.out
  obtain ⟨y0, y1, y2⟩ := box_sk X11.out
  go_upto_region 12 with (fail)
  clear x0 x1 x2 y0 y1 y2
  have bb1 : Below w8.heap.size w8 w8.drew := (Below.refl _ _).drew
  obtain ⟨ud, hud⟩ : ∃ ud, ud = w8.drew := ⟨_, rfl⟩
  simp only [List.append_eq, List.cons_append, List.nil_append]
  refine wp_region_held_drew (S := fun w' => w'.cell? ⟨p8, 0, none⟩ = some (.int .i64 ca) ∧ w'.cell? ⟨p8, 2, none⟩ = some (.slice B4 da d4) ∧ w'.cell? ⟨p11, 0, none⟩ = some (.int .i64 cb) ∧ w'.cell? ⟨p11, 2, none⟩ = some (.slice B5 db d5)) (by kernel_rfl) (HSS.out _ bb1) (fun hHeld => ?_)
  rw [← hud] at bb1 hHeld ⊢
  clear hud
  refine qT 0 ?_; try simp only [Act.put, qq]
  refine qT 1 ?_; try simp only [Act.put, qq]
  refine qT 2 ?_; try simp only [Act.put, qq]
  refine qT 3 ?_; try simp only [Act.put, qq]
  refine qT 4 ?_; try simp only [Act.put, qq]
  refine qT 5 ?_; try simp only [Act.put, qq]
  refine qT 6 ?_; try simp only [Act.put, qq]
  refine qT 7 ?_; try simp only [Act.put, qq]
  refine qT 8 ?_; try simp only [Act.put, qq]
  refine qT 9 ?_; try simp only [Act.put, qq]
  refine qT 10 ?_; try simp only [Act.put, qq]
  refine qT 11 ?_; try simp only [Act.put, qq]
  refine qT 12 ?_; try simp only [Act.put, qq]
  refine qT 13 ?_; try simp only [Act.put, qq]
  refine qT 14 ?_; try simp only [Act.put, qq]
  refine qT 15 ?_; try simp only [Act.put, qq]
  refine qT 16 ?_; try simp only [Act.put, qq]
  refine qT 17 ?_; try simp only [Act.put, qq]
  refine qT 18 ?_; try simp only [Act.put, qq]
  refine qT 19 ?_; try simp only [Act.put, qq]
  refine qT 20 ?_; try simp only [Act.put, qq]
  refine qT 21 ?_; try simp only [Act.put, qq]
  refine wpAnyH_ready (rs := [22]) (by kernel_rfl) (by simp) ?_
  refine AllReadyH.cons rfl (fun K hK => ?_) AllReadyH.nil
  go_simp
  refine (KS1.out _ bb1).mono ?_
  rintro e w9 ⟨rfl, hbn⟩
  have bb2 := bmore bb1 hbn (Nat.le_refl _)
  clear hbn KS1
  refine hK.out _ _ (HSS.out _ bb2) (fun hHeld => ?_)
  clear hK
  try simp only [Act.put, qq]
  refine qT 23 ?_; try simp only [Act.put, qq]
  refine qT 24 ?_; try simp only [Act.put, qq]
  refine qT 25 ?_; try simp only [Act.put, qq]
  refine qT 26 ?_; try simp only [Act.put, qq]
  refine qT 27 ?_; try simp only [Act.put, qq]
  refine qT 28 ?_; try simp only [Act.put, qq]
  refine qT 29 ?_; try simp only [Act.put, qq]
  refine qT 30 ?_; try simp only [Act.put, qq]
  refine qT 31 ?_; try simp only [Act.put, qq]
  refine qT 32 ?_; try simp only [Act.put, qq]
  refine qT 33 ?_; try simp only [Act.put, qq]
  refine qT 34 ?_; try simp only [Act.put, qq]
  refine qT 35 ?_; try simp only [Act.put, qq]
  refine qT 36 ?_; try simp only [Act.put, qq]
  refine qT 37 ?_; try simp only [Act.put, qq]
  refine qT 38 ?_; try simp only [Act.put, qq]
  refine qT 39 ?_; try simp only [Act.put, qq]
  refine qT 40 ?_; try simp only [Act.put, qq]
  refine qT 41 ?_; try simp only [Act.put, qq]
  refine wpAnyH_ready (rs := [42]) (by kernel_rfl) (by simp) ?_
  refine AllReadyH.cons rfl (fun K hK => ?_) AllReadyH.nil
  go_simp
  refine (KS2.out _ bb2).mono ?_
  rintro e wa ⟨rfl, hbn⟩
  have bb3 := bmore bb2 hbn (Nat.le_refl _)
  clear hbn KS2
  refine hK.out _ _ (HSS.out _ bb3) (fun hHeld => ?_)
  clear hK
  try simp only [Act.put, qq]
  refine qT 43 ?_; try simp only [Act.put, qq]
  refine qT 44 ?_; try simp only [Act.put, qq]
  refine qT 45 ?_; try simp only [Act.put, qq]
  refine qT 46 ?_; try simp only [Act.put, qq]
  refine qT 47 ?_; try simp only [Act.put, qq]
  refine qT 48 ?_; try simp only [Act.put, qq]
  refine qT 49 ?_; try simp only [Act.put, qq]
  refine qT 50 ?_; try simp only [Act.put, qq]
  refine qT 51 ?_; try simp only [Act.put, qq]
  refine qT 52 ?_; try simp only [Act.put, qq]
  refine qT 53 ?_; try simp only [Act.put, qq]
  refine qT 54 ?_; try simp only [Act.put, qq]
  refine qT 55 ?_; try simp only [Act.put, qq]
  refine qT 56 ?_; try simp only [Act.put, qq]
  refine qT 57 ?_; try simp only [Act.put, qq]
  refine qT 58 ?_; try simp only [Act.put, qq]
  refine qT 59 ?_; try simp only [Act.put, qq]
  refine qT 60 ?_; try simp only [Act.put, qq]
  refine qT 61 ?_; try simp only [Act.put, qq]
  refine qT 62 ?_; try simp only [Act.put, qq]
  refine qT 63 ?_; try simp only [Act.put, qq]
  refine wpAnyH_ready (rs := [64]) (by kernel_rfl) (by simp) ?_
  refine AllReadyH.cons rfl (fun K hK => ?_) AllReadyH.nil
  go_simp
  refine (KS3.out _ bb3).mono ?_
  rintro e wb ⟨rfl, hbn⟩
  have bb4 := bmore bb3 hbn (Nat.le_refl _)
  clear hbn KS3
  refine hK.out _ _ (HSS.out _ bb4) (fun hHeld => ?_)
  clear hK
  try simp only [Act.put, qq]
  refine qT 65 ?_; try simp only [Act.put, qq]
  refine qT 66 ?_; try simp only [Act.put, qq]
  refine wpAnyH_done (by kernel_rfl) ?_ _
  go_wp2_with fail
  go_ret
  exact ⟨rfl, bmore HB6.out bb4 (Nat.le_refl _)⟩
end Go.Proofs.YteebeiaokfenmaaGreat.KP
namespace Go.Proofs.YteebeiaokfenmaaGreat
open Go.RowKit
set_option linter.unusedVariables false
theorem orderBegins_walk (g : Int) (a1 : Option Addr) (len1 cap1 : Nat) (z1 : List ByteArray) (many : Int) (w : World) (w0 : (Lit.int .i64 g).wf = true) (w1 : IsTexts w a1 len1 cap1 z1) (w2 : (Lit.int .i64 many).wf = true) :
    Calls Tryz.prog 7 #[.int .i64 g, .slice a1 len1 cap1, .int .i64 many] w fun e w' => e = .returned (.bool true) ∧ Below w.heap.size w w' :=
  KP.orderBegins_walk0 g a1 len1 cap1 _ many w (LP.tx_of w1)
end Go.Proofs.YteebeiaokfenmaaGreat
