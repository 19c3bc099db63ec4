/-
  The document's own Agree of two orders, and what both have (towncrierref16). Conditions: slices of stamps that read, at most 4,096.
  The document's own Agree of two orders (towncrierref16). Conditions: slices of stamps that read, at most 4,096.
-/
import Derived.Test.YteebeiaokfenmaaGreatK53
import Derived.Test.YteebeiaokfenmaaGreatK05
import Derived.Test.YteebeiaokfenmaaGreatK40
namespace Go.Proofs.YteebeiaokfenmaaGreat.KP
open Go.RowKit CP TP
open CM (Mg Cm)
open TM (Sp)
open KM (Wt Sk)
set_option linter.unusedVariables false
set_option linter.unusedSimpArgs false
set_option maxRecDepth 100000

theorem sps_new {w : World} {b : Nat} {v : Value} {l : List Sp} (h : w.ownsRow b 46 2 v l.length (flat spc l)) : ∃ A c, v = .slice A l.length c ∧ SpsIs w A l.length c l := by
  obtain ⟨A, c, rfl, h1, h2⟩ := own_form h
  exact ⟨A, c, rfl, ⟨rdg_own h, rfl, h1, h2⟩⟩
/-- the stamps answered so far -/
structure CoR (w : World) (x y : List Sp) (k : Nat) (v : Value) (wr : World) : Prop where
  bl : Below w.heap.size w wr
  ow : wr.ownsRow w.heap.size 46 2 v (OM.com (x.take k) y).length (flat spc (OM.com (x.take k) y))
theorem CoR.below {w wr w' : World} {x y : List Sp} {k : Nat} {v : Value} (h : CoR w x y k v wr) (hb : Below wr.heap.size wr w') : CoR w x y k v w' := ⟨bmore h.bl hb (Nat.le_refl _), own_below3 h.ow hb⟩
theorem com_more {x y : List Sp} {k : Nat} {a : Sp} (h : x[k]? = some a) : OM.com (x.take (k + 1)) y = OM.com (x.take k) y ++ (if (y.any fun z => z.i == a.i) then [a] else []) := by
  unfold OM.com
  exact filter_take h
theorem any_more {y : List Sp} {j : Nat} {b : Sp} {p : Sp → Bool} (h : y[j]? = some b) : (y.take (j + 1)).any p = ((y.take j).any p || p b) := by
  rw [List.take_add_one, h, List.any_append]
  simp
set_option maxHeartbeats 16000000 in
theorem common16_any (A B : Option Addr) (n m ca cb : Nat) (x y : List Sp) (w : World) (h1 : SpsIs w A n ca x) (h2 : SpsIs w B m cb y) (hn4 : n ≤ 4096) :
    Calls Tryz.prog 53 #[.slice A n ca, .slice B m cb] w fun e w' => ∃ v, e = .returned v ∧ w'.ownsRow w.heap.size 46 2 v (OM.com x y).length (flat spc (OM.com x y)) ∧ Below w.heap.size w w' := by
  obtain ⟨j0, hj, hy0, hy1, hy2⟩ := info_parts info_sp
  have hn := h1.small
  have hm := h2.small
  have HX := Lib.hid h1.2.1
  have HY := Lib.hid h2.2.1
  have H1 := Lib.hid h1
  have H2 := Lib.hid h2
  have HT0 := Lib.hid (show CoR w x y 0 (.slice none 0 0) w from ⟨Below.refl _ _, World.ownsRow_nil _ _ _ _⟩)
  clear h1 h2
  go_enter Tryz.func53, Tryz.ntmps53
  go_wp2_with fail
  go_loopw [5, 6] (fun u i wr => ∃ k : Nat, k ≤ n ∧ i = .int .i64 k ∧ Hid (CoR w x y k u wr)) (fun _ i _ => n - (intOf i).toNat)
  case atStart => exact ⟨0, by omega, rfl, HT0⟩
  case round =>
    clear HT0
    obtain ⟨k, hk, rfl, HT⟩ := hrel
    by_cases hlt : k < n
    · obtain ⟨a, ha⟩ : ∃ a, x[k]? = some a := ⟨_, List.getElem?_eq_getElem (by have := HX.out; omega)⟩
      have HA := Lib.hid ha
      have hk0 : (0 : Int) ≤ (k : Int) := by omega
      have hkn : (k : Int) < (n : Int) := by omega
      obtain ⟨ai, hai⟩ : ∃ ai, ai = a.i := ⟨_, rfl⟩
      have HAI := Lib.hid hai
      clear ha hai
      go_wp2_with fail
      go_loopw [7, 8] (fun s i wi => ∃ (j : Nat) (b : Bool), j ≤ m ∧ s = .bool b ∧ i = .int .i64 j ∧ Hid (b = (y.take j).any fun z => z.i == a.i) ∧ Hid (CoR w x y k u5 wi)) (fun _ i _ => m - (intOf i).toNat)
      case atStart => exact ⟨0, false, by omega, rfl, rfl, Lib.hid rfl, HT⟩
      case round =>
        clear HT
        obtain ⟨j, b, hjm, rfl, rfl, HBB, HT⟩ := hrel
        by_cases hlt2 : j < m
        · obtain ⟨c, hc⟩ : ∃ c, y[j]? = some c := ⟨_, List.getElem?_eq_getElem (by have := HY.out; omega)⟩
          obtain ⟨b1, o1, rfl, _, _, x0, x1⟩ := (H1.out.below HT.out.bl).at_ HA.out
          obtain ⟨b2, o2, rfl, _, _, y0, y1⟩ := (H2.out.below HT.out.bl).at_ hc
          have HM := Lib.hid (any_more (p := fun z => z.i == a.i) hc)
          have hj0 : (0 : Int) ≤ (j : Int) := by omega
          have hjn : (j : Int) < (m : Int) := by omega
          clear hc
          rcases b with _ | _
          all_goals
            go_wp2_with fail
            go_region
            have HT2 := Lib.hid (HT.out.below (below_drewN (Below.refl _ _) 1))
            go_wp2_with fail
            go_roundw
            case rel => exact ⟨j + 1, _, by omega, rfl, by go_num, Lib.hid (by rw [HM.out, ← HBB.out]; simp), HT2⟩
            case measure => simp [intOf]; omega
        · obtain rfl : m = j := by omega
          have HBB2 := Lib.hid (show b = y.any fun z => z.i == a.i by have := HBB.out; rwa [List.take_of_length_le (by have := HY.out; omega)] at this)
          have HM := Lib.hid (com_more (y := y) HA.out)
          clear HBB
          rcases b with _ | _
          · have NX := Lib.hid (show CoR w x y (k + 1) u5 wr from by
              have h1 := HM.out
              rw [← HBB2.out] at h1
              simp only [Bool.false_eq_true, if_false, List.append_nil] at h1
              exact ⟨HT.out.bl, by rw [h1]; exact HT.out.ow⟩)
            go_wp2_with fail
            go_roundw
            case rel => exact ⟨k + 1, by omega, by go_num, NX⟩
            case measure => simp [intOf]; omega
          · obtain ⟨b1, o1, rfl, _, _, x0, x1⟩ := (H1.out.below HT.out.bl).at_ HA.out
            obtain ⟨A9, c9, rfl, hc9, hm9⟩ := own_form HT.out.ow
            obtain ⟨q, hq⟩ : ∃ q, q = OM.com (x.take k) y := ⟨_, rfl⟩
            have HQ := Lib.hid hq
            have hql : q.length ≤ 4096 := by
              rw [hq]
              refine Nat.le_trans (List.length_filter_le _ _) ?_
              rw [List.length_take]
              omega
            rw [← hq] at hc9 ⊢
            obtain ⟨at_, ai2⟩ := a
            simp only at x0 x1
            have hal : Below wr.heap.size wr (wr.alloc (.cells #[.int .i64 at_, .int .i64 ai2] 46)) := (Below.refl _ _).alloc (Nat.le_refl _) _
            have HO5 := Lib.hid (show (wr.alloc (.cells #[.int .i64 at_, .int .i64 ai2] 46)).ownsRow w.heap.size 46 2 (.slice A9 q.length c9) q.length (flat spc q) by
              have := own_below3 HT.out.ow hal
              rwa [← hq] at this)
            have HBA := Lib.hid (bmore HT.out.bl hal (Nat.le_refl _))
            have HRG := Lib.hid (rdG_box (s := 2) (n := 1) (Box.new wr 46 #[.int .i64 at_, .int .i64 ai2]) (xs := spc ⟨at_, ai2⟩) rfl rfl)
            clear hq hal
            go_upto_region 4 with (at_builtin; refine wpList_append_g _ rfl _ _ 22 rfl w.heap.size 46 j0 _ 2 16 Tryz.underlying22 hj hy0 hy1 hy2 rfl (by omega) (.slice A9 q.length c9) q.length (flat spc q) rfl HO5.out (some ⟨wr.heap.size, 0, none⟩) 1 1 (spc ⟨at_, ai2⟩) rfl HRG.out (spc_one _) (by unfold maxLen; omega) (by omega) HBA.out.size ?_; intro v2 w6 hown hgr hob; have HB6 := Lib.hid (below_row HBA.out HO5.out HBA.out.size hgr); have HO6 := Lib.hid hown; clear hown hgr hob)
            have NX := Lib.hid (show CoR w x y (k + 1) v2 w6 from by
              have h1 := HM.out
              rw [← HBB2.out] at h1
              simp only [if_true] at h1
              refine ⟨HB6.out, ?_⟩
              rw [h1, ← HQ.out, List.length_append]
              have := HO6.out
              simpa [flat] using this)
            go_wp2_with fail
            go_roundw
            case rel => exact ⟨k + 1, by omega, by go_num, NX⟩
            case measure => simp [intOf]; omega
    · obtain rfl : n = k := by omega
      have HE := Lib.hid (show CoR w x y n u5 wr ∧ x.take n = x from ⟨HT.out, List.take_of_length_le (by have := HX.out; omega)⟩)
      clear HT
      go_wp2_with fail
      go_ret
      have h1 := HE.out.1.ow
      rw [HE.out.2] at h1
      exact ⟨_, rfl, h1, HE.out.1.bl⟩
end Go.Proofs.YteebeiaokfenmaaGreat.KP

namespace Go.Proofs.YteebeiaokfenmaaGreat.KP
open Go.RowKit CP TP
open CM (Mg Cm)
open TM (Sp)
open KM (Wt Sk)
set_option linter.unusedVariables false
set_option linter.unusedSimpArgs false
set_option maxRecDepth 100000

theorem flat_cut {α : Type} {f : α → List Value} {s : Nat} : ∀ (l : List α) (k : Nat), (∀ a ∈ l, (f a).length = s) → (flat f l).take (k * s) = flat f (l.take k)
  | [], k, _ => by simp [flat]
  | a :: l, 0, _ => by simp [flat]
  | a :: l, k + 1, h => by
    have ha := h a (List.mem_cons_self ..)
    rw [flat_cons, List.take_succ_cons, flat_cons, Nat.add_mul, Nat.one_mul, List.take_append, ha, List.take_of_length_le (by omega), Nat.add_sub_cancel, flat_cut l k (fun b hb => h b (List.mem_cons_of_mem _ hb))]
theorem sps_cut {w : World} {A : Option Addr} {n c k : Nat} {l : List Sp} (h : SpsIs w A n c l) (hk : k ≤ n) : SpsIs w A k c (l.take k) := by
  obtain ⟨⟨h1, h2⟩, h3, h4, h5⟩ := h
  have hl : (l.take k).length = k := by rw [List.length_take]; omega
  have he : flat spc (l.take k) = (flat spc l).take (k * 2) := (flat_cut (f := spc) (s := 2) l k (fun a _ => rfl)).symm
  refine ⟨⟨by rw [flat_length (f := spc) (s := 2) (fun a _ => rfl), hl], fun hp => ?_⟩, hl, by omega, h5⟩
  obtain ⟨ad, e, hb, hc⟩ := h2 (by omega)
  refine ⟨ad, e, hb, fun j u hu => hc j u ?_⟩
  rw [he, List.getElem?_take] at hu
  split at hu
  · exact hu
  · cases hu
set_option maxHeartbeats 8000000 in
theorem agree16_any (A B : Option Addr) (n m ca cb : Nat) (x y : List Sp) (w : World) (h1 : SpsIs w A n ca x) (h2 : SpsIs w B m cb y) (hn4 : n ≤ 4096) (hm4 : m ≤ 4096) :
    Calls Tryz.prog 27 #[.slice A n ca, .slice B m cb] w (IsB (OM.agreeF x y) w) := by
  have K1 := Lib.hid (common16_any A B n m ca cb x y w h1 h2 hn4)
  have K2 := Lib.hid (fun W (hb : Below w.heap.size w W) => common16_any B A m n cb ca y x W (h2.below hb) (h1.below hb) hm4)
  obtain ⟨r, hr⟩ : ∃ r, r = OM.agreeF x y := ⟨_, rfl⟩
  rw [← hr]
  have HR := Lib.hid hr
  obtain ⟨p, hp⟩ : ∃ p, p = OM.com x y := ⟨_, rfl⟩
  obtain ⟨q, hq⟩ : ∃ q, q = OM.com y x := ⟨_, rfl⟩
  have HE := Lib.hid (show r = decide (p.take (min p.length q.length) = q.take (min p.length q.length)) by rw [hr, hp, hq]; rfl)
  rw [← hp] at K1
  rw [← hq] at K2
  clear hr hp hq h1 h2 HR
  go_enter Tryz.func27, Tryz.ntmps27
  go_wp2_with fail
  refine (K1.out).mono ?_
  rintro e w1 ⟨v1, rfl, ho1, hb1⟩
  obtain ⟨A1, c1, rfl, hs1⟩ := sps_new ho1
  have HS1 := Lib.hid hs1
  have HB1 := Lib.hid hb1
  clear ho1 hs1 hb1 K1
  go_wp2_with fail
  refine (K2.out w1 HB1.out).mono ?_
  rintro e w2 ⟨v2, rfl, ho2, hb2⟩
  obtain ⟨A2, c2, rfl, hs2⟩ := sps_new ho2
  have HB2 := Lib.hid (bmore HB1.out hb2 (Nat.le_refl _))
  replace HS1 := Lib.hid (HS1.out.below hb2)
  have HS2 := Lib.hid hs2
  clear ho2 hs2 hb2 K2 HB1
  obtain ⟨np, hnp⟩ : ∃ np, np = p.length := ⟨_, rfl⟩
  obtain ⟨nq, hnq⟩ : ∃ nq, nq = q.length := ⟨_, rfl⟩
  rw [← hnp] at HS1 ⊢
  rw [← hnq] at HS2 ⊢
  rw [← hnp, ← hnq] at HE
  have hpc := HS1.out.2.2.1
  have hqc := HS2.out.2.2.1
  have hp63 := HS1.out.small
  have hq63 := HS2.out.small
  obtain ⟨z, hz⟩ : ∃ z, z = min np nq := ⟨_, rfl⟩
  have hz1 : z ≤ np := by omega
  have hz2 : z ≤ nq := by omega
  have hmin : min (np : Int) (nq : Int) = (z : Int) := by omega
  rw [← hz] at HE
  have KS := Lib.hid (fun W (hb : Below w2.heap.size w2 W) => rsameStamps_any A1 A2 z z c1 c2 (p.take z) (q.take z) W ((sps_cut HS1.out hz1).below hb) ((sps_cut HS2.out hz2).below hb))
  rw [← HE.out] at KS
  have k0 : (0 : Int) ≤ (z : Int) := by omega
  have k1 : (z : Int) ≤ (c1 : Int) := by omega
  have k2 : (z : Int) ≤ (c2 : Int) := by omega
  have k3 : z ≤ c1 := by omega
  have k4 : z ≤ c2 := by omega
  clear hnp hnq hz
  go_upto_region 3 with (fail)
  refine wp_region_held_drew (S := fun _ => True) (by kernel_rfl) trivial (fun hHeld => ?_)
  refine qT 0 ?_; try simp only [Act.put, qq]
  refine qT 1 ?_; try simp only [Act.put, qq]
  refine qT 3 ?_; try simp only [Act.put, qq]
  refine qT 4 ?_; try simp only [Act.put, qq]
  refine qT 2 ?_; try simp only [Act.put, qq]
  refine qT 5 ?_; try simp only [Act.put, qq]
  refine wpAnyH_ready (rs := [6]) (by kernel_rfl) (by simp) ?_
  refine AllReadyH.cons rfl (fun K hK => ?_) AllReadyH.nil
  go_simp
  refine (KS.out _ (Below.refl _ _).drew).mono ?_
  rintro e w5 ⟨rfl, hb⟩
  have HB5 := Lib.hid (bmore HB2.out ((Below.refl _ _).drew.trans (hb.mono (Below.refl w2.heap.size w2).drew.size)) (Nat.le_refl _))
  refine hK.out _ _ trivial (fun hHeld => ?_)
  clear hK hb
  try simp only [Act.put, qq]
  refine qT 7 ?_; try simp only [Act.put, qq]
  refine wpAnyH_done (by kernel_rfl) ?_ _
  go_wp2_with fail
  go_ret
  exact ⟨rfl, HB5.out⟩
end Go.Proofs.YteebeiaokfenmaaGreat.KP
