/-
  What the document's own GetText (towncrierref01) does. Conditions: the slice reads as bytes.
  The document's own without (towncrierref15): what waits but for one. Conditions: a slice that reads as such, of at most 4,096.
  Package order: Agree. Conditions: slices of stamps that read, at most 4,096, their ids ints.
  What the document's own GetInts (towncrierref01) does. Conditions: the slice reads as bytes.
  Package skeen: slices.BinarySearchFunc among what waits, and place. Conditions: what waits rises by ids; not many.
  The document's own May, Check, CheckMessage (towncrierref12) of any command. Conditions: as CmIs and CmFit say.
  Package skeen: slices.MinFunc over inOrder: the least of what waits, the first one. Conditions: something waits.
-/
import Derived.Test.YteebeiaokfenmaaGreatK01
import Derived.Test.YteebeiaokfenmaaGreatK17
import Derived.Test.YteebeiaokfenmaaGreatK15
import Derived.Test.YteebeiaokfenmaaGreatK16
import Derived.Test.YteebeiaokfenmaaGreatK04
import Derived.Test.YteebeiaokfenmaaGreatK18
import Derived.Test.YteebeiaokfenmaaGreatK05
import Derived.Test.YteebeiaokfenmaaGreatK19
import Derived.Deep.DeepCutAuto
namespace Go.Proofs.YteebeiaokfenmaaGreat
open Go.RowKit
set_option linter.unusedVariables false
set_option maxRecDepth 100000
set_option maxHeartbeats 1000000 in
theorem refGetText_any (A : Option Addr) (n c : Nat) (l : List UInt8) (w : World) (hr : Rd w A n (bc l)) (hnc : n ≤ c) (hm : c ≤ maxLen) :
  Calls Tryz.prog 160 #[.slice A n c] w fun e w' => e = .returned (textRes (NM.getText l)) ∧ w = w' := by
 have hg := refGet_any A n c l w hr (Nat.le_trans hnc hm)
 unfold maxLen at hm
 have hl : l.length = n := by have := hr.1; rwa [bc_length] at this
 have HL := h! hl; clear hl
 rcases hd : NM.dec l with _ | ⟨x, k⟩
 ·rw [hd] at hg
  have hfin : NM.getText l = none := by unfold NM.getText; rw [hd]
  have HF := h! hfin; clear hfin hd
  have HG := h! hg; clear hg
  go_enter Tryz.func160, Tryz.ntmps160
  go_wp2_with (go_at_call 158; refine (HG.out).mono ?_; rintro e w' ⟨rfl, rfl⟩; unfold getRes)
  go_ret3
  rw [HF.out]
  exact ⟨rfl, rfl⟩
 ·have hb := NM.dec_bound l x k hd
  rw [hd] at hg
  obtain ⟨hx, hk1, hkl, hk6, _⟩ := hb
  rw [HL.out] at hkl
  have hfin : NM.getText l = if x ≤ 4096 ∧ x ≤ n - k then some ((l.drop k).take x, k + x) else none := by unfold NM.getText; rw [hd]; simp only [HL.out]
  have HF := h! hfin; clear hfin hd
  have HG := h! hg; clear hg
  by_cases h1 : x ≤ 4096
  ·by_cases h2 : x ≤ n - k
   ·have hkx : k + x ≤ n := by omega
    have hc1 : ∀ cap, (convert 120 9 (.slice (Option.map (fun x => x.add k) A) x cap)).run Tryz.prog w = .ok (.string ⟨((l.drop k).take x).toArray⟩) w := fun cap =>
     run_string_of w _ _ 5 _ _ cap ((l.drop k).take x) Tryz.underlying120 Tryz.underlying5 Tryz.underlying9 (by rw [← bc_take, ← bc_drop]; exact hr.mid hkx)
    obtain ⟨t, ht⟩ : ∃ t, t = (l.drop k).take x := ⟨_, rfl⟩
    rw [← ht] at hc1
    have HT := h! ht; clear ht
    have HR := h! hr; clear hr
    by_cases hck : c = k
    ·obtain rfl : x = 0 := by omega
     have hc2 : ∀ cap, (convert 120 9 (.slice A 0 cap)).run Tryz.prog w = .ok (.string ⟨t.toArray⟩) w := fun cap =>
      run_string_of w _ _ 5 _ _ cap t Tryz.underlying120 Tryz.underlying5 Tryz.underlying9 (by rw [HT.out]; simpa [bc] using Rd.nil)
     subst hck
     go_enter Tryz.func160, Tryz.ntmps160
     go_wp2_with (go_at_call 158; refine (HG.out).mono ?_; rintro e w' ⟨rfl, rfl⟩; unfold getRes)
     go_ret3
     rw [HF.out, if_pos (by omega), HT.out]
     exact ⟨rfl, rfl⟩
    ·go_enter Tryz.func160, Tryz.ntmps160
     go_wp2_with (go_at_call 158; refine (HG.out).mono ?_; rintro e w' ⟨rfl, rfl⟩; unfold getRes)
     go_ret3
     rw [HF.out, if_pos (by omega), HT.out]
     exact ⟨rfl, rfl⟩
   ·have h2' : (n : Int) - k < x := by omega
    go_enter Tryz.func160, Tryz.ntmps160
    go_wp2_with (go_at_call 158; refine (HG.out).mono ?_; rintro e w' ⟨rfl, rfl⟩; unfold getRes)
    go_ret3
    rw [HF.out, if_neg (by omega)]
    exact ⟨rfl, rfl⟩
  ·go_enter Tryz.func160, Tryz.ntmps160
   go_wp2_with (go_at_call 158; refine (HG.out).mono ?_; rintro e w' ⟨rfl, rfl⟩; unfold getRes)
   go_ret3
   rw [HF.out, if_neg (by omega)]
   exact ⟨rfl, rfl⟩
end Go.Proofs.YteebeiaokfenmaaGreat

namespace Go.Proofs.YteebeiaokfenmaaGreat.KP
open Go.RowKit CP TP
open CM (Mg Cm)
open TM (Sp)
open KM (Wt Sk)
set_option linter.unusedVariables false
set_option linter.unusedSimpArgs false
set_option maxRecDepth 100000
set_option maxHeartbeats 8000000 in
theorem rwithout_any (b : Nat) (A : Option Addr) (n c : Nat) (l : List Wt) (j : Nat) (w : World) (h : KG KW w b A n c l) (hn : n ≤ 4000) (hb : b ≤ w.heap.size) :
  Calls Tryz.prog 122 #[.slice A n c, .int .i64 (j : Int)] w (WtsNew b (l.eraseIdx j) w) := by
 obtain ⟨j0, hj, hy0, hy1, hy2⟩ := info_parts info_wt
 have HLA := h! h.r.len
 have hn63 := h.r.small
 have H0 := h! h
 have HB := h! (Below.refl w.heap.size w)
 obtain ⟨w1, hw1⟩ : ∃ w1, w1 = w := ⟨_, rfl⟩
 have hbw1 : b ≤ w1.heap.size := by rw [hw1]; exact hb
 have hww1 : w.heap.size ≤ w1.heap.size := by rw [hw1]; exact Nat.le_refl _
 have HW := h! hw1
 rw [← hw1]
 rw [← hw1] at HB H0
 clear h hw1
 go_enter Tryz.func122, Tryz.ntmps122
 go_wp2_with fail
 go_loopw [5, 6] (fun s i wr => ∃ k : Nat, ∃ A9 n9 c9, k ≤ n ∧ s = .slice A9 n9 c9 ∧ i = .int .i64 k ∧ Below w1.heap.size w1 wr ∧ Hid (Grow w1.heap.size b A9 n9 c9 ((l.take k).eraseIdx j) wr)) (fun _ i _ => n - (intOf i).toNat)
 case atStart => exact ⟨0, none, 0, 0, by omega, rfl, rfl, Below.refl _ _, h! (by simpa using grow_nil w1.heap.size b w1)⟩
 case round =>
  obtain ⟨k, A9, n9, c9, hk, rfl, rfl, hB, HG⟩ := hrel
  have HB2 := h! (bmore HB.out hB n!)
  have HBr := h! hB
  clear hB
  have hn9 : n9 ≤ 4096 := by
   have h1 := HG.out.len
   have h2 := List.length_eraseIdx_le (l.take k) j
   rw [List.length_take] at h2
   omega
  by_cases hlt : k < n
  ·obtain ⟨a, ha⟩ : ∃ a, l[k]? = some a := ⟨_, List.getElem?_eq_getElem (by have := HLA.out; omega)⟩
   have HA := h! ha
   obtain ⟨bl, o, P, q, rfl, _, hbl, hat, hrow⟩ := wtsG_at H0.out ha
   have HRW := h! (And.intro hrow (fun ad (e : P = some ad) hn => row_lt hrow.1 e hn))
   have HAT := h! (fun W (hb : Below wr.heap.size wr W) => hat.below hbl (bmore HB2.out hb n!))
   obtain ⟨a0, a1, a2, a3, a4, a5, a6⟩ := HAT.out _ (Below.refl _ _)
   clear ha hat hrow hbl
   have hk0 : (0 : Int) ≤ (k : Int) := by omega
   have hkn : (k : Int) < (n : Int) := by omega
   have HP1 := h! (erase_take (j := j) HA.out)
   by_cases hc : k = j
   ·have HN := h! (show Grow w1.heap.size b A9 n9 c9 ((l.take (k + 1)).eraseIdx j) wr by rw [HP1.out, if_pos hc]; exact HG.out)
    have e1 : ((k : Int) != (j : Int)) = false := by simp; omega
    clear hc
    go_wp2_with fail
    go_roundw
    case rel => exact ⟨k + 1, A9, n9, c9, by omega, rfl, by go_num, HBr.out, HN⟩
    case measure => simp [intOf]; omega
   ·have HP := h! (show (l.take (k + 1)).eraseIdx j = (l.take k).eraseIdx j ++ [a] by rw [HP1.out, if_neg hc])
    have e1 : ((k : Int) != (j : Int)) = true := by simp; omega
    clear hc
    have HRW3 := h! (HRW.out.1.below HB2.out)
    have HNE3 := h! (show ∀ ad, P = some ad → 0 < (KW.gs a).length → (Value.slice A9 n9 c9).ownBlock ≠ some ad.block from fun ad e hn kk => by have h1 := HG.out.2 _ kk; have h2 := HRW.out.2 ad e hn; omega)
    have HBS3 := h! (show b ≤ wr.heap.size from Nat.le_trans hbw1 HBr.out.size)
    obtain ⟨⟨ai, ag, at_, ak, ab⟩, am, af⟩ := a
    simp only at a0 a1 a2 a3 a4 a5 a6
    go_wp2_with (at_builtin; refine wpList_append_ko rfl _ _ 37 rfl 78 j0 _ 88 Tryz.underlying37 hj hy0 hy1 hy2 rfl rfl (HG.out).1 rfl #[.int .i64 ai, .slice P ag.length q, .int .i64 at_, .string ak, .string ab, .int .i64 am, .bool af] (show _ = KW.cel P q ⟨⟨ai, ag, at_, ak, ab⟩, am, af⟩ from rfl) (HRW3.out) (HNE3.out) (by unfold maxLen; omega) (by omega) HBS3.out ?_; intro A7 c7 w6 hko hgr hob; have HKO := h! hko; have HGR := h! hgr; have HOB := h! hob; clear hko hgr hob)
    obtain ⟨hn1, hn2⟩ := grow_step HG.out (show w1.heap.size ≤ wr.heap.size from HBr.out.size) hbw1 HKO.out HGR.out HOB.out
    rw [← HP.out] at hn1
    have HN1 := h! hn1
    have HN2 := h! (HBr.out.trans hn2)
    clear hn1 hn2
    go_roundw
    case rel => exact ⟨k + 1, A7, n9 + 1, c7, by omega, rfl, by go_num, HN2.out, HN1⟩
    case measure => simp [intOf]; omega
  ·have HF := h! (show Grow w1.heap.size b A9 n9 c9 (l.eraseIdx j) wr by
    have := HG.out
    rwa [List.take_of_length_le (by have := HLA.out; omega)] at this)
   go_wp2_with fail
   go_ret
   exact ⟨A9, n9, c9, rfl, HF.out.1, HB2.out⟩
end Go.Proofs.YteebeiaokfenmaaGreat.KP

namespace Go.Proofs.YteebeiaokfenmaaGreat.KP
open Go.RowKit CP TP
open CM (Mg Cm)
open TM (Sp)
open KM (Wt Sk)
set_option linter.unusedVariables false
set_option linter.unusedSimpArgs false
set_option maxRecDepth 100000
set_option maxHeartbeats 8000000 in
theorem pagree16_any (A B : Option Addr) (n m ca cb : Nat) (x y : List Sp) (w : World) (h1 : SpsIs w A n ca x) (h2 : SpsIs w B m cb y) (hn4 : n ≤ 4096) (hm4 : m ≤ 4096) (hi1 : ∀ s ∈ x, i64In s.i) (hi2 : ∀ s ∈ y, i64In s.i) :
  Calls Tryz.prog 17 #[.slice A n ca, .slice B m cb] w (IsB (OM.agreeF x y) w) := by
 have K1 := h! (pcommon16_any A B n m ca cb x y w h1 h2 hn4 hm4 hi1 hi2)
 have K2 := h! (fun W (hb : Below w.heap.size w W) => pcommon16_any B A m n cb ca y x W (h2.below hb) (h1.below hb) hm4 hn4 hi2 hi1)
 obtain ⟨r, hr⟩ : ∃ r, r = OM.agreeF x y := ⟨_, rfl⟩
 rw [← hr]
 have HR := h! hr
 obtain ⟨p, hp⟩ : ∃ p, p = OM.com x y := ⟨_, rfl⟩
 obtain ⟨q, hq⟩ : ∃ q, q = OM.com y x := ⟨_, rfl⟩
 have HE := h! (show r = decide (p.take (min p.length q.length) = q.take (min p.length q.length)) by rw [hr, hp, hq]; rfl)
 rw [← hp] at K1
 rw [← hq] at K2
 clear hr hp hq h1 h2 HR hi1 hi2
 go_enter Tryz.func17, Tryz.ntmps17
 go_wp2_with fail
 refine (K1.out).mono ?_
 rintro e w1 ⟨v1, rfl, ho1, hb1⟩
 obtain ⟨A1, c1, rfl, hs1⟩ := sps_new ho1
 have HS1 := h! hs1
 have HB1 := h! hb1
 clear ho1 hs1 hb1 K1
 go_wp2_with fail
 refine (K2.out w1 HB1.out).mono ?_
 rintro e w2 ⟨v2, rfl, ho2, hb2⟩
 obtain ⟨A2, c2, rfl, hs2⟩ := sps_new ho2
 have HB2 := h! (bmore HB1.out hb2 n!)
 replace HS1 := h! (HS1.out.below hb2)
 have HS2 := h! hs2
 clear ho2 hs2 hb2 K2 HB1
 obtain ⟨np, hnp⟩ : ∃ np, np = p.length := ⟨_, rfl⟩
 obtain ⟨nq, hnq⟩ : ∃ nq, nq = q.length := ⟨_, rfl⟩
 rw [← hnp] at HS1 ⊢
 rw [← hnq] at HS2 ⊢
 rw [← hnp, ← hnq] at HE
 have hpc := HS1.out.2.2.1
 have hqc := HS2.out.2.2.1
 have hp63 := HS1.out.small
 have hq63 := HS2.out.small
 obtain ⟨z, hz⟩ : ∃ z, z = min np nq := ⟨_, rfl⟩
 have hz1 : z ≤ np := by omega
 have hz2 : z ≤ nq := by omega
 have hmin : min (np : Int) (nq : Int) = (z : Int) := by omega
 rw [← hz] at HE
 have KS := h! (fun W (hb : Below w2.heap.size w2 W) => equalD_any A1 A2 z z c1 c2 (p.take z) (q.take z) W ((sps_cut HS1.out hz1).below hb) ((sps_cut HS2.out hz2).below hb))
 rw [← HE.out] at KS
 have k0 : (0 : Int) ≤ (z : Int) := by omega
 have k1 : (z : Int) ≤ (c1 : Int) := by omega
 have k2 : (z : Int) ≤ (c2 : Int) := by omega
 have k3 : z ≤ c1 := by omega
 have k4 : z ≤ c2 := by omega
 clear hnp hnq hz
 go_upto_region 3 with (fail)
 refine wp_region_held_drew (S := fun _ => True) (by kernel_rfl) trivial (fun hHeld => ?_)
 refine qT 0 ?_; try simp only [Act.put, qq]
 refine qT 1 ?_; try simp only [Act.put, qq]
 refine qT 3 ?_; try simp only [Act.put, qq]
 refine qT 4 ?_; try simp only [Act.put, qq]
 refine qT 2 ?_; try simp only [Act.put, qq]
 refine qT 5 ?_; try simp only [Act.put, qq]
 refine qR 6 fun K hK => ?_
 go_simp
 refine (KS.out _ (Below.refl _ _).drew).mono ?_
 rintro e w5 ⟨rfl, hb⟩
 have HB5 := h! (bmore HB2.out ((Below.refl _ _).drew.trans (hb.mono (Below.refl w2.heap.size w2).drew.size)) n!)
 refine hK.out _ _ trivial (fun hHeld => ?_)
 clear hK hb
 try simp only [Act.put, qq]
 refine qT 7 ?_; try simp only [Act.put, qq]
 refine wpAnyH_done (by kernel_rfl) ?_ _
 go_wp2_with fail
 go_ret
 exact ⟨rfl, HB5.out⟩
end Go.Proofs.YteebeiaokfenmaaGreat.KP

namespace Go.Proofs.YteebeiaokfenmaaGreat
open Go.RowKit
set_option linter.unusedVariables false
set_option maxRecDepth 100000
set_option maxHeartbeats 2000000 in
theorem refGetInts_any (A : Option Addr) (n c most : Nat) (l : List UInt8) (w : World) (hr : Rd w A n (bc l)) (hnc : n ≤ c) (hm : c ≤ maxLen) (hmost : most ≤ 4096) :
  Calls Tryz.prog 159 #[.slice A n c, .int .i64 most] w (GetIntsPost w (NM.getInts l most)) := by
 obtain ⟨i0, hi, hz0, hz1, hz2⟩ := info_parts info_int
 have hg := refGet_any A n c l w hr (Nat.le_trans hnc hm)
 have hm2 : c ≤ 9223372036854775807 := by unfold maxLen at hm; omega
 have hl : l.length = n := by have := hr.1; rwa [bc_length] at this
 have HL := h! hl; clear hl
 have HM := h! hm; clear hm
 rcases hd : NM.dec l with _ | ⟨x, k⟩
 ·rw [hd] at hg
  have hfin : NM.getInts l most = none := by unfold NM.getInts; rw [hd]
  have HF := h! hfin; clear hfin hd
  have HG := h! hg; clear hg
  go_enter Tryz.func159, Tryz.ntmps159
  go_wp2_with (go_at_call 158; refine (HG.out).mono ?_; rintro e w' ⟨rfl, rfl⟩; unfold getRes)
  go_ret3
  exact ⟨Below.refl _ _, .inl ⟨HF.out, rfl⟩⟩
 ·have hb := NM.dec_bound l x k hd
  rw [hd] at hg
  obtain ⟨hx, hk1, hkl, hk6, hdrop⟩ := hb
  clear hdrop
  rw [HL.out] at hkl
  have HG := h! hg; clear hg
  by_cases h1 : x ≤ most
  ·have hfin := NM.getInts_of l most x k hd h1
   obtain ⟨o, ho⟩ : ∃ o, o = NM.getInts l most := ⟨_, rfl⟩
   have hstart : GetIntsRel w l o x n 0 k (.slice none 0 0) w := ⟨[], rfl, by omega, hkl, by rw [ho, hfin]; rfl, World.ownsRow_nil _ _ _ _, Below.refl _ _⟩
   rw [← ho]
   clear hfin hd ho
   have HS := h! hstart; clear hstart
   have t1 : decide ((4096 : Int) < (most : Int)) = false := by simp; omega
   have t2 : decide ((most : Int) < (x : Int)) = false := by simp; omega
   have t3 : decide (most < x) = false := by simp; omega
   go_enter Tryz.func159, Tryz.ntmps159
   go_wp2_with (go_at_call 158; refine (HG.out).mono ?_; rintro e w' ⟨rfl, rfl⟩; unfold getRes)
   go_loopw [8, 10, 11] (fun s u t wr => ∃ i j : Nat, i ≤ x ∧ j ≤ n ∧ s = .int .i64 j ∧ t = .int .i64 i ∧ GetIntsRel w l o x n i j u wr) (fun _ _ t _ => x - (intOf t).toNat)
   case atStart => exact ⟨0, k, by omega, hkl, rfl, rfl, HS.out⟩
   case round =>
    clear HS HG
    obtain ⟨i, j, hix, hjn, rfl, rfl, hrel⟩ := hrel
    have hbel : Below w.heap.size w wr := by obtain ⟨pre, _, _, _, _, _, h⟩ := hrel; exact h
    have hr2 := hr.below hbel
    by_cases hlt : i < x
    ·have hjl : ∃ ys, ys = l.drop j := ⟨_, rfl⟩
     obtain ⟨ys, hys⟩ := hjl
     rcases hd2 : NM.dec (l.drop j) with _ | ⟨y, q⟩
     ·have hfin : o = none := by
       obtain ⟨pre, h1, h2, h3, h4, h5, h6⟩ := hrel
       rw [← h4, show x - i = (x - (i + 1)) + 1 by omega, NM.liftB_none _ _ _ _ hd2]
      have HF := h! hfin; clear hfin hrel
      have HB := h! hbel; clear hbel
      by_cases hcj : c = j
      ·have hg2 : Calls Tryz.prog 158 #[.slice A 0 0] wr fun e w' => e = .returned (getRes none) ∧ wr = w' := by
        have := refGet_any A 0 0 [] wr Rd.nil (by omega)
        exact this
       subst hcj
       obtain rfl : n = c := by omega
       have HG2 := h! hg2; clear hg2 hr2 hd2 hys
       have HR := h! hr; clear hr
       go_wp2_with (go_at_call 158; refine (HG2.out).mono ?_; rintro e w' ⟨rfl, rfl⟩; unfold getRes)
       go_ret3
       exact ⟨HB.out, .inl ⟨HF.out, rfl⟩⟩
      ·have hg2 := refGet_any (A.map (fun x => x.add j)) (n - j) (c - j) (l.drop j) wr (by rw [← bc_drop]; exact hr2.cutm hjn) (by have := HM.out; omega)
       rw [hd2] at hg2
       have HG2 := h! hg2; clear hg2 hr2 hd2 hys
       have HR := h! hr; clear hr
       go_wp2_with (go_at_call 158; refine (HG2.out).mono ?_; rintro e w' ⟨rfl, rfl⟩; unfold getRes)
       go_ret3
       exact ⟨HB.out, .inl ⟨HF.out, rfl⟩⟩
     ·have hbd := NM.dec_bound _ y q hd2
      rw [List.length_drop, HL.out] at hbd
      obtain ⟨hy, hq1, hqn, hq6, hqd⟩ := hbd
      clear hqd hys
      have hcj : c ≠ j := by omega
      have hg2 := refGet_any (A.map (fun x => x.add j)) (n - j) (c - j) (l.drop j) wr (by rw [← bc_drop]; exact hr2.cutm hjn) (by have := HM.out; omega)
      rw [hd2] at hg2
      obtain ⟨pre, hrel⟩ := hrel
      have hown0 : wr.ownsRow w.heap.size 3 1 u10 i (ic (intsOf pre)) := hrel.2.2.2.2.1
      have hbs := hbel.size
      have HG2 := h! hg2; clear hg2 hr2
      have HR := h! hr; clear hr
      have HD := h! hd2; clear hd2
      have HRel := h! hrel; clear hrel
      go_wp2_with (first
       | (go_at_call 158; refine (HG2.out).mono ?_; rintro e w' ⟨rfl, rfl⟩; unfold getRes)
       | (at_builtin; refine wpList_append_rd _ rfl _ _ 31 rfl w.heap.size 3 i0 (.int .i64 0) 8 Tryz.underlying31 hi hz0 hz1 hz2 rfl _ _ _ rfl (hown0.alloc _) (some ⟨wr.heap.size, 0, none⟩) 1 1 [.int .i64 (y : Int)] rfl (rd_new _ _ _) (by intro u hu; simp at hu; subst hu; rfl) (by unfold maxLen; omega) (by omega) (by simp; omega) ?_; intro v2 w2 hown2 hg2 hob2))
      have hnext := getIntsRel_next HRel.out HL.out hlt HD.out hown2 hg2
      clear hown2 hg2 hob2
      go_roundw
      case rel => exact ⟨i + 1, j + q, by omega, by omega, by go_num, by go_num, hnext⟩
      case measure => simp [intOf]; omega
    ·obtain ⟨pre, g1, g2, g3, h4, h5, h6⟩ := hrel
     obtain rfl : i = x := by omega
     rw [Nat.sub_self, NM.liftB_end] at h4
     have HF := h! h4; clear h4
     have H1 := h! g1; clear g1
     go_wp2
     go_ret3
     refine ⟨h6, .inr ⟨pre, j, _, HF.out.symm, rfl, ?_⟩⟩
     rw [H1.out]
     exact h5
  ·have hfin : NM.getInts l most = none := by unfold NM.getInts; rw [hd]; simp only [if_neg h1]
   have HF := h! hfin; clear hfin hd
   go_enter Tryz.func159, Tryz.ntmps159
   go_wp2_with (go_at_call 158; refine (HG.out).mono ?_; rintro e w' ⟨rfl, rfl⟩; unfold getRes)
   go_ret3
   exact ⟨Below.refl _ _, .inl ⟨HF.out, rfl⟩⟩
end Go.Proofs.YteebeiaokfenmaaGreat

namespace Go.Proofs.YteebeiaokfenmaaGreat.KP
open Go.RowKit CP TP
open CM (Mg Cm)
open TM (Sp)
open KM (Wt Sk)
set_option linter.unusedVariables false
set_option linter.unusedSimpArgs false
set_option maxRecDepth 100000
def BndW (l : List Wt) (id : Int) (lo hi : Nat) : Prop := (∀ t a, t < lo → l[t]? = some a → a.m.id < id) ∧ ∀ t a, hi ≤ t → l[t]? = some a → id ≤ a.m.id
theorem bndw_lo {l : List Wt} {id : Int} {a : Wt} {lo hi m : Nat} (h : BndW l id lo hi) (hp : l.Pairwise fun a b => a.m.id < b.m.id) (ha : l[m]? = some a) (hl : a.m.id < id) : BndW l id (m + 1) hi := by
 refine ⟨fun t b ht hb => ?_, h.2⟩
 rcases Nat.lt_or_ge t m with h1 | h1
 ·have := KM.rise_get hp h1 hb ha
  omega
 ·obtain rfl : t = m := by omega
  rw [ha] at hb
  injection hb with hb
  rw [← hb]; exact hl
theorem bndw_hi {l : List Wt} {id : Int} {a : Wt} {lo hi m : Nat} (h : BndW l id lo hi) (hp : l.Pairwise fun a b => a.m.id < b.m.id) (ha : l[m]? = some a) (hl : ¬ a.m.id < id) : BndW l id lo m := by
 refine ⟨h.1, fun t b ht hb => ?_⟩
 rcases Nat.lt_or_ge m t with h1 | h1
 ·have := KM.rise_get hp h1 ha hb
  omega
 ·obtain rfl : t = m := by omega
  rw [ha] at hb
  injection hb with hb
  rw [← hb]; omega
theorem cmpI_neg {a b : Int} : TM.cmpI a b < 0 ↔ a < b := by unfold TM.cmpI; split <;> (try split) <;> omega
theorem cmpI_zero {a b : Int} : TM.cmpI a b = 0 ↔ a = b := by unfold TM.cmpI; split <;> (try split) <;> omega
def PlcQ (k : Nat) (b : Bool) (w : World) (e : Ending) (w' : World) : Prop := e = .returned (.tuple #[.int .i64 k, .bool b]) ∧ Below w.heap.size w w'
set_option maxHeartbeats 4000000 in
theorem pbs_any (A : Option Addr) (n c : Nat) (l : List Wt) (id : Int) (W : World) (h : KR KW W A n c l) (hp : l.Pairwise fun a b => a.m.id < b.m.id) (hn : n ≤ 2000) :
  Calls Tryz.prog 151 #[.slice A n c, .int .i64 id, .func (.func 152) #[] #[]] W (PlcQ (KM.wpos l id) (KM.whit l id) W) := by
 have HL := h! h.len
 have H := h! (fun w' (hb : Below W.heap.size W w') => h.below hb)
 have HR := h! hp
 have HP := h! (fun k (hk : k ≤ n) (hb : BndW l id k k) => KM.wpos_of (l := l) (id := id) (by have := HL.out; omega) hb.1 (fun a ha => hb.2 k a n! ha))
 have HH := h! (show KM.whit l id = match l[KM.wpos l id]? with | some y => decide (y.m.id = id) | none => false from rfl)
 obtain ⟨K, hK⟩ : ∃ K, K = KM.wpos l id := ⟨_, rfl⟩
 obtain ⟨R, hR⟩ : ∃ R, R = KM.whit l id := ⟨_, rfl⟩
 rw [← hK, ← hR]
 rw [← hR, ← hK] at HH
 rw [← hK] at HP
 clear hK hR h hp
 go_enter Tryz.func151, Tryz.ntmps151
 go_wp2_with fail
 go_loopw [9, 10] (fun a b wr => ∃ (lo hi : Nat), a = .int .i64 lo ∧ b = .int .i64 hi ∧ lo ≤ hi ∧ hi ≤ n ∧ Hid (Below W.heap.size W wr) ∧ Hid (BndW l id lo hi)) (fun a b _ => (intOf b).toNat - (intOf a).toNat)
 case atStart => exact ⟨0, n, rfl, rfl, Nat.zero_le _, Nat.le_refl _, h! (Below.refl _ _), h! ⟨fun t a ht => absurd ht (Nat.not_lt_zero _), fun t a ht ha => by
  have := (List.getElem?_eq_some_iff.1 ha).1
  have := HL.out
  omega⟩⟩
 case round =>
  obtain ⟨lo, hi, rfl, rfl, hlh, hin, HW, I⟩ := hrel
  by_cases hlt : lo < hi
  ·obtain ⟨m, hm⟩ : ∃ m, m = (lo + hi) / 2 := ⟨_, rfl⟩
   have hmi : ((lo : Int) + (hi : Int)) / 2 = (m : Int) := by omega
   have hm1 : lo ≤ m := by omega
   have hm2 : m < hi := by omega
   obtain ⟨a, ha⟩ : ∃ a, l[m]? = some a := ⟨_, List.getElem?_eq_getElem (by have := HL.out; omega)⟩
   obtain ⟨bl, o, Q, q, rfl, _, _, hat, _⟩ := wts_at (H.out _ HW.out) ha
   obtain ⟨a0, a1, a2, a3, a4, a5, a6⟩ := hat
   have HA := h! ha
   have CA := h! (fun w => pcmpId_any Q q a id w)
   obtain ⟨z, hz⟩ : ∃ z, z = TM.cmpI a.m.id id := ⟨_, rfl⟩
   have HZ := h! (show z < 0 ↔ a.m.id < id by rw [hz]; exact cmpI_neg)
   rw [← hz] at CA
   unfold vwt at CA
   clear ha hm hz
   have hm0 : (0 : Int) ≤ (m : Int) := by omega
   have hmn : (m : Int) < (n : Int) := by omega
   go_wp2_with fail
   refine (CA.out _).mono ?_
   rintro e w4 ⟨rfl, hb4⟩
   have HW2 := h! (bmore HW.out hb4 n!)
   clear hb4 CA a0 a1 a2 a3 a4 a5 a6
   by_cases hz : z < 0
   ·have NX := h! (bndw_lo I.out HR.out HA.out (HZ.out.1 hz))
    clear I
    go_wp2_with fail
    go_roundw
    case rel => exact ⟨m + 1, hi, by go_num, rfl, by omega, hin, HW2, NX⟩
    case measure => simp [intOf]; omega
   ·have NX := h! (bndw_hi I.out HR.out HA.out (fun hk => hz (HZ.out.2 hk)))
    clear I
    go_wp2_with fail
    go_roundw
    case rel => exact ⟨lo, m, rfl, by go_num, by omega, by omega, HW2, NX⟩
    case measure => simp [intOf]; omega
  ·obtain rfl : hi = lo := by omega
   obtain rfl : K = hi := (HP.out hi hin I.out).symm ▸ rfl
   clear HP I
   by_cases hkn : K < n
   ·obtain ⟨a, ha⟩ : ∃ a, l[K]? = some a := ⟨_, List.getElem?_eq_getElem (by have := HL.out; omega)⟩
    obtain ⟨bl, o, Q, q, rfl, _, _, hat, _⟩ := wts_at (H.out _ HW.out) ha
    obtain ⟨a0, a1, a2, a3, a4, a5, a6⟩ := hat
    have hh := HH.out
    rw [ha] at hh
    simp only at hh
    have CA := h! (fun w => pcmpId_any Q q a id w)
    obtain ⟨z, hz⟩ : ∃ z, z = TM.cmpI a.m.id id := ⟨_, rfl⟩
    have HZ := h! (show (z == 0) = R by rw [hh, hz, Bool.eq_iff_iff]; simp [cmpI_zero])
    rw [← hz] at CA
    unfold vwt at CA
    clear ha hz hh HH
    have hm0 : (0 : Int) ≤ (K : Int) := by omega
    have hmn : (K : Int) < (n : Int) := by omega
    go_wp2_with fail
    refine (CA.out _).mono ?_
    rintro e w4 ⟨rfl, hb4⟩
    have HW2 := h! (bmore HW.out hb4 n!)
    clear hb4 CA a0 a1 a2 a3 a4 a5 a6
    go_wp2_with fail
    go_ret2
    exact ⟨by rw [← HZ.out]; rfl, HW2.out⟩
   ·have hR : R = false := by
     have := HH.out
     rwa [List.getElem?_eq_none (by have := HL.out; omega)] at this
    subst hR
    go_wp2_with fail
    go_ret2
    exact ⟨rfl, HW.out⟩
set_option maxHeartbeats 1000000 in
theorem pplace_any (A : Option Addr) (n c : Nat) (l : List Wt) (id : Int) (W : World) (h : KR KW W A n c l) (hp : l.Pairwise fun a b => a.m.id < b.m.id) (hn : n ≤ 2000) :
  Calls Tryz.prog 134 #[.slice A n c, .int .i64 id] W (PlcQ (KM.wpos l id) (KM.whit l id) W) := by
 have CB := h! (pbs_any A n c l id W h hp hn)
 generalize KM.wpos l id = K at CB ⊢
 generalize KM.whit l id = R at CB ⊢
 clear h hp
 go_enter Tryz.func134, Tryz.ntmps134
 go_wp2_with fail
 refine (CB.out).mono ?_
 rintro e w1 ⟨rfl, hb⟩
 have HB := h! hb
 clear hb CB
 go_wp2_with fail
 go_ret2
 exact ⟨rfl, HB.out⟩
end Go.Proofs.YteebeiaokfenmaaGreat.KP

namespace Go.Proofs.YteebeiaokfenmaaGreat.CP
open Go.RowKit
open CM (Mg Cm)
set_option linter.unusedVariables false
set_option linter.unusedSimpArgs false
set_option maxRecDepth 100000
theorem may12_any (x : Cm) (v : Value) (w : World) (h : CmIs w v x) (hf : CmFit x) :
  Calls Tryz.prog 114 #[v] w (BoolIs (decide (CM.may x)) w) := by
 obtain ⟨A, c, P, q, rfl, r1, r3⟩ := h
 obtain ⟨k, am, aid, atm, ams, atp, awh, an⟩ := x
 have hm : MgFit am := hf.2.1
 show Calls _ _ #[.agg #[.int .u8 k, .int .i64 am.id, .slice A am.gs.length c, .int .i64 am.tp, .string am.key, .string am.body, .int .i64 aid, .int .i64 atm, .slice P ams.length q, .int .i64 atp, .int .i64 awh, .int .i64 an]] _ _
 by_cases h0 : k = 0
 ·subst h0; exact may12_0 am aid atm ams atp awh an A c P q w r1 r3 hm
 by_cases h1 : k = 1
 ·subst h1; exact may12_1 am aid atm ams atp awh an A c P q w r1 r3 hm
 by_cases h2 : k = 2
 ·subst h2; exact may12_2 am aid atm ams atp awh an A c P q w r1 r3 hm
 by_cases h3 : k = 3
 ·subst h3; exact may12_3 am aid atm ams atp awh an A c P q w r1 r3 hm
 by_cases h4 : k = 4
 ·subst h4; exact may12_4 am aid atm ams atp awh an A c P q w r1 r3 hm
 by_cases h5 : k = 5
 ·subst h5; exact may12_5 am aid atm ams atp awh an A c P q w r1 r3 hm
 by_cases h6 : k = 6
 ·subst h6; exact may12_6 am aid atm ams atp awh an A c P q w r1 r3 hm
 exact may12_k k am aid atm ams atp awh an A c P q w ⟨h0, h1, h2, h3, h4, h5, h6⟩ r1 r3 hm
end Go.Proofs.YteebeiaokfenmaaGreat.CP

namespace Go.Proofs.YteebeiaokfenmaaGreat.KP
open Go.RowKit CP TP
open CM (Mg Cm)
open TM (Sp)
open KM (Wt Sk)
set_option linter.unusedVariables false
set_option linter.unusedSimpArgs false
set_option maxRecDepth 100000
def MinIs (A : Option Addr) (l : List Wt) (w : World) (e : Ending) (w' : World) : Prop :=
 ∃ bl o B d x, A = some ⟨bl, o, none⟩ ∧ l[KM.lst l]? = some x ∧ At7 w bl (o + KM.lst l * 7) B d x ∧ e = .returned (vwt B d x) ∧ Below w.heap.size w w'
def MinR (w : World) (bl o p4 p5 : Nat) (l : List Wt) (k : Nat) (wr : World) : Prop :=
 w.heap.size ≤ p4 ∧ w.heap.size ≤ p5 ∧ p4 ≠ p5 ∧ Below w.heap.size w wr ∧ Box wr p4 78 #[.int .i64 0, .slice none 0 0, .int .i64 0, .string ⟨#[]⟩, .string ⟨#[]⟩, .int .i64 0, .bool false] ∧
  ∃ p B d x, l[p]? = some x ∧ Upto l k p ∧ At7 w bl (o + p * 7) B d x ∧ Box wr p5 78 (wcs B d x)
theorem minR_put {w w5 : World} {bl o p4 p5 : Nat} {l : List Wt} {k : Nat} {b0 b1 b2 b3 b4 b5 b6 : Value} {Q : Option Addr} {q : Nat} {y : Wt} (hk : l[k]? = some y) (hu : Upto l (k + 1) k) (hat : At7 w bl (o + k * 7) Q q y)
  (h1 : w.heap.size ≤ p4 ∧ w.heap.size ≤ p5 ∧ p4 ≠ p5) (h2 : Below w.heap.size w w5) (h3 : Box w5 p4 78 #[.int .i64 0, .slice none 0 0, .int .i64 0, .string ⟨#[]⟩, .string ⟨#[]⟩, .int .i64 0, .bool false]) (h4 : Box w5 p5 78 #[b0, b1, b2, b3, b4, b5, b6]) :
  MinR w bl o p4 p5 l (k + 1) (pt7 w5 p5 (.int .i64 y.m.id) (.slice Q y.m.gs.length q) (.int .i64 y.m.tp) (.string y.m.key) (.string y.m.body) (.int .i64 y.t) (.bool y.f)) :=
 ⟨h1.1, h1.2.1, h1.2.2, pt7_below h2 h1.2.1 _ _ _ _ _ _ _, pt7_far h3 h1.2.2 _ _ _ _ _ _ _, k, Q, q, y, hk, hu, hat, pt7_box h4 _ _ _ _ _ _ _⟩
set_option maxHeartbeats 8000000 in
theorem pmin_any (A : Option Addr) (n c : Nat) (l : List Wt) (w : World) (h : KR KW w A n c l) (hne : l ≠ []) : Calls Tryz.prog 107 #[.slice A n c, .func (.func 108) #[] #[]] w (MinIs A l w) := by
 have HL := h! h.len
 have hn63 := h.small
 have hn0 : 0 < n := by
  have := HL.out
  rcases l with _ | ⟨x, r⟩
  ·exact absurd rfl hne
  ·rw [List.length_cons] at this; omega
 obtain ⟨x0, hx0⟩ : ∃ x0, l[0]? = some x0 := ⟨_, List.getElem?_eq_getElem (by have := HL.out; omega)⟩
 obtain ⟨bl, o, B0, d0, rfl, _, hbl, hat0, _⟩ := wts_at h hx0
 have H := h! (show ∀ k y, l[k]? = some y → ∃ Q q, k < n ∧ At7 w bl (o + k * 7) Q q y from fun k y hy => by
  obtain ⟨bl', o', Q, q, e, h1, h2, h3, _⟩ := wts_at h hy
  injection e with e
  injection e with e1 e2
  subst e1 e2
  exact ⟨Q, q, h1, h3⟩)
 have HBL := h! hbl
 have H1 := h! (upto_one hne)
 have HX0 := h! hx0
 have HA0 := h! hat0
 have HRES := h! (fun e w' => show (∃ p B d x, l[p]? = some x ∧ KM.lst l = p ∧ At7 w bl (o + p * 7) B d x ∧ e = .returned (vwt B d x) ∧ Below w.heap.size w w') → MinIs (some ⟨bl, o, none⟩) l w e w' from fun ⟨p, B, d, x, g1, g2, g3, g4, g5⟩ => ⟨bl, o, B, d, x, rfl, by rw [g2]; exact g1, by rw [g2]; exact g3, g4, g5⟩)
 have HB := h! (show Below w.heap.size w (w.alloc (.cells #[.int .i64 0, .slice none 0 0, .int .i64 0, .string ⟨#[]⟩, .string ⟨#[]⟩, .int .i64 0, .bool false] 78)) from (Below.refl _ _).alloc n! _)
 have Y := h! (Box.new w 78 #[.int .i64 0, .slice none 0 0, .int .i64 0, .string ⟨#[]⟩, .string ⟨#[]⟩, .int .i64 0, .bool false])
 have HS := h! (show w.heap.size < (w.alloc (.cells #[.int .i64 0, .slice none 0 0, .int .i64 0, .string ⟨#[]⟩, .string ⟨#[]⟩, .int .i64 0, .bool false] 78)).heap.size by simp)
 clear h hne hx0 hbl hat0
 go_enter Tryz.func107, Tryz.ntmps107
 go_upto_region 1 with (fail)
 generalize w.alloc (.cells #[.int .i64 0, .slice none 0 0, .int .i64 0, .string ⟨#[]⟩, .string ⟨#[]⟩, .int .i64 0, .bool false] 78) = w1 at HB Y HS ⊢
 obtain ⟨p4, hp4⟩ : ∃ p4, w.heap.size = p4 := ⟨_, rfl⟩
 rw [hp4] at Y
 simp only [hp4]
 have HP4 := h! hp4
 clear hp4
 have hn1 : ¬ ((n : Int) < 1) := by omega
 have hn2 : (0 : Int) < (n : Int) := by omega
 obtain ⟨a0, a1, a2, a3, a4, a5, a6⟩ := HA0.out.below HBL.out HB.out
 obtain ⟨⟨xi, xg, xt, xk, xb⟩, xm, xf⟩ := x0
 simp only at a0 a1 a2 a3 a4 a5 a6
 simp only [Nat.zero_mul, Nat.add_zero] at a0 a1 a2 a3 a4 a5 a6
 go_upto_region 4 with (fail)
 have hst : MinR w bl o p4 w1.heap.size l 1 (w1.alloc (.cells #[.int .i64 xi, .slice B0 xg.length d0, .int .i64 xt, .string xk, .string xb, .int .i64 xm, .bool xf] 78)) := by
  have h1 := HS.out
  have h2 := HP4.out
  exact ⟨by omega, by omega, by omega, bmore HB.out ((Below.refl _ _).alloc n! _) n!, Y.out.alloc _, 0, B0, d0, _, HX0.out, H1.out, HA0.out, Box.new _ _ _⟩
 have HT := h! hst
 clear hst a0 a1 a2 a3 a4 a5 a6 HB Y HS H1 HA0 HX0
 generalize w1.alloc (.cells #[.int .i64 xi, .slice B0 xg.length d0, .int .i64 xt, .string xk, .string xb, .int .i64 xm, .bool xf] 78) = w2 at HT ⊢
 generalize w1.heap.size = p5 at HT ⊢
 go_wp2_with fail
 go_loopw [6] (fun i wr => ∃ k : Nat, k ≤ n ∧ i = .int .i64 k ∧ Hid (MinR w bl o p4 p5 l k wr)) (fun i _ => n - (intOf i).toNat)
 case atStart => exact ⟨1, by omega, rfl, HT⟩
 case round =>
  clear HT
  obtain ⟨k, hk, rfl, HT⟩ := hrel
  by_cases hlt : k < n
  ·obtain ⟨y, hy⟩ : ∃ y, l[k]? = some y := ⟨_, List.getElem?_eq_getElem (by have := HL.out; omega)⟩
   have HY := h! hy
   obtain ⟨hp1, hp2, hp3, hb, hx4, p, B, d, x, hx, hu, hat, hx5⟩ := HT.out
   obtain ⟨Q, q, _, haty⟩ := H.out k y hy
   have HPP := h! (And.intro hp1 (And.intro hp2 hp3))
   have HB := h! hb
   have X4 := h! hx4
   have X5 := h! hx5
   have HX := h! hx
   have HU := h! hu
   have HAX := h! hat
   have HAY := h! haty
   obtain ⟨b0, b1, b2, b3, b4, b5, b6⟩ := haty.below HBL.out hb
   obtain ⟨a0, a1, a2, a3, a4, a5, a6⟩ := box_wt hx5
   clear hy hp1 hp2 hp3 hb hx4 hx hu hat hx5 haty HT
   have hk0 : (0 : Int) ≤ (k : Int) := by omega
   have hkn : (k : Int) < (n : Int) := by omega
   obtain ⟨z, hz⟩ : ∃ z, z = ordS (KM.stp y) (KM.stp x) := ⟨_, rfl⟩
   have HZ := h! (show z < 0 ↔ TM.less (KM.stp y) (KM.stp x) = true by rw [hz]; exact ordS_neg)
   have C1 := h! (fun w => pinOrder_any Q B q d y x w)
   rw [← hz] at C1
   clear hz
   have HYE := h! (fun (W : World) (g : Nat) => show pt7 W g (.int .i64 y.m.id) (.slice Q y.m.gs.length q) (.int .i64 y.m.tp) (.string y.m.key) (.string y.m.body) (.int .i64 y.t) (.bool y.f) = pt7 W g (.int .i64 y.m.id) (.slice Q y.m.gs.length q) (.int .i64 y.m.tp) (.string y.m.key) (.string y.m.body) (.int .i64 y.t) (.bool y.f) from rfl)
   obtain ⟨⟨yi, yg, yt, yk, yb⟩, ym, yf⟩ := y
   obtain ⟨⟨xi, xg, xt, xk, xb⟩, xm, xf⟩ := x
   unfold vwt at C1
   unfold wcs at X5
   simp only at a0 a1 a2 a3 a4 a5 a6 b0 b1 b2 b3 b4 b5 b6 C1 X5
   have HSS := h! (fun (w' : World) (h : Below wr.heap.size wr w') => show w'.cell? ⟨bl, o + k * 7, none⟩ = some (.int .i64 yi) ∧ w'.cell? ⟨bl, o + k * 7 + 1, none⟩ = some (.slice Q yg.length q) ∧ w'.cell? ⟨bl, o + k * 7 + 2, none⟩ = some (.int .i64 yt) ∧ w'.cell? ⟨bl, o + k * 7 + 3, none⟩ = some (.string yk) ∧ w'.cell? ⟨bl, o + k * 7 + 4, none⟩ = some (.string yb) ∧ w'.cell? ⟨bl, o + k * 7 + 5, none⟩ = some (.int .i64 ym) ∧ w'.cell? ⟨bl, o + k * 7 + 6, none⟩ = some (.bool yf) ∧ w'.cell? ⟨p5, 0, none⟩ = some (.int .i64 xi) ∧ w'.cell? ⟨p5, 1, none⟩ = some (.slice B xg.length d) ∧ w'.cell? ⟨p5, 2, none⟩ = some (.int .i64 xt) ∧ w'.cell? ⟨p5, 3, none⟩ = some (.string xk) ∧ w'.cell? ⟨p5, 4, none⟩ = some (.string xb) ∧ w'.cell? ⟨p5, 5, none⟩ = some (.int .i64 xm) ∧ w'.cell? ⟨p5, 6, none⟩ = some (.bool xf) from
    ⟨(h.cell (cell_block b0)).trans b0, (h.cell (cell_block b1)).trans b1, (h.cell (cell_block b2)).trans b2, (h.cell (cell_block b3)).trans b3, (h.cell (cell_block b4)).trans b4, (h.cell (cell_block b5)).trans b5, (h.cell (cell_block b6)).trans b6, (h.cell (cell_block a0)).trans a0, (h.cell (cell_block a1)).trans a1, (h.cell (cell_block a2)).trans a2, (h.cell (cell_block a3)).trans a3, (h.cell (cell_block a4)).trans a4, (h.cell (cell_block a5)).trans a5, (h.cell (cell_block a6)).trans a6⟩)
   have bb1 : Below wr.heap.size wr wr.drew := (Below.refl _ _).drew
   go_wp2_with fail
   obtain ⟨ud, hud⟩ : ∃ ud, ud = wr.drew := ⟨_, rfl⟩
   refine wp_region_held_drew (S := fun w' => w'.cell? ⟨bl, o + k * 7, none⟩ = some (.int .i64 yi) ∧ w'.cell? ⟨bl, o + k * 7 + 1, none⟩ = some (.slice Q yg.length q) ∧ w'.cell? ⟨bl, o + k * 7 + 2, none⟩ = some (.int .i64 yt) ∧ w'.cell? ⟨bl, o + k * 7 + 3, none⟩ = some (.string yk) ∧ w'.cell? ⟨bl, o + k * 7 + 4, none⟩ = some (.string yb) ∧ w'.cell? ⟨bl, o + k * 7 + 5, none⟩ = some (.int .i64 ym) ∧ w'.cell? ⟨bl, o + k * 7 + 6, none⟩ = some (.bool yf) ∧ w'.cell? ⟨p5, 0, none⟩ = some (.int .i64 xi) ∧ w'.cell? ⟨p5, 1, none⟩ = some (.slice B xg.length d) ∧ w'.cell? ⟨p5, 2, none⟩ = some (.int .i64 xt) ∧ w'.cell? ⟨p5, 3, none⟩ = some (.string xk) ∧ w'.cell? ⟨p5, 4, none⟩ = some (.string xb) ∧ w'.cell? ⟨p5, 5, none⟩ = some (.int .i64 xm) ∧ w'.cell? ⟨p5, 6, none⟩ = some (.bool xf)) (by kernel_rfl) (HSS.out _ bb1) (fun hHeld => ?_)
   rw [← hud] at bb1 hHeld ⊢
   clear hud
   refine qT 0 ?_; try simp only [Act.put, qq]
   refine qT 1 ?_; try simp only [Act.put, qq]
   refine qT 2 ?_; try simp only [Act.put, qq]
   refine qT 3 ?_; try simp only [Act.put, qq]
   refine qT 4 ?_; try simp only [Act.put, qq]
   refine qT 5 ?_; try simp only [Act.put, qq]
   refine qR 6 fun K hK => ?_
   go_simp
   refine (C1.out _).mono ?_
   rintro e w5 ⟨rfl, hb⟩
   have bb2 := bmore bb1 hb n!
   clear hb
   refine hK.out _ _ (HSS.out _ bb2) (fun hHeld => ?_)
   clear hK
   try simp only [Act.put, qq]
   refine qT 7 ?_; try simp only [Act.put, qq]
   refine wpAnyH_done (by kernel_rfl) ?_ _
   clear hHeld HSS
   have HN := h! (bmore HB.out bb2 n!)
   have X4n := h! (X4.out.below bb2 X4.out.lt)
   have X5n := h! (X5.out.below bb2 X5.out.lt)
   clear C1 b0 b1 b2 b3 b4 b5 b6 a0 a1 a2 a3 a4 a5 a6
   by_cases hz0 : z < 0
   ·have HF := h! (HU.out.turn HX.out HY.out (HZ.out.1 hz0))
    have NX := h! (minR_put HY.out HF.out HAY.out HPP.out HN.out X4n.out X5n.out)
    obtain ⟨b0, b1, b2, b3, b4, b5, b6⟩ := HAY.out.below HBL.out HN.out
    obtain ⟨⟨c0, c1, c2, c3, c4, c5, c6⟩, f0, f1, f2, f3, f4, f5, f6⟩ := box_wtf X5n.out
    simp only at b0 b1 b2 b3 b4 b5 b6
    go_wp2_with fail
    go_roundw
    case rel => exact ⟨k + 1, by omega, by go_num, NX⟩
    case measure => simp [intOf]; omega
   ·have HF := h! (HU.out.keep HX.out HY.out (by
     cases hl : TM.less (KM.stp ⟨⟨yi, yg, yt, yk, yb⟩, ym, yf⟩) (KM.stp ⟨⟨xi, xg, xt, xk, xb⟩, xm, xf⟩)
     ·rfl
     ·exact absurd (HZ.out.2 hl) hz0))
    have NX := h! (show MinR w bl o p4 p5 l (k + 1) w5 from ⟨HPP.out.1, HPP.out.2.1, HPP.out.2.2, HN.out, X4n.out, p, B, d, _, HX.out, HF.out, HAX.out, X5n.out⟩)
    go_wp2_with fail
    go_roundw
    case rel => exact ⟨k + 1, by omega, by go_num, NX⟩
    case measure => simp [intOf]; omega
  ·obtain ⟨hp1, hp2, hp3, hb, hx4, p, B, d, x, hx, hu, hat, hx5⟩ := HT.out
   have HF := h! (hu.all (by have := HL.out; omega))
   have HB := h! hb
   have HX := h! hx
   have HAX := h! hat
   have HQ := h! hp1
   obtain ⟨a0, a1, a2, a3, a4, a5, a6⟩ := box_wt hx5
   obtain ⟨⟨c0, c1, c2, c3, c4, c5, c6⟩, f0, f1, f2, f3, f4, f5, f6⟩ := box_wtf hx4
   have Z4 := h! (pt7_box hx4 (.int .i64 x.m.id) (.slice B x.m.gs.length d) (.int .i64 x.m.tp) (.string x.m.key) (.string x.m.body) (.int .i64 x.t) (.bool x.f))
   have ZB := h! (pt7_below hb hp1 (.int .i64 x.m.id) (.slice B x.m.gs.length d) (.int .i64 x.m.tp) (.string x.m.key) (.string x.m.body) (.int .i64 x.t) (.bool x.f))
   unfold pt7 at Z4 ZB
   clear hp1 hp2 hp3 hb hx4 hx hu hat hx5 HT
   go_wp2_with fail
   obtain ⟨u0, u1, u2, u3, u4, u5, u6⟩ := box_wt Z4.out
   exact bodyPost_ret (v := .agg #[.int .i64 x.m.id, .slice B x.m.gs.length d, .int .i64 x.m.tp, .string x.m.key, .string x.m.body, .int .i64 x.t, .bool x.f]) (by simp [results, Tryz.results107, go_sem, u0, u1, u2, u3, u4, u5, u6]; try rfl) rfl (HRES.out _ _ ⟨p, B, d, x, HX.out, HF.out, HAX.out, rfl, ZB.out⟩)
end Go.Proofs.YteebeiaokfenmaaGreat.KP
