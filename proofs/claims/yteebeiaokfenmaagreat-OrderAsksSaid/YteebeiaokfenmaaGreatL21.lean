/- Contracts of functions, L21: each as its theorem says. -/
import Derived.Test.YteebeiaokfenmaaGreatL19
import Derived.Test.YteebeiaokfenmaaGreatL16
import Derived.Test.YteebeiaokfenmaaGreatL18
set_option linter.unusedVariables false
set_option linter.unusedSimpArgs false
set_option maxRecDepth 100000
set_option maxHeartbeats 16000000
namespace Go.Proofs.YteebeiaokfenmaaGreat
namespace CP
open Go.RowKit
open CM (Mg Cm)
theorem front_5 (A : Option Addr) (n c : Nat) (l : List UInt8) (w : World) (hr : Rd w A n (bc l)) (h1 : n ≤ c) (h2 : c ≤ maxLen) (i : Bool) (hf : Fl (RM.fk l : Nat) false false false true false i) (hk : RM.fk l = 5 ∨ RM.fk l = 6) :
  Calls Tryz.prog 100 #[.slice A n c] w (FrontPost w l) := by
 have CF := h! (fun w => fields_any hf w)
 have S := h! (f0_new hr h1 h2)
 have hm := h! (show ((RM.gt l).1 : Int) % 256 = (RM.fk l : Int) by unfold RM.fk; omega)
 have HE := h! (show fr l = (⟨(RM.fk l : Nat), CM.mz, ((RM.gt (RM.f1 l)).1 : Nat), 0, [], ((RM.gt (RM.gt (RM.f1 l)).2).1 : Nat), 0, ((RM.gt (RM.gt (RM.gt (RM.f1 l)).2).2).1 : Nat)⟩ : Cm) by unfold fr frB; rw [if_neg (by omega), if_neg (by omega), if_neg (by omega), if_neg (by omega), if_pos hk]; try rfl)
 clear hf hr hk
 go_enter Tryz.func100, Tryz.ntmps100
 go_upto_region 5 with (fail)
 generalize ((w.alloc (.cells #[.slice A n c] 120)).alloc (.cells #[.int .u8 0, .int .i64 0, .slice none 0 0, .int .i64 0, .string ⟨#[]⟩, .string ⟨#[]⟩, .int .i64 0, .int .i64 0, .slice none 0 0, .int .i64 0, .int .i64 0, .int .i64 0] 91)).alloc (.cells #[.int .u8 0, .int .i64 0, .slice none 0 0, .int .i64 0, .string ⟨#[]⟩, .string ⟨#[]⟩, .int .i64 0, .int .i64 0, .slice none 0 0, .int .i64 0, .int .i64 0, .int .i64 0] 91) = w1 at S ⊢
 generalize w.heap.size = g at S ⊢
 go_wp2_with fail
 refine (number_any g l w1 S.out.1).mono ?_
 rintro e w2 ⟨rfl, hn, hk⟩
 replace S := h! (S.out.num hn hk)
 clear hn hk
 have c0 := S.out.2.1.cell 0
 have f0 := S.out.2.1.frozen 0
 simp at c0
 go_upto_region 6 with (fail)
 clear c0 f0
 simp only [hm.out]
 replace S := h! (show F0 w _ g (RM.f1 l) #[.int .u8 (RM.fk l), .int .i64 0, .slice none 0 0, .int .i64 0, .string ⟨#[]⟩, .string ⟨#[]⟩, .int .i64 0, .int .i64 0, .slice none 0 0, .int .i64 0, .int .i64 0, .int .i64 0] from S.out.put 0 (.int .u8 (RM.fk l)))
 generalize w2.setCell ⟨g + 1 + 1, 0, none⟩ (.int .u8 (RM.fk l)) = w1 at S ⊢
 have c0 := S.out.2.1.cell 0
 simp at c0
 go_wp2_with fail
 refine (CF.out _).mono ?_
 rintro e w3 ⟨rfl, hb3⟩
 have S := h! (fr_at S.out hb3 false false false true false)
 clear hb3 CF c0
 go_upto_region 7 with (fail)
 generalize w3.alloc (.cells #[.bool false, .bool false, .bool false, .bool true, .bool false] 126) = w1 at S ⊢
 generalize w3.heap.size = f at S ⊢
 obtain ⟨y0, y1, y2, y3, y4⟩ := box_mg S.out.2.1
 go_wp2_with fail
 clear y0 y1 y2 y3 y4
 refine (number_any g _ _ S.out.1.1).mono ?_
 rintro e w2 ⟨rfl, hn, hk⟩
 replace S := h! (S.out.num hn hk)
 clear hn hk
 go_wp2_with fail
 refine (number_any g _ _ S.out.1.1).mono ?_
 rintro e w2 ⟨rfl, hn, hk⟩
 replace S := h! (S.out.num hn hk)
 clear hn hk
 have c6 := S.out.1.2.1.cell 6
 have f6 := S.out.1.2.1.frozen 6
 simp at c6
 have c9 := S.out.1.2.1.cell 9
 have f9 := S.out.1.2.1.frozen 9
 simp at c9
 go_upto_region 19 with (fail)
 clear c6 f6 c9 f9
 replace S := h! (show Fr w _ g f (RM.gt (RM.gt (RM.f1 l)).2).2 #[.int .u8 (RM.fk l), .int .i64 0, .slice none 0 0, .int .i64 0, .string ⟨#[]⟩, .string ⟨#[]⟩, .int .i64 (RM.gt (RM.f1 l)).1, .int .i64 0, .slice none 0 0, .int .i64 (RM.gt (RM.gt (RM.f1 l)).2).1, .int .i64 0, .int .i64 0] false false false true false none 0 [] from ((S.out).put 6 (.int .i64 (RM.gt (RM.f1 l)).1)).put 9 (.int .i64 (RM.gt (RM.gt (RM.f1 l)).2).1))
 generalize World.setCell _ ⟨g + 1 + 1, 9, none⟩ _ = wz at S ⊢
 obtain ⟨y0, y1, y2, y3, y4⟩ := box_mg S.out.2.1
 go_wp2_with fail
 clear y0 y1 y2 y3 y4
 refine (number_any g _ _ S.out.1.1).mono ?_
 rintro e w2 ⟨rfl, hn, hk⟩
 replace S := h! (S.out.num hn hk)
 clear hn hk
 have c11 := S.out.1.2.1.cell 11
 have f11 := S.out.1.2.1.frozen 11
 simp at c11
 go_upto_region 22 with (fail)
 clear c11 f11
 replace S := h! (show Fr w _ g f (RM.gt (RM.gt (RM.gt (RM.f1 l)).2).2).2 #[.int .u8 (RM.fk l), .int .i64 0, .slice none 0 0, .int .i64 0, .string ⟨#[]⟩, .string ⟨#[]⟩, .int .i64 (RM.gt (RM.f1 l)).1, .int .i64 0, .slice none 0 0, .int .i64 (RM.gt (RM.gt (RM.f1 l)).2).1, .int .i64 0, .int .i64 (RM.gt (RM.gt (RM.gt (RM.f1 l)).2).2).1] false false false true false none 0 [] from (S.out).put 11 (.int .i64 (RM.gt (RM.gt (RM.gt (RM.f1 l)).2).2).1))
 generalize World.setCell _ ⟨g + 1 + 1, 11, none⟩ _ = wz at S ⊢
 obtain ⟨y0, y1, y2, y3, y4⟩ := box_mg S.out.2.1
 obtain ⟨c0, c1, c2, c3, c4, c5, c6, c7, c8, c9, c10, c11⟩ := box_cm S.out.1.2.1
 obtain ⟨d0, d1, d2, d3, d4, d5, d6, d7, d8, d9, d10, d11⟩ := box_cm S.out.1.2.2.1
 have g0 := S.out.1.2.2.1.frozen 0
 have g1 := S.out.1.2.2.1.frozen 1
 have g2 := S.out.1.2.2.1.frozen 2
 have g3 := S.out.1.2.2.1.frozen 3
 have g4 := S.out.1.2.2.1.frozen 4
 have g5 := S.out.1.2.2.1.frozen 5
 have g6 := S.out.1.2.2.1.frozen 6
 have g7 := S.out.1.2.2.1.frozen 7
 have g8 := S.out.1.2.2.1.frozen 8
 have g9 := S.out.1.2.2.1.frozen 9
 have g10 := S.out.1.2.2.1.frozen 10
 have g11 := S.out.1.2.2.1.frozen 11
 have HG := h! S.out.1.2.2.2.1
 have HB := h! S.out.1.2.2.2.2
 have HRow := h! S.out.2.2.2
 clear S
 go_wp2_with fail
 refine bodyPost_ret (v := .agg #[.int .u8 (RM.fk l), .int .i64 0, .slice none 0 0, .int .i64 0, .string ⟨#[]⟩, .string ⟨#[]⟩, .int .i64 (RM.gt (RM.f1 l)).1, .int .i64 0, .slice none 0 0, .int .i64 (RM.gt (RM.gt (RM.f1 l)).2).1, .int .i64 0, .int .i64 (RM.gt (RM.gt (RM.gt (RM.f1 l)).2).2).1]) (by simp [results, Tryz.results100, go_sem, d0, d1, d2, d3, d4, d5, d6, d7, d8, d9, d10, d11]; try rfl) rfl ?_
 unfold FrontPost
 rw [HE.out]
 have hrow := HRow.out.put12 (show g + 1 < g + 1 + 1 + 1 by omega) (.int .u8 (RM.fk l)) (.int .i64 0) (.slice none 0 0) (.int .i64 0) (.string ⟨#[]⟩) (.string ⟨#[]⟩) (.int .i64 (RM.gt (RM.f1 l)).1) (.int .i64 0) (.slice none 0 0) (.int .i64 (RM.gt (RM.gt (RM.f1 l)).2).1) (.int .i64 0) (.int .i64 (RM.gt (RM.gt (RM.gt (RM.f1 l)).2).2).1)
 refine ⟨_, rfl, ⟨none, 0, none, 0, ?_, RowGe.none _ _, RowGe.none _ _⟩, put12_below HB.out (by rw [← HG.out]; omega) (.int .u8 (RM.fk l)) (.int .i64 0) (.slice none 0 0) (.int .i64 0) (.string ⟨#[]⟩) (.string ⟨#[]⟩) (.int .i64 (RM.gt (RM.f1 l)).1) (.int .i64 0) (.slice none 0 0) (.int .i64 (RM.gt (RM.gt (RM.f1 l)).2).1) (.int .i64 0) (.int .i64 (RM.gt (RM.gt (RM.gt (RM.f1 l)).2).2).1)⟩
 try simp only [ccells, CM.mz, zsl, List.length_nil]
 try rfl
end CP
section
open Go.RowKit
theorem refGetText_any (A : Option Addr) (n c : Nat) (l : List UInt8) (w : World) (hr : Rd w A n (bc l)) (hnc : n ≤ c) (hm : c ≤ maxLen) :
  Calls Tryz.prog 160 #[.slice A n c] w fun e w' => e = .returned (textRes (NM.getText l)) ∧ w = w' := by
 have hg := refGet_any A n c l w hr (Nat.le_trans hnc hm)
 unfold maxLen at hm
 have hl : l.length = n := by have := hr.1; rwa [bc_length] at this
 have HL := h! hl; clear hl
 rcases hd : NM.dec l with _ | ⟨x, k⟩
 ·rw [hd] at hg
  have hfin : NM.getText l = none := by unfold NM.getText; rw [hd]
  have HF := h! hfin; clear hfin hd
  have HG := h! hg; clear hg
  go_enter Tryz.func160, Tryz.ntmps160
  go_wp2_with (go_at_call 158; refine (HG.out).mono ?_; rintro e w' ⟨rfl, rfl⟩; unfold getRes)
  go_ret3
  rw [HF.out]
  exact ⟨rfl, rfl⟩
 ·have hb := NM.dec_bound l x k hd
  rw [hd] at hg
  obtain ⟨hx, hk1, hkl, hk6, _⟩ := hb
  rw [HL.out] at hkl
  have hfin : NM.getText l = if x ≤ 4096 ∧ x ≤ n - k then some ((l.drop k).take x, k + x) else none := by unfold NM.getText; rw [hd]; simp only [HL.out]
  have HF := h! hfin; clear hfin hd
  have HG := h! hg; clear hg
  by_cases h1 : x ≤ 4096
  ·by_cases h2 : x ≤ n - k
   ·have hkx : k + x ≤ n := by omega
    have hc1 : ∀ cap, (convert 120 9 (.slice (Option.map (fun x => x.add k) A) x cap)).run Tryz.prog w = .ok (.string ⟨((l.drop k).take x).toArray⟩) w := fun cap =>
     run_string_of w _ _ 5 _ _ cap ((l.drop k).take x) Tryz.underlying120 Tryz.underlying5 Tryz.underlying9 (by rw [← bc_take, ← bc_drop]; exact hr.mid hkx)
    obtain ⟨t, ht⟩ : ∃ t, t = (l.drop k).take x := ⟨_, rfl⟩
    rw [← ht] at hc1
    have HT := h! ht; clear ht
    have HR := h! hr; clear hr
    by_cases hck : c = k
    ·obtain rfl : x = 0 := by omega
     have hc2 : ∀ cap, (convert 120 9 (.slice A 0 cap)).run Tryz.prog w = .ok (.string ⟨t.toArray⟩) w := fun cap =>
      run_string_of w _ _ 5 _ _ cap t Tryz.underlying120 Tryz.underlying5 Tryz.underlying9 (by rw [HT.out]; simpa [bc] using Rd.nil)
     subst hck
     go_enter Tryz.func160, Tryz.ntmps160
     go_wp2_with (go_at_call 158; refine (HG.out).mono ?_; rintro e w' ⟨rfl, rfl⟩; unfold getRes)
     go_ret3
     rw [HF.out, if_pos (by omega), HT.out]
     exact ⟨rfl, rfl⟩
    ·go_enter Tryz.func160, Tryz.ntmps160
     go_wp2_with (go_at_call 158; refine (HG.out).mono ?_; rintro e w' ⟨rfl, rfl⟩; unfold getRes)
     go_ret3
     rw [HF.out, if_pos (by omega), HT.out]
     exact ⟨rfl, rfl⟩
   ·have h2' : (n : Int) - k < x := by omega
    go_enter Tryz.func160, Tryz.ntmps160
    go_wp2_with (go_at_call 158; refine (HG.out).mono ?_; rintro e w' ⟨rfl, rfl⟩; unfold getRes)
    go_ret3
    rw [HF.out, if_neg (by omega)]
    exact ⟨rfl, rfl⟩
  ·go_enter Tryz.func160, Tryz.ntmps160
   go_wp2_with (go_at_call 158; refine (HG.out).mono ?_; rintro e w' ⟨rfl, rfl⟩; unfold getRes)
   go_ret3
   rw [HF.out, if_neg (by omega)]
   exact ⟨rfl, rfl⟩
end
namespace KP
open Go.RowKit CP TP
open CM (Mg Cm)
open TM (Sp)
open KM (Wt Sk)
theorem rwithout_any (b : Nat) (A : Option Addr) (n c : Nat) (l : List Wt) (j : Nat) (w : World) (h : KG KW w b A n c l) (hn : n ≤ 4000) (hb : b ≤ w.heap.size) :
  Calls Tryz.prog 122 #[.slice A n c, .int .i64 (j : Int)] w (WtsNew b (l.eraseIdx j) w) := by
 obtain ⟨j0, hj, hy0, hy1, hy2⟩ := info_parts info_wt
 have HLA := h! h.r.len
 have hn63 := h.r.small
 have H0 := h! h
 have HB := h! (Below.refl w.heap.size w)
 obtain ⟨w1, hw1⟩ : ∃ w1, w1 = w := ⟨_, rfl⟩
 have hbw1 : b ≤ w1.heap.size := by rw [hw1]; exact hb
 have hww1 : w.heap.size ≤ w1.heap.size := by rw [hw1]; exact Nat.le_refl _
 have HW := h! hw1
 rw [← hw1]
 rw [← hw1] at HB H0
 clear h hw1
 go_enter Tryz.func122, Tryz.ntmps122
 go_wp2_with fail
 go_loopw [5, 6] (fun s i wr => ∃ k : Nat, ∃ A9 n9 c9, k ≤ n ∧ s = .slice A9 n9 c9 ∧ i = .int .i64 k ∧ Below w1.heap.size w1 wr ∧ Hid (Grow w1.heap.size b A9 n9 c9 ((l.take k).eraseIdx j) wr)) (fun _ i _ => n - (intOf i).toNat)
 case atStart => exact ⟨0, none, 0, 0, by omega, rfl, rfl, Below.refl _ _, h! (by simpa using grow_nil w1.heap.size b w1)⟩
 case round =>
  obtain ⟨k, A9, n9, c9, hk, rfl, rfl, hB, HG⟩ := hrel
  have HB2 := h! (bmore HB.out hB n!)
  have HBr := h! hB
  clear hB
  have hn9 : n9 ≤ 4096 := by
   have h1 := HG.out.len
   have h2 := List.length_eraseIdx_le (l.take k) j
   rw [List.length_take] at h2
   omega
  by_cases hlt : k < n
  ·obtain ⟨a, ha⟩ : ∃ a, l[k]? = some a := ⟨_, List.getElem?_eq_getElem (by have := HLA.out; omega)⟩
   have HA := h! ha
   obtain ⟨bl, o, P, q, rfl, _, hbl, hat, hrow⟩ := wtsG_at H0.out ha
   have HRW := h! (And.intro hrow (fun ad (e : P = some ad) hn => row_lt hrow.1 e hn))
   have HAT := h! (fun W (hb : Below wr.heap.size wr W) => hat.below hbl (bmore HB2.out hb n!))
   obtain ⟨a0, a1, a2, a3, a4, a5, a6⟩ := HAT.out _ (Below.refl _ _)
   clear ha hat hrow hbl
   have hk0 : (0 : Int) ≤ (k : Int) := by omega
   have hkn : (k : Int) < (n : Int) := by omega
   have HP1 := h! (erase_take (j := j) HA.out)
   by_cases hc : k = j
   ·have HN := h! (show Grow w1.heap.size b A9 n9 c9 ((l.take (k + 1)).eraseIdx j) wr by rw [HP1.out, if_pos hc]; exact HG.out)
    have e1 : ((k : Int) != (j : Int)) = false := by simp; omega
    clear hc
    go_wp2_with fail
    go_roundw
    case rel => exact ⟨k + 1, A9, n9, c9, by omega, rfl, by go_num, HBr.out, HN⟩
    case measure => simp [intOf]; omega
   ·have HP := h! (show (l.take (k + 1)).eraseIdx j = (l.take k).eraseIdx j ++ [a] by rw [HP1.out, if_neg hc])
    have e1 : ((k : Int) != (j : Int)) = true := by simp; omega
    clear hc
    have HRW3 := h! (HRW.out.1.below HB2.out)
    have HNE3 := h! (show ∀ ad, P = some ad → 0 < (KW.gs a).length → (Value.slice A9 n9 c9).ownBlock ≠ some ad.block from fun ad e hn kk => by have h1 := HG.out.2 _ kk; have h2 := HRW.out.2 ad e hn; omega)
    have HBS3 := h! (show b ≤ wr.heap.size from Nat.le_trans hbw1 HBr.out.size)
    obtain ⟨⟨ai, ag, at_, ak, ab⟩, am, af⟩ := a
    simp only at a0 a1 a2 a3 a4 a5 a6
    go_wp2_with (at_builtin; refine wpList_append_ko rfl _ _ 37 rfl 78 j0 _ 88 Tryz.underlying37 hj hy0 hy1 hy2 rfl rfl (HG.out).1 rfl #[.int .i64 ai, .slice P ag.length q, .int .i64 at_, .string ak, .string ab, .int .i64 am, .bool af] (show _ = KW.cel P q ⟨⟨ai, ag, at_, ak, ab⟩, am, af⟩ from rfl) (HRW3.out) (HNE3.out) (by unfold maxLen; omega) (by omega) HBS3.out ?_; intro A7 c7 w6 hko hgr hob; have HKO := h! hko; have HGR := h! hgr; have HOB := h! hob; clear hko hgr hob)
    obtain ⟨hn1, hn2⟩ := grow_step HG.out (show w1.heap.size ≤ wr.heap.size from HBr.out.size) hbw1 HKO.out HGR.out HOB.out
    rw [← HP.out] at hn1
    have HN1 := h! hn1
    have HN2 := h! (HBr.out.trans hn2)
    clear hn1 hn2
    go_roundw
    case rel => exact ⟨k + 1, A7, n9 + 1, c7, by omega, rfl, by go_num, HN2.out, HN1⟩
    case measure => simp [intOf]; omega
  ·have HF := h! (show Grow w1.heap.size b A9 n9 c9 (l.eraseIdx j) wr by
    have := HG.out
    rwa [List.take_of_length_le (by have := HLA.out; omega)] at this)
   go_wp2_with fail
   go_ret
   exact ⟨A9, n9, c9, rfl, HF.out.1, HB2.out⟩
theorem pagree16_any (A B : Option Addr) (n m ca cb : Nat) (x y : List Sp) (w : World) (h1 : SpsIs w A n ca x) (h2 : SpsIs w B m cb y) (hn4 : n ≤ 4096) (hm4 : m ≤ 4096) (hi1 : ∀ s ∈ x, i64In s.i) (hi2 : ∀ s ∈ y, i64In s.i) :
  Calls Tryz.prog 17 #[.slice A n ca, .slice B m cb] w (IsB (OM.agreeF x y) w) := by
 have K1 := h! (pcommon16_any A B n m ca cb x y w h1 h2 hn4 hm4 hi1 hi2)
 have K2 := h! (fun W (hb : Below w.heap.size w W) => pcommon16_any B A m n cb ca y x W (h2.below hb) (h1.below hb) hm4 hn4 hi2 hi1)
 obtain ⟨r, hr⟩ : ∃ r, r = OM.agreeF x y := ⟨_, rfl⟩
 rw [← hr]
 have HR := h! hr
 obtain ⟨p, hp⟩ : ∃ p, p = OM.com x y := ⟨_, rfl⟩
 obtain ⟨q, hq⟩ : ∃ q, q = OM.com y x := ⟨_, rfl⟩
 have HE := h! (show r = decide (p.take (min p.length q.length) = q.take (min p.length q.length)) by rw [hr, hp, hq]; rfl)
 rw [← hp] at K1
 rw [← hq] at K2
 clear hr hp hq h1 h2 HR hi1 hi2
 go_enter Tryz.func17, Tryz.ntmps17
 go_wp2_with fail
 refine (K1.out).mono ?_
 rintro e w1 ⟨v1, rfl, ho1, hb1⟩
 obtain ⟨A1, c1, rfl, hs1⟩ := sps_new ho1
 have HS1 := h! hs1
 have HB1 := h! hb1
 clear ho1 hs1 hb1 K1
 go_wp2_with fail
 refine (K2.out w1 HB1.out).mono ?_
 rintro e w2 ⟨v2, rfl, ho2, hb2⟩
 obtain ⟨A2, c2, rfl, hs2⟩ := sps_new ho2
 have HB2 := h! (bmore HB1.out hb2 n!)
 replace HS1 := h! (HS1.out.below hb2)
 have HS2 := h! hs2
 clear ho2 hs2 hb2 K2 HB1
 obtain ⟨np, hnp⟩ : ∃ np, np = p.length := ⟨_, rfl⟩
 obtain ⟨nq, hnq⟩ : ∃ nq, nq = q.length := ⟨_, rfl⟩
 rw [← hnp] at HS1 ⊢
 rw [← hnq] at HS2 ⊢
 rw [← hnp, ← hnq] at HE
 have hpc := HS1.out.2.2.1
 have hqc := HS2.out.2.2.1
 have hp63 := HS1.out.small
 have hq63 := HS2.out.small
 obtain ⟨z, hz⟩ : ∃ z, z = min np nq := ⟨_, rfl⟩
 have hz1 : z ≤ np := by omega
 have hz2 : z ≤ nq := by omega
 have hmin : min (np : Int) (nq : Int) = (z : Int) := by omega
 rw [← hz] at HE
 have KS := h! (fun W (hb : Below w2.heap.size w2 W) => equalD_any A1 A2 z z c1 c2 (p.take z) (q.take z) W ((sps_cut HS1.out hz1).below hb) ((sps_cut HS2.out hz2).below hb))
 rw [← HE.out] at KS
 have k0 : (0 : Int) ≤ (z : Int) := by omega
 have k1 : (z : Int) ≤ (c1 : Int) := by omega
 have k2 : (z : Int) ≤ (c2 : Int) := by omega
 have k3 : z ≤ c1 := by omega
 have k4 : z ≤ c2 := by omega
 clear hnp hnq hz
 go_upto_region 3 with (fail)
 refine wp_region_held_drew (S := fun _ => True) (by kernel_rfl) trivial (fun hHeld => ?_)
 refine qT 0 ?_; try simp only [Act.put, qq]
 refine qT 1 ?_; try simp only [Act.put, qq]
 refine qT 3 ?_; try simp only [Act.put, qq]
 refine qT 4 ?_; try simp only [Act.put, qq]
 refine qT 2 ?_; try simp only [Act.put, qq]
 refine qT 5 ?_; try simp only [Act.put, qq]
 refine qR 6 fun K hK => ?_
 go_simp
 refine (KS.out _ (Below.refl _ _).drew).mono ?_
 rintro e w5 ⟨rfl, hb⟩
 have HB5 := h! (bmore HB2.out ((Below.refl _ _).drew.trans (hb.mono (Below.refl w2.heap.size w2).drew.size)) n!)
 refine hK.out _ _ trivial (fun hHeld => ?_)
 clear hK hb
 try simp only [Act.put, qq]
 refine qT 7 ?_; try simp only [Act.put, qq]
 refine wpAnyH_done (by kernel_rfl) ?_ _
 go_wp2_with fail
 go_ret
 exact ⟨rfl, HB5.out⟩
end KP
section
open Go.RowKit
theorem refGetInts_any (A : Option Addr) (n c most : Nat) (l : List UInt8) (w : World) (hr : Rd w A n (bc l)) (hnc : n ≤ c) (hm : c ≤ maxLen) (hmost : most ≤ 4096) :
  Calls Tryz.prog 159 #[.slice A n c, .int .i64 most] w (GetIntsPost w (NM.getInts l most)) := by
 obtain ⟨i0, hi, hz0, hz1, hz2⟩ := info_parts info_int
 have hg := refGet_any A n c l w hr (Nat.le_trans hnc hm)
 have hm2 : c ≤ 9223372036854775807 := by unfold maxLen at hm; omega
 have hl : l.length = n := by have := hr.1; rwa [bc_length] at this
 have HL := h! hl; clear hl
 have HM := h! hm; clear hm
 rcases hd : NM.dec l with _ | ⟨x, k⟩
 ·rw [hd] at hg
  have hfin : NM.getInts l most = none := by unfold NM.getInts; rw [hd]
  have HF := h! hfin; clear hfin hd
  have HG := h! hg; clear hg
  go_enter Tryz.func159, Tryz.ntmps159
  go_wp2_with (go_at_call 158; refine (HG.out).mono ?_; rintro e w' ⟨rfl, rfl⟩; unfold getRes)
  go_ret3
  exact ⟨Below.refl _ _, .inl ⟨HF.out, rfl⟩⟩
 ·have hb := NM.dec_bound l x k hd
  rw [hd] at hg
  obtain ⟨hx, hk1, hkl, hk6, hdrop⟩ := hb
  clear hdrop
  rw [HL.out] at hkl
  have HG := h! hg; clear hg
  by_cases h1 : x ≤ most
  ·have hfin := NM.getInts_of l most x k hd h1
   obtain ⟨o, ho⟩ : ∃ o, o = NM.getInts l most := ⟨_, rfl⟩
   have hstart : GetIntsRel w l o x n 0 k (.slice none 0 0) w := ⟨[], rfl, by omega, hkl, by rw [ho, hfin]; rfl, World.ownsRow_nil _ _ _ _, Below.refl _ _⟩
   rw [← ho]
   clear hfin hd ho
   have HS := h! hstart; clear hstart
   have t1 : decide ((4096 : Int) < (most : Int)) = false := by simp; omega
   have t2 : decide ((most : Int) < (x : Int)) = false := by simp; omega
   have t3 : decide (most < x) = false := by simp; omega
   go_enter Tryz.func159, Tryz.ntmps159
   go_wp2_with (go_at_call 158; refine (HG.out).mono ?_; rintro e w' ⟨rfl, rfl⟩; unfold getRes)
   go_loopw [8, 10, 11] (fun s u t wr => ∃ i j : Nat, i ≤ x ∧ j ≤ n ∧ s = .int .i64 j ∧ t = .int .i64 i ∧ GetIntsRel w l o x n i j u wr) (fun _ _ t _ => x - (intOf t).toNat)
   case atStart => exact ⟨0, k, by omega, hkl, rfl, rfl, HS.out⟩
   case round =>
    clear HS HG
    obtain ⟨i, j, hix, hjn, rfl, rfl, hrel⟩ := hrel
    have hbel : Below w.heap.size w wr := by obtain ⟨pre, _, _, _, _, _, h⟩ := hrel; exact h
    have hr2 := hr.below hbel
    by_cases hlt : i < x
    ·have hjl : ∃ ys, ys = l.drop j := ⟨_, rfl⟩
     obtain ⟨ys, hys⟩ := hjl
     rcases hd2 : NM.dec (l.drop j) with _ | ⟨y, q⟩
     ·have hfin : o = none := by
       obtain ⟨pre, h1, h2, h3, h4, h5, h6⟩ := hrel
       rw [← h4, show x - i = (x - (i + 1)) + 1 by omega, NM.liftB_none _ _ _ _ hd2]
      have HF := h! hfin; clear hfin hrel
      have HB := h! hbel; clear hbel
      by_cases hcj : c = j
      ·have hg2 : Calls Tryz.prog 158 #[.slice A 0 0] wr fun e w' => e = .returned (getRes none) ∧ wr = w' := by
        have := refGet_any A 0 0 [] wr Rd.nil (by omega)
        exact this
       subst hcj
       obtain rfl : n = c := by omega
       have HG2 := h! hg2; clear hg2 hr2 hd2 hys
       have HR := h! hr; clear hr
       go_wp2_with (go_at_call 158; refine (HG2.out).mono ?_; rintro e w' ⟨rfl, rfl⟩; unfold getRes)
       go_ret3
       exact ⟨HB.out, .inl ⟨HF.out, rfl⟩⟩
      ·have hg2 := refGet_any (A.map (fun x => x.add j)) (n - j) (c - j) (l.drop j) wr (by rw [← bc_drop]; exact hr2.cutm hjn) (by have := HM.out; omega)
       rw [hd2] at hg2
       have HG2 := h! hg2; clear hg2 hr2 hd2 hys
       have HR := h! hr; clear hr
       go_wp2_with (go_at_call 158; refine (HG2.out).mono ?_; rintro e w' ⟨rfl, rfl⟩; unfold getRes)
       go_ret3
       exact ⟨HB.out, .inl ⟨HF.out, rfl⟩⟩
     ·have hbd := NM.dec_bound _ y q hd2
      rw [List.length_drop, HL.out] at hbd
      obtain ⟨hy, hq1, hqn, hq6, hqd⟩ := hbd
      clear hqd hys
      have hcj : c ≠ j := by omega
      have hg2 := refGet_any (A.map (fun x => x.add j)) (n - j) (c - j) (l.drop j) wr (by rw [← bc_drop]; exact hr2.cutm hjn) (by have := HM.out; omega)
      rw [hd2] at hg2
      obtain ⟨pre, hrel⟩ := hrel
      have hown0 : wr.ownsRow w.heap.size 3 1 u10 i (ic (intsOf pre)) := hrel.2.2.2.2.1
      have hbs := hbel.size
      have HG2 := h! hg2; clear hg2 hr2
      have HR := h! hr; clear hr
      have HD := h! hd2; clear hd2
      have HRel := h! hrel; clear hrel
      go_wp2_with (first
       | (go_at_call 158; refine (HG2.out).mono ?_; rintro e w' ⟨rfl, rfl⟩; unfold getRes)
       | (at_builtin; refine wpList_append_rd _ rfl _ _ 31 rfl w.heap.size 3 i0 (.int .i64 0) 8 Tryz.underlying31 hi hz0 hz1 hz2 rfl _ _ _ rfl (hown0.alloc _) (some ⟨wr.heap.size, 0, none⟩) 1 1 [.int .i64 (y : Int)] rfl (rd_new _ _ _) (by intro u hu; simp at hu; subst hu; rfl) (by unfold maxLen; omega) (by omega) (by simp; omega) ?_; intro v2 w2 hown2 hg2 hob2))
      have hnext := getIntsRel_next HRel.out HL.out hlt HD.out hown2 hg2
      clear hown2 hg2 hob2
      go_roundw
      case rel => exact ⟨i + 1, j + q, by omega, by omega, by go_num, by go_num, hnext⟩
      case measure => simp [intOf]; omega
    ·obtain ⟨pre, g1, g2, g3, h4, h5, h6⟩ := hrel
     obtain rfl : i = x := by omega
     rw [Nat.sub_self, NM.liftB_end] at h4
     have HF := h! h4; clear h4
     have H1 := h! g1; clear g1
     go_wp2
     go_ret3
     refine ⟨h6, .inr ⟨pre, j, _, HF.out.symm, rfl, ?_⟩⟩
     rw [H1.out]
     exact h5
  ·have hfin : NM.getInts l most = none := by unfold NM.getInts; rw [hd]; simp only [if_neg h1]
   have HF := h! hfin; clear hfin hd
   go_enter Tryz.func159, Tryz.ntmps159
   go_wp2_with (go_at_call 158; refine (HG.out).mono ?_; rintro e w' ⟨rfl, rfl⟩; unfold getRes)
   go_ret3
   exact ⟨Below.refl _ _, .inl ⟨HF.out, rfl⟩⟩
end
namespace CP
open Go.RowKit
open CM (Mg Cm)
theorem may12_any (x : Cm) (v : Value) (w : World) (h : CmIs w v x) (hf : CmFit x) :
  Calls Tryz.prog 114 #[v] w (BoolIs (decide (CM.may x)) w) := by
 obtain ⟨A, c, P, q, rfl, r1, r3⟩ := h
 obtain ⟨k, am, aid, atm, ams, atp, awh, an⟩ := x
 have hm : MgFit am := hf.2.1
 show Calls _ _ #[.agg #[.int .u8 k, .int .i64 am.id, .slice A am.gs.length c, .int .i64 am.tp, .string am.key, .string am.body, .int .i64 aid, .int .i64 atm, .slice P ams.length q, .int .i64 atp, .int .i64 awh, .int .i64 an]] _ _
 by_cases h0 : k = 0
 ·subst h0; exact may12_0 am aid atm ams atp awh an A c P q w r1 r3 hm
 by_cases h1 : k = 1
 ·subst h1; exact may12_1 am aid atm ams atp awh an A c P q w r1 r3 hm
 by_cases h2 : k = 2
 ·subst h2; exact may12_2 am aid atm ams atp awh an A c P q w r1 r3 hm
 by_cases h3 : k = 3
 ·subst h3; exact may12_3 am aid atm ams atp awh an A c P q w r1 r3 hm
 by_cases h4 : k = 4
 ·subst h4; exact may12_4 am aid atm ams atp awh an A c P q w r1 r3 hm
 by_cases h5 : k = 5
 ·subst h5; exact may12_5 am aid atm ams atp awh an A c P q w r1 r3 hm
 by_cases h6 : k = 6
 ·subst h6; exact may12_6 am aid atm ams atp awh an A c P q w r1 r3 hm
 exact may12_k k am aid atm ams atp awh an A c P q w ⟨h0, h1, h2, h3, h4, h5, h6⟩ r1 r3 hm
end CP
namespace KP
open Go.RowKit CP TP
open CM (Mg Cm)
open TM (Sp)
open KM (Wt Sk)
def BndW (l : List Wt) (id : Int) (lo hi : Nat) : Prop := (∀ t a, t < lo → l[t]? = some a → a.m.id < id) ∧ ∀ t a, hi ≤ t → l[t]? = some a → id ≤ a.m.id
theorem bndw_lo {l : List Wt} {id : Int} {a : Wt} {lo hi m : Nat} (h : BndW l id lo hi) (hp : l.Pairwise fun a b => a.m.id < b.m.id) (ha : l[m]? = some a) (hl : a.m.id < id) : BndW l id (m + 1) hi := by
 refine ⟨fun t b ht hb => ?_, h.2⟩
 rcases Nat.lt_or_ge t m with h1 | h1
 ·have := KM.rise_get hp h1 hb ha
  omega
 ·obtain rfl : t = m := by omega
  rw [ha] at hb
  injection hb with hb
  rw [← hb]; exact hl
theorem bndw_hi {l : List Wt} {id : Int} {a : Wt} {lo hi m : Nat} (h : BndW l id lo hi) (hp : l.Pairwise fun a b => a.m.id < b.m.id) (ha : l[m]? = some a) (hl : ¬ a.m.id < id) : BndW l id lo m := by
 refine ⟨h.1, fun t b ht hb => ?_⟩
 rcases Nat.lt_or_ge m t with h1 | h1
 ·have := KM.rise_get hp h1 ha hb
  omega
 ·obtain rfl : t = m := by omega
  rw [ha] at hb
  injection hb with hb
  rw [← hb]; omega
theorem cmpI_neg {a b : Int} : TM.cmpI a b < 0 ↔ a < b := by unfold TM.cmpI; split <;> (try split) <;> omega
theorem cmpI_zero {a b : Int} : TM.cmpI a b = 0 ↔ a = b := by unfold TM.cmpI; split <;> (try split) <;> omega
def PlcQ (k : Nat) (b : Bool) (w : World) (e : Ending) (w' : World) : Prop := e = .returned (.tuple #[.int .i64 k, .bool b]) ∧ Below w.heap.size w w'
theorem pbs_any (A : Option Addr) (n c : Nat) (l : List Wt) (id : Int) (W : World) (h : KR KW W A n c l) (hp : l.Pairwise fun a b => a.m.id < b.m.id) (hn : n ≤ 2000) :
  Calls Tryz.prog 151 #[.slice A n c, .int .i64 id, .func (.func 152) #[] #[]] W (PlcQ (KM.wpos l id) (KM.whit l id) W) := by
 have HL := h! h.len
 have H := h! (fun w' (hb : Below W.heap.size W w') => h.below hb)
 have HR := h! hp
 have HP := h! (fun k (hk : k ≤ n) (hb : BndW l id k k) => KM.wpos_of (l := l) (id := id) (by have := HL.out; omega) hb.1 (fun a ha => hb.2 k a n! ha))
 have HH := h! (show KM.whit l id = match l[KM.wpos l id]? with | some y => decide (y.m.id = id) | none => false from rfl)
 obtain ⟨K, hK⟩ : ∃ K, K = KM.wpos l id := ⟨_, rfl⟩
 obtain ⟨R, hR⟩ : ∃ R, R = KM.whit l id := ⟨_, rfl⟩
 rw [← hK, ← hR]
 rw [← hR, ← hK] at HH
 rw [← hK] at HP
 clear hK hR h hp
 go_enter Tryz.func151, Tryz.ntmps151
 go_wp2_with fail
 go_loopw [9, 10] (fun a b wr => ∃ (lo hi : Nat), a = .int .i64 lo ∧ b = .int .i64 hi ∧ lo ≤ hi ∧ hi ≤ n ∧ Hid (Below W.heap.size W wr) ∧ Hid (BndW l id lo hi)) (fun a b _ => (intOf b).toNat - (intOf a).toNat)
 case atStart => exact ⟨0, n, rfl, rfl, Nat.zero_le _, Nat.le_refl _, h! (Below.refl _ _), h! ⟨fun t a ht => absurd ht (Nat.not_lt_zero _), fun t a ht ha => by
  have := (List.getElem?_eq_some_iff.1 ha).1
  have := HL.out
  omega⟩⟩
 case round =>
  obtain ⟨lo, hi, rfl, rfl, hlh, hin, HW, I⟩ := hrel
  by_cases hlt : lo < hi
  ·obtain ⟨m, hm⟩ : ∃ m, m = (lo + hi) / 2 := ⟨_, rfl⟩
   have hmi : ((lo : Int) + (hi : Int)) / 2 = (m : Int) := by omega
   have hm1 : lo ≤ m := by omega
   have hm2 : m < hi := by omega
   obtain ⟨a, ha⟩ : ∃ a, l[m]? = some a := ⟨_, List.getElem?_eq_getElem (by have := HL.out; omega)⟩
   obtain ⟨bl, o, Q, q, rfl, _, _, hat, _⟩ := wts_at (H.out _ HW.out) ha
   obtain ⟨a0, a1, a2, a3, a4, a5, a6⟩ := hat
   have HA := h! ha
   have CA := h! (fun w => pcmpId_any Q q a id w)
   obtain ⟨z, hz⟩ : ∃ z, z = TM.cmpI a.m.id id := ⟨_, rfl⟩
   have HZ := h! (show z < 0 ↔ a.m.id < id by rw [hz]; exact cmpI_neg)
   rw [← hz] at CA
   unfold vwt at CA
   clear ha hm hz
   have hm0 : (0 : Int) ≤ (m : Int) := by omega
   have hmn : (m : Int) < (n : Int) := by omega
   go_wp2_with fail
   refine (CA.out _).mono ?_
   rintro e w4 ⟨rfl, hb4⟩
   have HW2 := h! (bmore HW.out hb4 n!)
   clear hb4 CA a0 a1 a2 a3 a4 a5 a6
   by_cases hz : z < 0
   ·have NX := h! (bndw_lo I.out HR.out HA.out (HZ.out.1 hz))
    clear I
    go_wp2_with fail
    go_roundw
    case rel => exact ⟨m + 1, hi, by go_num, rfl, by omega, hin, HW2, NX⟩
    case measure => simp [intOf]; omega
   ·have NX := h! (bndw_hi I.out HR.out HA.out (fun hk => hz (HZ.out.2 hk)))
    clear I
    go_wp2_with fail
    go_roundw
    case rel => exact ⟨lo, m, rfl, by go_num, by omega, by omega, HW2, NX⟩
    case measure => simp [intOf]; omega
  ·obtain rfl : hi = lo := by omega
   obtain rfl : K = hi := (HP.out hi hin I.out).symm ▸ rfl
   clear HP I
   by_cases hkn : K < n
   ·obtain ⟨a, ha⟩ : ∃ a, l[K]? = some a := ⟨_, List.getElem?_eq_getElem (by have := HL.out; omega)⟩
    obtain ⟨bl, o, Q, q, rfl, _, _, hat, _⟩ := wts_at (H.out _ HW.out) ha
    obtain ⟨a0, a1, a2, a3, a4, a5, a6⟩ := hat
    have hh := HH.out
    rw [ha] at hh
    simp only at hh
    have CA := h! (fun w => pcmpId_any Q q a id w)
    obtain ⟨z, hz⟩ : ∃ z, z = TM.cmpI a.m.id id := ⟨_, rfl⟩
    have HZ := h! (show (z == 0) = R by rw [hh, hz, Bool.eq_iff_iff]; simp [cmpI_zero])
    rw [← hz] at CA
    unfold vwt at CA
    clear ha hz hh HH
    have hm0 : (0 : Int) ≤ (K : Int) := by omega
    have hmn : (K : Int) < (n : Int) := by omega
    go_wp2_with fail
    refine (CA.out _).mono ?_
    rintro e w4 ⟨rfl, hb4⟩
    have HW2 := h! (bmore HW.out hb4 n!)
    clear hb4 CA a0 a1 a2 a3 a4 a5 a6
    go_wp2_with fail
    go_ret2
    exact ⟨by rw [← HZ.out]; rfl, HW2.out⟩
   ·have hR : R = false := by
     have := HH.out
     rwa [List.getElem?_eq_none (by have := HL.out; omega)] at this
    subst hR
    go_wp2_with fail
    go_ret2
    exact ⟨rfl, HW.out⟩
theorem pplace_any (A : Option Addr) (n c : Nat) (l : List Wt) (id : Int) (W : World) (h : KR KW W A n c l) (hp : l.Pairwise fun a b => a.m.id < b.m.id) (hn : n ≤ 2000) :
  Calls Tryz.prog 134 #[.slice A n c, .int .i64 id] W (PlcQ (KM.wpos l id) (KM.whit l id) W) := by
 have CB := h! (pbs_any A n c l id W h hp hn)
 generalize KM.wpos l id = K at CB ⊢
 generalize KM.whit l id = R at CB ⊢
 clear h hp
 go_enter Tryz.func134, Tryz.ntmps134
 go_wp2_with fail
 refine (CB.out).mono ?_
 rintro e w1 ⟨rfl, hb⟩
 have HB := h! hb
 clear hb CB
 go_wp2_with fail
 go_ret2
 exact ⟨rfl, HB.out⟩
end KP
end Go.Proofs.YteebeiaokfenmaaGreat
