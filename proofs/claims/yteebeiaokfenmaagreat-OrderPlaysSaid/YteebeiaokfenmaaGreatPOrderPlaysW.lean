/-
  The walk of OrderPlays. Conditions: as the walk says.
-/
import Derived.Test.YteebeiaokfenmaaGreatP22
set_option linter.unusedVariables false
set_option linter.unusedSimpArgs false
set_option maxRecDepth 100000
set_option maxHeartbeats 16000000
namespace Go.Proofs.YteebeiaokfenmaaGreat
namespace KP
open Go.RowKit CP TP LP SP
open CM (Mg Cm)
open TM (Sp)
open KM (Wt Sk)
theorem same_self16 {w : World} {va vb : Value} {a : Sk} (h1 : SkIs w va a) (h2 : SkIs w vb a) : Calls Tryz.prog 21 #[va, vb] w (IsB true w) := by
 have := rsame15_any va vb a a w h1 h2
 rw [decide_eq_true rfl] at this
 exact this
theorem msgs_self16 {w : World} {A B : Option Addr} {n ca cb : Nat} {l : List Mg} (h1 : KR KM_ w A n ca l) (h2 : KR KM_ w B n cb l) : Calls Tryz.prog 22 #[.slice A n ca, .slice B n cb] w (IsB true w) := by
 have := rsameMessages_any A B n n ca cb l l w h1 h2
 rw [decide_eq_true rfl] at this
 exact this
theorem sps_self16 {w : World} {A B : Option Addr} {n ca cb : Nat} {l : List Sp} (h1 : SpsIs w A n ca l) (h2 : SpsIs w B n cb l) : Calls Tryz.prog 23 #[.slice A n ca, .slice B n cb] w (IsB true w) := by
 have := rsameStamps_any A B n n ca cb l l w h1 h2
 rw [decide_eq_true rfl] at this
 exact this
theorem orderPlays_walk0 (g : Int) (A : Option Addr) (n c : Nat) (z : List ByteArray) (w : World) (h : TxIs w A n c z) :
  Calls Tryz.prog 4 #[.int .i64 g, .slice A n c] w fun e w' => e = .returned (.bool true) ∧ Below w.heap.size w w' := by
 have hzl := h.len
 obtain ⟨i0, hi, hz0, hz1, hz2⟩ := info_parts info_st
 have H := h! (fun W (hb : Below w.heap.size w W) => h.below hb)
 have HS := h! h.2.2.2
 have HZL := h! hzl
 have HG := h! (OP.great16_any _ 1 1 [z] _ (logs_one h) (fun l hl s hs => by rw [List.mem_singleton] at hl; subst hl; exact HS.out s hs))
 have HBA := h! (show Below w.heap.size w (w.alloc (.cells #[.slice A n c] 26)) from (Below.refl _ _).alloc n! _)
 have KP1 := h! (fun W A c (h : TxIs W A n c z) => pplay16_any g A n c z W h)
 have KP2 := h! (fun W A c (h : TxIs W A n c z) => play16_any g A n c z W h)
 have KL1 := h! (fun W A c (h : TxIs W A n c z) => plocal16_any g A n c z W h)
 have KL2 := h! (fun W A c (h : TxIs W A n c z) => local16_any g A n c z W h)
 obtain ⟨R, hR⟩ : ∃ R, R = playR g z := ⟨_, rfl⟩
 obtain ⟨L, hL⟩ : ∃ L, L = locS g z := ⟨_, rfl⟩
 obtain ⟨r, hr⟩ : ∃ r, r = asked g z := ⟨_, rfl⟩
 rw [← hR] at KP1 KP2
 rw [← hL, ← hr] at KL1 KL2
 clear h hzl hR hL hr
 go_enter Tryz.func4, Tryz.ntmps4
 go_wp2_with fail
 refine (HG.out).mono ?_
 rintro e w2 ⟨bg, rfl, hfew, hb⟩
 have HB2 := h! (bmore HBA.out hb n!)
 clear hb HG HBA
 rcases bg with _ | _
 rotate_left
 ·go_wp2_with fail
  go_ret
  exact ⟨rfl, HB2.out⟩
 have hn : n ≤ 300 := by have := (hfew rfl).2 z (by simp); rw [HZL.out] at this; exact this
 clear hfew
 go_wp2_with (at_builtin; refine wpList_append_rd _ rfl _ _ 26 rfl w2.heap.size 9 i0 (.string ⟨#[]⟩) 16 Tryz.underlying26 hi hz0 hz1 hz2 rfl (.slice none 0 0) 0 [] rfl (World.ownsRow_nil _ _ _ _) A n c (tcx z) rfl (H.out _ HB2.out).1 (tcx_one z) (by unfold maxLen; omega) (by omega) n! ?_; intro v2 w3 hown2 hg2 hob2; have hb2 : Below w2.heap.size w2 w3 := below_of_grown hg2 (by simp [Value.ownBlock]))
 simp only [Nat.zero_add, List.nil_append] at hown2
 obtain ⟨Ao, co, rfl, hTo⟩ := txIs_own hown2 (H.out _ HB2.out).2.2.2
 have HB3 := h! (bmore HB2.out hb2 n!)
 have HTo := h! (fun W (hb : Below w3.heap.size w3 W) => hTo.below hb)
 have HTn := h! (fun W (hb : Below w3.heap.size w3 W) => H.out W (bmore HB3.out hb n!))
 clear hown2 hg2 hob2 hb2 hTo HB2 H
 refine (KP1.out _ _ _ (HTo.out _ (Below.refl _ _))).mono ?_
 rintro e w4 ⟨v, vm, rfl, ⟨vw, vd, rfl, k1, k2⟩, km, hb⟩
 obtain ⟨A4, c4, rfl, kg1⟩ := k1.g
 obtain ⟨B4, d4, rfl, k3, k4⟩ := own_form k2
 obtain ⟨C4, f4, rfl, kg⟩ := km.g
 have hsk : SkIs w4 (vsk R.1.c (.slice A4 R.1.ws.length c4) (.slice B4 R.1.ds.length d4)) R.1 := ⟨A4, c4, B4, d4, rfl, kg1.r, ⟨rdg_own k2, rfl, k3, k4⟩⟩
 have hkr := kg.r
 unfold vsk at hsk ⊢
 have hal : Below w4.heap.size w4 (w4.alloc (.cells #[.int .i64 R.1.c, .slice A4 R.1.ws.length c4, .slice B4 R.1.ds.length d4] 39)) := b!
 have X6 := h! (Box.new w4 39 #[.int .i64 R.1.c, .slice A4 R.1.ws.length c4, .slice B4 R.1.ds.length d4])
 have HSK1 := h! (hsk.below hal)
 have HM1 := h! (hkr.below hal)
 have H5 := h! (bmore hb hal n!)
 clear hsk hkr hal kg1 k1 k2 k3 k4 km kg hb KP1
 go_upto_region 5 with (fail)
 generalize w4.alloc (.cells #[.int .i64 R.1.c, .slice A4 R.1.ws.length c4, .slice B4 R.1.ds.length d4] 39) = w5 at X6 HSK1 HM1 H5 ⊢
 obtain ⟨p6, hp6⟩ : ∃ p6, w4.heap.size = p6 := ⟨_, rfl⟩
 rw [hp6] at X6
 try simp only [hp6]
 clear hp6
 go_wp2_with fail
 refine (KP2.out w5 _ _ (HTn.out _ H5.out)).mono ?_
 rintro e w6 ⟨v, vm, rfl, ⟨vw, vd, rfl, k1, k2⟩, km, hb⟩
 obtain ⟨A5, c5, rfl, kg1⟩ := k1.g
 obtain ⟨B5, d5, rfl, k3, k4⟩ := own_form k2
 obtain ⟨C5, f5, rfl, kg⟩ := km.g
 have hsk : SkIs w6 (vsk R.1.c (.slice A5 R.1.ws.length c5) (.slice B5 R.1.ds.length d5)) R.1 := ⟨A5, c5, B5, d5, rfl, kg1.r, ⟨rdg_own k2, rfl, k3, k4⟩⟩
 have hkr := kg.r
 unfold vsk at hsk ⊢
 have hal : Below w6.heap.size w6 (w6.alloc (.cells #[.int .i64 R.1.c, .slice A5 R.1.ws.length c5, .slice B5 R.1.ds.length d5] 39)) := b!
 have X9 := h! (Box.new w6 39 #[.int .i64 R.1.c, .slice A5 R.1.ws.length c5, .slice B5 R.1.ds.length d5])
 have HSK2 := h! (hsk.below hal)
 have HM2 := h! (hkr.below hal)
 have h57 := bmore hb hal n!
 have H7 := h! (bmore H5.out h57 n!)
 replace X6 := h! (X6.out.below h57 X6.out.lt)
 replace HSK1 := h! (HSK1.out.below h57)
 replace HM1 := h! (HM1.out.below h57)
 clear hsk hkr hal kg1 k1 k2 k3 k4 km kg hb KP2 h57 H5
 go_upto_region 6 with (fail)
 generalize w6.alloc (.cells #[.int .i64 R.1.c, .slice A5 R.1.ws.length c5, .slice B5 R.1.ds.length d5] 39) = w7 at X6 X9 HSK1 HM1 HSK2 HM2 H7 ⊢
 obtain ⟨p9, hp9⟩ : ∃ p9, w6.heap.size = p9 := ⟨_, rfl⟩
 rw [hp9] at X9
 try simp only [hp9]
 clear hp9
 go_wp2_with fail
 refine (KL1.out w7 _ _ (HTo.out _ H7.out)).mono ?_
 rintro e w8 ⟨v, rfl, ho, hb⟩
 obtain ⟨A6, c6, rfl, hs6⟩ := sps_new ho
 have HL1 := h! hs6
 replace H7 := h! (bmore H7.out hb n!)
 replace X6 := h! (X6.out.below hb X6.out.lt)
 replace HSK1 := h! (HSK1.out.below hb)
 replace HM1 := h! (HM1.out.below hb)
 replace X9 := h! (X9.out.below hb X9.out.lt)
 replace HSK2 := h! (HSK2.out.below hb)
 replace HM2 := h! (HM2.out.below hb)
 clear ho hs6 hb KL1
 go_wp2_with fail
 refine (KL2.out w8 _ _ (HTn.out _ H7.out)).mono ?_
 rintro e w9 ⟨v, rfl, ho, hb⟩
 obtain ⟨A7, c7, rfl, hs7⟩ := sps_new ho
 have HL2 := h! hs7
 replace H7 := h! (bmore H7.out hb n!)
 replace HL1 := h! (HL1.out.below hb)
 replace X6 := h! (X6.out.below hb X6.out.lt)
 replace HSK1 := h! (HSK1.out.below hb)
 replace HM1 := h! (HM1.out.below hb)
 replace X9 := h! (X9.out.below hb X9.out.lt)
 replace HSK2 := h! (HSK2.out.below hb)
 replace HM2 := h! (HM2.out.below hb)
 clear ho hs7 hb KL2
 obtain ⟨x0, x1, x2⟩ := box_sk X6.out
 obtain ⟨y0, y1, y2⟩ := box_sk X9.out
 have e1 : (R.2.2 == R.2.2) = true := by simp
 have e2 : (r == r) = true := by simp
 have H8 := h! (Below.refl w9.heap.size w9)
 go_wp2_with fail
 refine (same_self16 HSK1.out HSK2.out).mono ?_
 clear x0 x1 x2 y0 y1 y2
 rintro e wa ⟨rfl, hb⟩
 replace H8 := h! (bmore H8.out hb n!)
 clear hb HSK1 HSK2
 go_wp2_with fail
 refine (msgs_self16 (HM1.out.below H8.out) (HM2.out.below H8.out)).mono ?_
 rintro e wb ⟨rfl, hb⟩
 replace H8 := h! (bmore H8.out hb n!)
 clear hb HM1 HM2
 go_wp2_with fail
 refine (sps_self16 (HL1.out.below H8.out) (HL2.out.below H8.out)).mono ?_
 rintro e wc ⟨rfl, hb⟩
 replace H8 := h! (bmore H8.out hb n!)
 clear hb HL1 HL2
 have H9 := h! (bmore H7.out H8.out n!)
 go_wp2_with fail
 refine (sameT_any Ao n co A c z _ (HTo.out _ H9.out) (HTn.out _ H9.out)).mono ?_
 rintro e wd ⟨rfl, hb⟩
 go_wp2_with fail
 go_ret
 exact ⟨rfl, bmore HB3.out (bmore H9.out hb n!) n!⟩
end KP
section
open Go.RowKit
theorem orderPlays_walk (g : Int) (a1 : Option Addr) (len1 cap1 : Nat) (z1 : List ByteArray) (w : World) (w0 : (Lit.int .i64 g).wf = true) (w1 : IsTexts w a1 len1 cap1 z1) :
  Calls Tryz.prog 4 #[.int .i64 g, .slice a1 len1 cap1] w fun e w' => e = .returned (.bool true) ∧ Below w.heap.size w w' :=
 KP.orderPlays_walk0 g a1 len1 cap1 _ w (LP.tx_of w1)
end
end Go.Proofs.YteebeiaokfenmaaGreat
