/-
  What package command's Write answers. Conditions: as CmIs and CmFit say.
  What package command's front answers of any bytes, and Read of any text. Conditions: the text's length is one that Go has.
-/
import Derived.Test.YteebeiaokfenmaaGreatK21
import Derived.Test.YteebeiaokfenmaaGreatK22
import Derived.Test.YteebeiaokfenmaaGreatK23
import Derived.Test.YteebeiaokfenmaaGreatK24
import Derived.Test.YteebeiaokfenmaaGreatK01
import Derived.Test.YteebeiaokfenmaaGreatK25
import Derived.Test.YteebeiaokfenmaaGreatK27
import Derived.Test.YteebeiaokfenmaaGreatK26
import Derived.Test.YteebeiaokfenmaaGreatK54
namespace Go.Proofs.YteebeiaokfenmaaGreat.CP
open Go.RowKit
open CM (Mg Cm)
set_option linter.unusedVariables false
set_option linter.unusedSimpArgs false
set_option maxRecDepth 100000

theorem may_kinds {k aid atm atp awh an : Int} {m : Mg} {ams : List Int} (h : CM.may ⟨k, m, aid, atm, ams, atp, awh, an⟩) : k = 0 ∨ k = 1 ∨ k = 2 ∨ k = 3 ∨ k = 4 ∨ k = 5 ∨ k = 6 := by
  by_cases hk : k ≠ 0 ∧ k ≠ 1 ∧ k ≠ 2 ∧ k ≠ 3 ∧ k ≠ 4 ∧ k ≠ 5 ∧ k ≠ 6
  · exact absurd h (may_other hk)
  · omega
set_option maxHeartbeats 4000000 in
theorem pwrite_any (x : Cm) (v : Value) (w : World) (h : CmIs w v x) (hf : CmFit x) :
    Calls Tryz.prog 42 #[v] w (WrIs x w) := by
  obtain ⟨A, c, P, q, rfl, r1, r3⟩ := h
  obtain ⟨k, ⟨mi, mg, mt, mk, mb⟩, aid, atm, ams, atp, awh, an⟩ := x
  simp only at r1 r3
  by_cases hm : CM.may ⟨k, ⟨mi, mg, mt, mk, mb⟩, aid, atm, ams, atp, awh, an⟩
  · have fin : Calls Tryz.prog 42 #[.agg (ccells A c P q ⟨k, ⟨mi, mg, mt, mk, mb⟩, aid, atm, ams, atp, awh, an⟩)] w (fun e w' => e = .returned (.tuple #[.string ⟨(CM.wr ⟨k, ⟨mi, mg, mt, mk, mb⟩, aid, atm, ams, atp, awh, an⟩).toArray⟩, .int .i64 0]) ∧ Below w.heap.size w w') := by
      rcases may_kinds hm with rfl | rfl | rfl | rfl | rfl | rfl | rfl
      · exact pwrite_0 mi mt mg mk mb aid atm ams atp awh an A c P q w r1 r3 hm hf
      · exact pwrite_1 mi mt mg mk mb aid atm ams atp awh an A c P q w r1 r3 hm hf
      · exact pwrite_2 mi mt mg mk mb aid atm ams atp awh an A c P q w r1 r3 hm hf
      · exact pwrite_3 mi mt mg mk mb aid atm ams atp awh an A c P q w r1 r3 hm hf
      · exact pwrite_4 mi mt mg mk mb aid atm ams atp awh an A c P q w r1 r3 hm hf
      · exact pwrite_5 mi mt mg mk mb aid atm ams atp awh an A c P q w r1 r3 hm hf
      · exact pwrite_6 mi mt mg mk mb aid atm ams atp awh an A c P q w r1 r3 hm hf
    refine fin.mono ?_
    rintro e w' ⟨rfl, hb⟩
    unfold WrIs
    rw [if_pos hm, if_pos hm]
    exact ⟨rfl, hb⟩
  · have HM := Lib.hid hm
    have CC := Lib.hid (fun W (hb : Below w.heap.size w W) => pcheck_any ⟨k, ⟨mi, mg, mt, mk, mb⟩, aid, atm, ams, atp, awh, an⟩ (.agg (ccells A c P q ⟨k, ⟨mi, mg, mt, mk, mb⟩, aid, atm, ams, atp, awh, an⟩)) W ⟨A, c, P, q, rfl, r1.below hb, r3.below hb⟩ hf)
    rw [if_neg hm] at CC
    unfold ccells at CC
    simp only at CC
    show Calls _ _ #[.agg #[.int .u8 k, .int .i64 mi, .slice A mg.length c, .int .i64 mt, .string mk, .string mb, .int .i64 aid, .int .i64 atm, .slice P ams.length q, .int .i64 atp, .int .i64 awh, .int .i64 an]] _ _
    have hb0 : Below w.heap.size w (w.alloc (.cells #[.int .u8 k, .int .i64 mi, .slice A mg.length c, .int .i64 mt, .string mk, .string mb, .int .i64 aid, .int .i64 atm, .slice P ams.length q, .int .i64 atp, .int .i64 awh, .int .i64 an] 91)) := (Below.refl _ _).alloc (Nat.le_refl _) _
    have HB := Lib.hid hb0
    clear hm r1 r3 hf hb0
    go_enter Tryz.func42, Tryz.ntmps42
    go_wp2_with fail
    refine (CC.out _ HB.out).mono ?_
    rintro e w1 ⟨rfl, hb1⟩
    have HB1 := Lib.hid (bmore HB.out hb1 (by simp))
    clear hb1 HB CC
    go_wp2_with fail
    go_ret2
    unfold WrIs
    rw [if_neg HM.out, if_neg HM.out]
    exact ⟨rfl, HB1.out⟩
end Go.Proofs.YteebeiaokfenmaaGreat.CP

namespace Go.Proofs.YteebeiaokfenmaaGreat.CP
open Go.RowKit
open CM (Mg Cm)
set_option linter.unusedVariables false
set_option linter.unusedSimpArgs false
set_option maxRecDepth 100000

theorem front_any (A : Option Addr) (n c : Nat) (l : List UInt8) (w : World) (hr : Rd w A n (bc l)) (h1 : n ≤ c) (h2 : c ≤ maxLen) :
    Calls Tryz.prog 100 #[.slice A n c] w (FrontPost w l) := by
  obtain ⟨x1, x2, x3, x4, x5, i, hf⟩ := fl_ex (RM.fk l : Nat)
  have hf2 := hf
  rcases hf2 with ⟨hk, rfl, rfl, rfl, rfl, rfl, rfl⟩ | ⟨hk, rfl, rfl, rfl, rfl, rfl, rfl⟩ | ⟨hk, rfl, rfl, rfl, rfl, rfl, rfl⟩ | ⟨hk, rfl, rfl, rfl, rfl, rfl, rfl⟩ | ⟨hk, rfl, rfl, rfl, rfl, rfl, rfl⟩ | ⟨hk, rfl, rfl, rfl, rfl, rfl, rfl⟩ | ⟨hk, rfl, rfl, rfl, rfl, rfl, rfl⟩ | ⟨hk, rfl, rfl, rfl, rfl, rfl, rfl⟩
  · exact front_0 A n c l w hr h1 h2 _ hf (by omega)
  · exact front_1 A n c l w hr h1 h2 _ hf (by omega)
  · exact front_2 A n c l w hr h1 h2 _ hf (by omega)
  · exact front_3 A n c l w hr h1 h2 _ hf (by omega)
  · exact front_4 A n c l w hr h1 h2 _ hf (by omega)
  · exact front_5 A n c l w hr h1 h2 _ hf (by omega)
  · exact front_5 A n c l w hr h1 h2 _ hf (by omega)
  · exact front_0 A n c l w hr h1 h2 _ hf (by omega)
set_option maxHeartbeats 4000000 in
theorem pread_ge {x : Cm} {y : Int} (s : ByteArray) (h : CM.ReadIs (RM.bsz s) x y) (hs : s.size ≤ maxLen) (w : World) :
    Calls Tryz.prog 83 #[.string s] w (RdGe x y w) := by
  have HB := Lib.hid (show Below w.heap.size w (w.alloc (.cells #[.int .u8 0, .int .i64 0, .slice none 0 0, .int .i64 0, .string ⟨#[]⟩, .string ⟨#[]⟩, .int .i64 0, .int .i64 0, .slice none 0 0, .int .i64 0, .int .i64 0, .int .i64 0] 91)) from (Below.refl _ _).alloc (Nat.le_refl _) _)
  have R := Lib.hid (Box.new w 91 #[.int .u8 0, .int .i64 0, .slice none 0 0, .int .i64 0, .string ⟨#[]⟩, .string ⟨#[]⟩, .int .i64 0, .int .i64 0, .slice none 0 0, .int .i64 0, .int .i64 0, .int .i64 0])
  have hs2 := hs
  unfold maxLen at hs2
  by_cases hl : 1024 < s.size
  · obtain ⟨rfl, rfl⟩ := CM.readIs_eq h (readIs_long (by rw [RM.bsz_len]; exact hl))
    have hli : (1024 : Int) < (s.size : Int) := by omega
    clear h hs
    obtain ⟨d0, d1, d2, d3, d4, d5, d6, d7, d8, d9, d10, d11⟩ := box_cm R.out
    have g0 := R.out.frozen 0
    have g1 := R.out.frozen 1
    have g2 := R.out.frozen 2
    have g3 := R.out.frozen 3
    have g4 := R.out.frozen 4
    have g5 := R.out.frozen 5
    have g6 := R.out.frozen 6
    have g7 := R.out.frozen 7
    have g8 := R.out.frozen 8
    have g9 := R.out.frozen 9
    have g10 := R.out.frozen 10
    have g11 := R.out.frozen 11
    go_enter Tryz.func83, Tryz.ntmps83
    go_wp2_with fail
    exact bodyPost_ret (v := .tuple #[.agg #[.int .u8 0, .int .i64 0, .slice none 0 0, .int .i64 0, .string ⟨#[]⟩, .string ⟨#[]⟩, .int .i64 0, .int .i64 0, .slice none 0 0, .int .i64 0, .int .i64 0, .int .i64 0], .int .i64 3]) (by simp [results, Tryz.results83, go_sem, d0, d1, d2, d3, d4, d5, d6, d7, d8, d9, d10, d11]; try rfl) rfl ⟨_, rfl, zero_ge _ _, HB.out⟩
  · obtain ⟨A0, c0, w1, hcv, hR, hc1, hc2, hb1⟩ := conv_ex (w.alloc (.cells #[.int .u8 0, .int .i64 0, .slice none 0 0, .int .i64 0, .string ⟨#[]⟩, .string ⟨#[]⟩, .int .i64 0, .int .i64 0, .slice none 0 0, .int .i64 0, .int .i64 0, .int .i64 0] 91)) s hs
    have HL := Lib.hid (show s.size ≤ 1024 by omega)
    have hli : (s.size : Int) ≤ (1024 : Int) := by omega
    have HR := Lib.hid hR
    have R1 := Lib.hid (R.out.below hb1 R.out.lt)
    have HB1 := Lib.hid (bmore HB.out hb1 (by simp))
    have CFr := Lib.hid (front_any A0 _ c0 (RM.bsz s) w1 hR hc1 hc2)
    have HF := Lib.hid (fr_fit (RM.bsz s))
    have H := Lib.hid h
    have HC := Lib.hid (fun t e => readIs_fr (s := s) (t := t) (e := e) HL.out)
    obtain ⟨xx, hx⟩ : ∃ xx, xx = fr (RM.bsz s) := ⟨_, rfl⟩
    unfold FrontPost at CFr
    rw [← hx] at CFr HF HC
    clear hb1 hR R HB hc1 hc2 hs h hx
    obtain ⟨k, ⟨mi, mg, mt, mk, mb⟩, aid, atm, ams, atp, awh, an⟩ := xx
    go_enter Tryz.func83, Tryz.ntmps83
    go_wp2_with fail
    refine (CFr.out).mono ?_
    rintro e1 w2 ⟨v, rfl, ⟨A, c, P, q, rfl, r1, r3⟩, hb2⟩
    simp only at r1 r3
    unfold ccells
    have hb3 : Below w2.heap.size w2 (w2.alloc (.cells #[.int .u8 k, .int .i64 mi, .slice A mg.length c, .int .i64 mt, .string mk, .string mb, .int .i64 aid, .int .i64 atm, .slice P ams.length q, .int .i64 atp, .int .i64 awh, .int .i64 an] 91)) := (Below.refl _ _).alloc (Nat.le_refl _) _
    have R2 := Lib.hid ((R1.out.below hb2 R1.out.lt).alloc (.cells #[.int .u8 k, .int .i64 mi, .slice A mg.length c, .int .i64 mt, .string mk, .string mb, .int .i64 aid, .int .i64 atm, .slice P ams.length q, .int .i64 atp, .int .i64 awh, .int .i64 an] 91))
    have B2 := Lib.hid (Box.new w2 91 #[.int .u8 k, .int .i64 mi, .slice A mg.length c, .int .i64 mt, .string mk, .string mb, .int .i64 aid, .int .i64 atm, .slice P ams.length q, .int .i64 atp, .int .i64 awh, .int .i64 an])
    have HB2 := Lib.hid (bmore (bmore HB1.out hb2 (Nat.le_refl _)) hb3 (Nat.le_refl _))
    have CW := Lib.hid (fun W (hW : Below w2.heap.size w2 W) => pwrite_any ⟨k, ⟨mi, mg, mt, mk, mb⟩, aid, atm, ams, atp, awh, an⟩ (.agg (ccells A c P q ⟨k, ⟨mi, mg, mt, mk, mb⟩, aid, atm, ams, atp, awh, an⟩)) W ⟨A, c, P, q, rfl, (r1.below hW).1, (r3.below hW).1⟩ HF.out)
    have HR1 := Lib.hid (fun W (hW : Below w2.heap.size w2 W) => (⟨r1.below hW, r3.below hW⟩ : RowGe W w1.heap.size A c mg ∧ RowGe W w1.heap.size P q ams))
    have HP := Lib.hid R1.out.lt
    have HB3 := Lib.hid hb3
    unfold ccells at CW
    simp only at CW
    clear hb2 hb3 HR R1 HB1 CFr r1 r3
    go_wp2_with fail
    refine (CW.out _ HB3.out).mono ?_
    rintro e3 w3 ⟨rfl, hb4⟩
    have R3 := Lib.hid (R2.out.below hb4 R2.out.lt)
    have B3 := Lib.hid (B2.out.below hb4 B2.out.lt)
    have HB4 := Lib.hid (bmore HB2.out hb4 (Nat.le_refl _))
    have HW4 := Lib.hid (bmore HB3.out hb4 (Nat.le_refl _))
    clear hb4 R2 B2 HB2 CW
    generalize w2.heap.size = g at B3 HW4 HR1 HB3 ⊢
    obtain ⟨d0, d1, d2, d3, d4, d5, d6, d7, d8, d9, d10, d11⟩ := box_cm R3.out
    obtain ⟨c0, c1, c2, c3, c4, c5, c6, c7, c8, c9, c10, c11⟩ := box_cm B3.out
    have g0 := R3.out.frozen 0
    have g1 := R3.out.frozen 1
    have g2 := R3.out.frozen 2
    have g3 := R3.out.frozen 3
    have g4 := R3.out.frozen 4
    have g5 := R3.out.frozen 5
    have g6 := R3.out.frozen 6
    have g7 := R3.out.frozen 7
    have g8 := R3.out.frozen 8
    have g9 := R3.out.frozen 9
    have g10 := R3.out.frozen 10
    have g11 := R3.out.frozen 11
    by_cases hm : CM.may ⟨k, ⟨mi, mg, mt, mk, mb⟩, aid, atm, ams, atp, awh, an⟩
    · rw [if_pos hm, if_pos hm]
      have HT := Lib.hid (HC.out ⟨(CM.wr ⟨k, ⟨mi, mg, mt, mk, mb⟩, aid, atm, ams, atp, awh, an⟩).toArray⟩ 0 ⟨by rw [if_pos hm], by rw [if_pos hm]⟩)
      clear hm HC
      generalize (⟨(CM.wr ⟨k, ⟨mi, mg, mt, mk, mb⟩, aid, atm, ams, atp, awh, an⟩).toArray⟩ : ByteArray) = t at HT ⊢
      by_cases hts : t = s
      · subst hts
        go_wp2_with fail
        obtain ⟨rfl, rfl⟩ := CM.readIs_eq H.out (HT.out.resolve_right (fun h => h.1 (by simp))).2.2
        refine bodyPost_ret (v := .tuple #[.agg #[.int .u8 k, .int .i64 mi, .slice A mg.length c, .int .i64 mt, .string mk, .string mb, .int .i64 aid, .int .i64 atm, .slice P ams.length q, .int .i64 atp, .int .i64 awh, .int .i64 an], .int .i64 0]) (by simp [results, Tryz.results83, go_sem, d0, d1, d2, d3, d4, d5, d6, d7, d8, d9, d10, d11]; try rfl) rfl ⟨_, rfl, ⟨A, c, P, q, rfl, ((HR1.out _ HW4.out).1.put12 HP.out (.int .u8 k) (.int .i64 mi) (.slice A mg.length c) (.int .i64 mt) (.string mk) (.string mb) (.int .i64 aid) (.int .i64 atm) (.slice P ams.length q) (.int .i64 atp) (.int .i64 awh) (.int .i64 an)).mono (Nat.le_of_lt HP.out), ((HR1.out _ HW4.out).2.put12 HP.out (.int .u8 k) (.int .i64 mi) (.slice A mg.length c) (.int .i64 mt) (.string mk) (.string mb) (.int .i64 aid) (.int .i64 atm) (.slice P ams.length q) (.int .i64 atp) (.int .i64 awh) (.int .i64 an)).mono (Nat.le_of_lt HP.out)⟩, put12_below HB4.out (Nat.le_refl _) (.int .u8 k) (.int .i64 mi) (.slice A mg.length c) (.int .i64 mt) (.string mk) (.string mb) (.int .i64 aid) (.int .i64 atm) (.slice P ams.length q) (.int .i64 atp) (.int .i64 awh) (.int .i64 an)⟩
      · have hne := str_ne hts
        go_wp2_with fail
        obtain ⟨rfl, rfl⟩ := CM.readIs_eq H.out (HT.out.resolve_left (fun h => hts h.2.1)).2
        exact bodyPost_ret (v := .tuple #[.agg #[.int .u8 0, .int .i64 0, .slice none 0 0, .int .i64 0, .string ⟨#[]⟩, .string ⟨#[]⟩, .int .i64 0, .int .i64 0, .slice none 0 0, .int .i64 0, .int .i64 0, .int .i64 0], .int .i64 8]) (by simp [results, Tryz.results83, go_sem, d0, d1, d2, d3, d4, d5, d6, d7, d8, d9, d10, d11]; try rfl) rfl ⟨_, rfl, zero_ge _ _, put12_below HB4.out (Nat.le_refl _) (.int .u8 0) (.int .i64 0) (.slice none 0 0) (.int .i64 0) (.string ⟨#[]⟩) (.string ⟨#[]⟩) (.int .i64 0) (.int .i64 0) (.slice none 0 0) (.int .i64 0) (.int .i64 0) (.int .i64 0)⟩
    · rw [if_neg hm, if_neg hm]
      have HT := Lib.hid (HC.out .empty 120 ⟨by rw [if_neg hm], by rw [if_neg hm]⟩)
      clear hm HC
      go_wp2_with fail
      obtain ⟨rfl, rfl⟩ := CM.readIs_eq H.out (HT.out.resolve_left (fun h => by cases h.1)).2
      exact bodyPost_ret (v := .tuple #[.agg #[.int .u8 0, .int .i64 0, .slice none 0 0, .int .i64 0, .string ⟨#[]⟩, .string ⟨#[]⟩, .int .i64 0, .int .i64 0, .slice none 0 0, .int .i64 0, .int .i64 0, .int .i64 0], .int .i64 8]) (by simp [results, Tryz.results83, go_sem, d0, d1, d2, d3, d4, d5, d6, d7, d8, d9, d10, d11]; try rfl) rfl ⟨_, rfl, zero_ge _ _, put12_below HB4.out (Nat.le_refl _) (.int .u8 0) (.int .i64 0) (.slice none 0 0) (.int .i64 0) (.string ⟨#[]⟩) (.string ⟨#[]⟩) (.int .i64 0) (.int .i64 0) (.slice none 0 0) (.int .i64 0) (.int .i64 0) (.int .i64 0)⟩
theorem pread_any {x : Cm} {y : Int} (s : ByteArray) (h : CM.ReadIs (RM.bsz s) x y) (hs : s.size ≤ maxLen) (w : World) :
    Calls Tryz.prog 83 #[.string s] w (RdIs x y w) := by
  refine (pread_ge s h hs w).mono ?_
  rintro e w' ⟨v, rfl, hv, hb⟩
  exact ⟨v, rfl, hv.is, hb⟩
end Go.Proofs.YteebeiaokfenmaaGreat.CP
