/-
  The walk of FrameCuts: frames are made, joined and cut as the document's own functions make, join and cut them.
-/
import Derived.Test.YtpabkhcoaiggnaaFrameF
import Derived.Test.YtpabkhcoaiggnaaFrameR
import Derived.Test.YtpabkhcoaiggnaaFrameT
namespace Go.Proofs.Ytpabkhcoaiggnaa
open Go.RowKit
set_option linter.unusedVariables false

theorem refFrame_ans (l r : List UInt8) (k : Nat) (x : Int) (w : World) (h : TextIs l r k x) (hl : l.length ≤ 9223372036854775807) : Calls Try.prog 12 #[.string ⟨l.toArray⟩] w (Ans r k x w) := by
  refine (refFrame_all l w hl).mono ?_
  rintro e w' ⟨v, y, rfl, hf, hb⟩
  exact ans_text h hf hb
theorem refJoin_ans (A : Option Addr) (n c : Nat) (ls : List (List UInt8)) (r : List UInt8) (k : Nat) (x : Int) (w : World) (h : JoinIs ls r k x) (hr : Rd w A n (sc ls)) (hs : ∀ t ∈ ls, t.length ≤ 9223372036854775807) (hm : n ≤ maxLen) :
    Calls Try.prog 13 #[.slice A n c] w (Ans r k x w) :=
  (refJoin_any A n c ls w hr hs hm).mono fun _ _ hp => ans_join h hp
theorem refCut_ans (A : Option Addr) (n c : Nat) (l : List UInt8) (ts : List (List UInt8)) (m k : Nat) (w : World) (h : CutIs l ts m k) (hr : Rd w A n (bc l)) (hnc : n ≤ c) (hm : c ≤ maxLen) (hn : n ≤ 1048576) :
    Calls Try.prog 14 #[.slice A n c] w (AnsT ts m k w) :=
  (refCut_any A n c l w hr hnc hm hn).mono fun _ _ hp => ans_cut h hp

set_option maxRecDepth 100000 in
set_option maxHeartbeats 4000000 in
theorem frameCuts_core (l0 : List UInt8) (A : Option Addr) (n ca : Nat) (ls : List (List UInt8)) (B : Option Addr) (m cb : Nat) (lb : List UInt8) (w : World) (HRA : Hid (Rd w A n (sc ls))) (HRB : Hid (Rd w B m (bc lb)))
    (h0 : l0.length ≤ 5000) (hm : m ≤ 100000) (HN : Hid (n ≤ maxLen)) (hn : n ≤ 9223372036854775807) (hmb : m ≤ cb) (HCB : Hid (cb ≤ maxLen)) (HSm : Hid (∀ t ∈ ls, t.length ≤ 9223372036854775807)) :
    Calls Try.prog 4 #[.string ⟨l0.toArray⟩, .slice A n ca, .slice B m cb] w fun e w' => e = .returned (.bool true) ∧ Below w.heap.size w w' := by
  obtain ⟨i0, hi, hz0, hz1, hz2⟩ := info_parts info_u8
  obtain ⟨r1, k1, x1, h1⟩ := textIs_ex l0
  obtain ⟨r2, k2, x2, h2⟩ := joinIs_ex ls
  obtain ⟨ts, k3, y3, h3⟩ := cutIs_ex lb
  have hk3 : k3 ≤ 9223372036854775807 := by
    obtain ⟨g1, g2⟩ := h3
    have g3 := NM.join_cut (lb.length + 1) lb
    have g4 : NM.cutF (lb.length + 1) lb = (ts, y3) := g2
    rw [g4] at g3
    have g5 := g3.2.1
    have g6 := g3.2.2.2
    have g7 := HRB.out.1
    rw [bc_length] at g7
    simp only at g5 g6
    omega
  have H1 := Lib.hid h1; clear h1
  have H2 := Lib.hid h2; clear h2
  have H3 := Lib.hid h3; clear h3
  go_enter Try.func4, Try.ntmps4
  go_wp2_with fail
  refine (great_any A n ca ls _ HRA.out HSm.out hn).mono ?_
  rintro e w0 ⟨b, rfl, rfl, hgr⟩
  cases b with
  | true =>
    clear hgr
    go_wp2
    go_ret
    exact ⟨rfl, Below.refl _ _⟩
  | false =>
  clear hgr
  have hrb0 := HRB.out
  go_wp2_with (at_builtin; refine wpList_append_rd _ rfl (.const (.slice none 0 0)) (.tmp 34) 26 rfl w.heap.size 5 i0 (.int .u8 0) 1 Try.underlying26 hi hz0 hz1 hz2 rfl (.slice none 0 0) 0 [] rfl (World.ownsRow_nil _ _ _ _) B m cb (bc lb) rfl hrb0 (bc_one _) (by unfold maxLen; omega) (by omega) (Nat.le_refl _) ?_; intro v0 w1 hown0 hg0 hob0; simp only [Nat.zero_add, List.nil_append] at hown0; have hB1 := below_of_grown hg0 (by simp [Value.ownBlock]))
  obtain ⟨A0, c0, rfl, hc0, hm0⟩ := own_slice hown0
  have hr0 := Rd.of_own hown0
  have HM0 := Lib.hid hm0
  clear hown0 hg0 hob0 hrb0 hm0
  refine (frame_ans l0 r1 k1 x1 _ H1.out (by omega)).mono ?_
  rintro e w2 ⟨A1, c1, rfl, hr1, _, _, hb1⟩
  have S0 := hr0.below hb1
  have hB2 := bmore hB1 hb1 (Nat.le_refl _)
  clear hr0 hB1 hb1
  go_wp2_with fail
  refine (refFrame_ans l0 r1 k1 x1 _ H1.out (by omega)).mono ?_
  rintro e w3 ⟨A2, c2, rfl, hr2, _, _, hb2⟩
  have T0 := S0.below hb2
  have T1 := hr1.below hb2
  have hB3 := bmore hB2 hb2 (Nat.le_refl _)
  clear S0 hr1 hB2 hb2
  go_wp2_with fail
  refine (join_ans A n ca ls r2 k2 x2 _ H2.out (HRA.out.below hB3) HSm.out HN.out).mono ?_
  rintro e w4 ⟨A3, c3, rfl, hr3, _, _, hb3⟩
  have S0 := T0.below hb3
  have S1 := T1.below hb3
  have S2 := hr2.below hb3
  have hB4 := bmore hB3 hb3 (Nat.le_refl _)
  clear T0 T1 hr2 hB3 hb3
  go_wp2_with fail
  refine (refJoin_ans A n ca ls r2 k2 x2 _ H2.out (HRA.out.below hB4) HSm.out HN.out).mono ?_
  rintro e w5 ⟨A4, c4, rfl, hr4, _, _, hb4⟩
  have T0 := S0.below hb4
  have T1 := S1.below hb4
  have T2 := S2.below hb4
  have T3 := hr3.below hb4
  have hB5 := bmore hB4 hb4 (Nat.le_refl _)
  clear S0 S1 S2 hr3 hB4 hb4
  go_wp2_with fail
  refine (cut_ans A0 m c0 lb ts k3 y3 _ H3.out T0 hc0 HM0.out (by omega)).mono ?_
  rintro e w6 ⟨A5, c5, rfl, hr5, _, _, hb5⟩
  have S0 := T0.below hb5
  have S1 := T1.below hb5
  have S2 := T2.below hb5
  have S3 := T3.below hb5
  have S4 := hr4.below hb5
  have hB6 := bmore hB5 hb5 (Nat.le_refl _)
  clear T0 T1 T2 T3 hr4 hB5 hb5
  go_wp2_with fail
  refine (refCut_ans B m cb lb ts k3 y3 _ H3.out (HRB.out.below hB6) hmb HCB.out (by omega)).mono ?_
  rintro e w7 ⟨A6, c6, rfl, hr6, _, _, hb6⟩
  have hB7 := bmore hB6 hb6 (Nat.le_refl _)
  have X0 := str_drew (S0.below hb6)
  have X1 := str_ans (S1.below hb6) c1
  have X2 := str_ans (S2.below hb6) c2
  have X3 := str_ans (S3.below hb6) c3
  have X4 := str_ans (S4.below hb6) c4
  have X7 := str_drew (HRB.out.below hB7)
  have hr5' := hr5.below hb6
  clear S0 S1 S2 S3 S4 hB6 hb6 hr5
  go_wp2_with fail
  refine (same_texts A5 A6 k3 c5 c6 ts _ hr5' hr6 hk3).mono ?_
  rintro e w8 ⟨rfl, q, rfl⟩
  have X0' := X0 q c0
  have X7' := X7 q cb
  clear X0 X7
  go_wp2
  go_ret
  exact ⟨by simp, below_drewN hB7 q⟩

set_option maxRecDepth 100000 in
theorem frameCuts_walk (a0 : ByteArray) (a1 : Option Addr) (len1 cap1 : Nat) (z1 : List ByteArray) (a2 : Option Addr) (len2 cap2 : Nat) (z2 : List Int) (w : World) (w0 : a0.size ≤ maxLen) (w1 : IsTexts w a1 len1 cap1 z1) (w2 : IsRow .u8 w a2 len2 cap2 z2) :
    Calls Try.prog 4 #[.string a0, .slice a1 len1 cap1, .slice a2 len2 cap2] w fun e w' => e = .returned (.bool true) ∧ Below w.heap.size w w' := by
  obtain ⟨hl1, hm1, _⟩ := w1.len_le
  obtain ⟨hl2, hm2, _⟩ := w2.len_le
  have hc1 : len1 ≤ 9223372036854775807 := by unfold maxLen at hm1; omega
  have hc2 : cap2 ≤ 9223372036854775807 := by unfold maxLen at hm2; omega
  have hc0 : a0.size ≤ 9223372036854775807 := by unfold maxLen at w0; omega
  have hsm : ∀ t ∈ textsOf z1 len1, t.length ≤ 9223372036854775807 := fun t ht => by have := w1.small t ht; unfold maxLen at this; omega
  have hr1 := w1.texts
  by_cases hb : len2 ≤ 100000 ∧ a0.size ≤ 5000
  · obtain ⟨h2, h0⟩ := hb
    have e : a0 = ⟨a0.data.toList.toArray⟩ := by cases a0; simp
    rw [e]
    exact frameCuts_core a0.data.toList a1 len1 cap1 _ a2 len2 cap2 _ w (Lib.hid hr1) (Lib.hid w2.bytes) (by rw [text_len]; exact h0) h2 (Lib.hid (Nat.le_trans hl1 hm1)) hc1 hl2 (Lib.hid hm2) (Lib.hid hsm)
  · have HG := Lib.hid (great_any a1 len1 cap1 _ w hr1 hsm hc1)
    clear w2 w1 w0 hm2 hm1 hr1 hsm
    rcases (show 5000 < a0.size ∨ (a0.size ≤ 5000 ∧ 100000 < len2) by omega) with h | ⟨h, h'⟩
    all_goals
      clear hb
      go_enter Try.func4, Try.ntmps4
      go_wp2_with fail
      refine (HG.out).mono ?_
      rintro e w0 ⟨b, rfl, rfl, hgr⟩
      clear hgr
      cases b
      all_goals
        go_wp2
        go_ret
        exact ⟨rfl, Below.refl _ _⟩
end Go.Proofs.Ytpabkhcoaiggnaa
