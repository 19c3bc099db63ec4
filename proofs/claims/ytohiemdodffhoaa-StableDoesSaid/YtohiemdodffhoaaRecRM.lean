/-
  What the document's own May, Text and Write of layer 10 (towncrierref10) answer. Conditions: as each theorem says.
-/
import Derived.Test.YtohiemdodffhoaaBallotRM
import Derived.Test.YtohiemdodffhoaaRecFr
import Derived.Test.YtohiemdodffhoaaBox
import Derived.Test.YtohiemdodffhoaaNumR
namespace Go.Proofs.Ytohiemdodffhoaa.RP
open Go.RowKit
set_option linter.unusedVariables false
set_option linter.unusedSimpArgs false

theorem rstr_none (s : ByteArray) : s.toList.isEmpty = true ↔ s = .empty := by
  rw [List.isEmpty_iff, ByteArray.toList_eq]
  constructor
  · intro h
    obtain ⟨⟨l⟩⟩ := s
    simp at h
    rw [h]; rfl
  · rintro rfl; rfl
def RBool (B : Prop) (w : World) (e : Ending) (w' : World) : Prop := ∃ x : Bool, (x = true ↔ B) ∧ e = .returned (.bool x) ∧ Below w.heap.size w w'
set_option maxRecDepth 100000 in
set_option maxHeartbeats 4000000 in
theorem rmay_any (k g s b : Int) (v : ByteArray) (w : World) (hs : v.size ≤ maxLen) :
    Calls Try.prog 39 #[.agg #[.int .u8 k, .int .i64 g, .int .i64 s, .int .i64 b, .string v]] w (RBool (RM.may ⟨k, g, s, b, v⟩) w) := by
  unfold maxLen at hs
  have HB := Lib.hid (show Below w.heap.size w (w.alloc (.cells #[.int .u8 k, .int .i64 g, .int .i64 s, .int .i64 b, .string v] 29)) from (Below.refl _ _).alloc (Nat.le_refl _) _)
  by_cases hp : (0 ≤ g ∧ g ≤ 3) ∧ (1 ≤ s ∧ s ≤ 200)
  · obtain ⟨⟨p1, p2⟩, p3, p4⟩ := hp
    have q1 : ¬ g < 0 := by omega
    have q2 : ¬ 4 ≤ g := by omega
    have q3 : ¬ s < 1 := by omega
    have q4 : ¬ 200 < s := by omega
    have HP := Lib.hid (show (0 ≤ g ∧ g ≤ 3) ∧ (1 ≤ s ∧ s ≤ 200) from ⟨⟨p1, p2⟩, p3, p4⟩)
    clear p1 p2 p3 p4
    by_cases k1 : k = 1
    · subst k1
      by_cases hg : BM.good b
      · have HG := Lib.hid hg; clear hg
        go_enter Try.func39, Try.ntmps39
        go_wp2_with fail
        refine (rMay_yes _ _ HG.out).mono ?_
        rintro e w1 ⟨rfl, rfl⟩
        go_wp2_with fail
        go_ret
        refine ⟨v.toList.isEmpty, ?_, rfl, HB.out⟩
        rw [rstr_none]
        unfold RM.may
        simp [HP.out, HG.out]
      · have HG := Lib.hid hg; clear hg
        go_enter Try.func39, Try.ntmps39
        go_wp2_with fail
        refine (rMay_no _ _ HG.out).mono ?_
        rintro e w1 ⟨rfl, rfl⟩
        go_wp2_with fail
        go_ret
        refine ⟨false, ?_, rfl, HB.out⟩
        unfold RM.may
        simp [HP.out, HG.out]
    by_cases k2 : k = 2
    · subst k2
      by_cases hg : BM.good b
      · have HG := Lib.hid hg; clear hg
        go_enter Try.func39, Try.ntmps39
        go_wp2_with fail
        refine (rMay_yes _ _ HG.out).mono ?_
        rintro e w1 ⟨rfl, rfl⟩
        go_wp2_with fail
        go_ret
        refine ⟨decide ((v.size : Int) ≤ 1024), ?_, rfl, HB.out⟩
        rw [decide_eq_true_iff]
        unfold RM.may
        simp [HP.out, HG.out]
        omega
      · have HG := Lib.hid hg; clear hg
        go_enter Try.func39, Try.ntmps39
        go_wp2_with fail
        refine (rMay_no _ _ HG.out).mono ?_
        rintro e w1 ⟨rfl, rfl⟩
        go_wp2_with fail
        go_ret
        refine ⟨false, ?_, rfl, HB.out⟩
        unfold RM.may
        simp [HP.out, HG.out]
    by_cases k3 : k = 3
    · subst k3
      by_cases hb : b = 0
      · subst hb
        go_enter Try.func39, Try.ntmps39
        go_wp2_with fail
        go_ret
        refine ⟨decide ((v.size : Int) ≤ 1024), ?_, rfl, HB.out⟩
        rw [decide_eq_true_iff]
        unfold RM.may
        simp [HP.out]
        omega
      · have hz : (b == 0) = false := by simpa using hb
        have Hb := Lib.hid hb; clear hb
        go_enter Try.func39, Try.ntmps39
        go_wp2_with fail
        go_ret
        refine ⟨false, ?_, rfl, HB.out⟩
        unfold RM.may
        simp [HP.out, Hb.out]
    · have e1 : (k == 1) = false := by simpa using k1
      have e2 : (k == 2) = false := by simpa using k2
      have e3 : (k == 3) = false := by simpa using k3
      have HK := Lib.hid (And.intro k1 (And.intro k2 k3))
      clear k1 k2 k3
      go_enter Try.func39, Try.ntmps39
      go_wp2_with fail
      go_ret
      refine ⟨false, ?_, rfl, HB.out⟩
      unfold RM.may
      simp [HP.out, HK.out.1, HK.out.2.1, HK.out.2.2]
  · have HP := Lib.hid (show ¬ RM.may ⟨k, g, s, b, v⟩ from fun h => hp ⟨h.1, h.2.1⟩)
    rcases (show g < 0 ∨ (0 ≤ g ∧ 4 ≤ g) ∨ (0 ≤ g ∧ g < 4 ∧ s < 1) ∨ (0 ≤ g ∧ g < 4 ∧ 1 ≤ s ∧ 200 < s) by omega) with h1 | ⟨h1, h2⟩ | ⟨h1, h2, h3⟩ | ⟨h1, h2, h3, h4⟩
    all_goals
      clear hp
      go_enter Try.func39, Try.ntmps39
      go_wp2_with fail
      go_ret
      exact ⟨false, ⟨fun h => (by cases h), fun h => absurd h HP.out⟩, rfl, HB.out⟩
end Go.Proofs.Ytohiemdodffhoaa.RP
