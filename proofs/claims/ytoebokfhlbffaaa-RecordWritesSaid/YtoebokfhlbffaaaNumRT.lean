/-
  What the document's own GetText (towncrierref01) does. Conditions: the slice reads as bytes.
-/
import Derived.Test.YtoebokfhlbffaaaNumRG
namespace Go.Proofs.Ytoebokfhlbffaaa
open Go.RowKit
set_option linter.unusedVariables false

set_option maxHeartbeats 1000000 in
theorem refGetText_any (A : Option Addr) (n c : Nat) (l : List UInt8) (w : World) (hr : Rd w A n (bc l)) (hnc : n ≤ c) (hm : c ≤ maxLen) :
    Calls Try.prog 36 #[.slice A n c] w fun e w' => e = .returned (textRes (NM.getText l)) ∧ w = w' := by
  have hg := refGet_any A n c l w hr (Nat.le_trans hnc hm)
  unfold maxLen at hm
  have hl : l.length = n := by have := hr.1; rwa [bc_length] at this
  have HL := Lib.hid hl; clear hl
  rcases hd : NM.dec l with _ | ⟨x, k⟩
  · rw [hd] at hg
    have hfin : NM.getText l = none := by unfold NM.getText; rw [hd]
    have HF := Lib.hid hfin; clear hfin hd
    have HG := Lib.hid hg; clear hg
    go_enter Try.func36, Try.ntmps36
    go_wp2_with (go_at_call 35; refine (HG.out).mono ?_; rintro e w' ⟨rfl, rfl⟩; unfold getRes)
    go_ret3
    rw [HF.out]
    exact ⟨rfl, rfl⟩
  · have hb := NM.dec_bound l x k hd
    rw [hd] at hg
    obtain ⟨hx, hk1, hkl, hk6, _⟩ := hb
    rw [HL.out] at hkl
    have hfin : NM.getText l = if x ≤ 4096 ∧ x ≤ n - k then some ((l.drop k).take x, k + x) else none := by unfold NM.getText; rw [hd]; simp only [HL.out]
    have HF := Lib.hid hfin; clear hfin hd
    have HG := Lib.hid hg; clear hg
    by_cases h1 : x ≤ 4096
    · by_cases h2 : x ≤ n - k
      · have hkx : k + x ≤ n := by omega
        have hc1 : ∀ cap, (convert 38 9 (.slice (Option.map (fun x => x.add k) A) x cap)).run Try.prog w = .ok (.string ⟨((l.drop k).take x).toArray⟩) w := fun cap =>
          run_string_of w _ _ 5 _ _ cap ((l.drop k).take x) Try.underlying38 Try.underlying5 Try.underlying9 (by rw [← bc_take, ← bc_drop]; exact hr.mid hkx)
        obtain ⟨t, ht⟩ : ∃ t, t = (l.drop k).take x := ⟨_, rfl⟩
        rw [← ht] at hc1
        have HT := Lib.hid ht; clear ht
        have HR := Lib.hid hr; clear hr
        by_cases hck : c = k
        · obtain rfl : x = 0 := by omega
          have hc2 : ∀ cap, (convert 38 9 (.slice A 0 cap)).run Try.prog w = .ok (.string ⟨t.toArray⟩) w := fun cap =>
            run_string_of w _ _ 5 _ _ cap t Try.underlying38 Try.underlying5 Try.underlying9 (by rw [HT.out]; simpa [bc] using Rd.nil)
          subst hck
          go_enter Try.func36, Try.ntmps36
          go_wp2_with (go_at_call 35; refine (HG.out).mono ?_; rintro e w' ⟨rfl, rfl⟩; unfold getRes)
          go_ret3
          rw [HF.out, if_pos (by omega), HT.out]
          exact ⟨rfl, rfl⟩
        · go_enter Try.func36, Try.ntmps36
          go_wp2_with (go_at_call 35; refine (HG.out).mono ?_; rintro e w' ⟨rfl, rfl⟩; unfold getRes)
          go_ret3
          rw [HF.out, if_pos (by omega), HT.out]
          exact ⟨rfl, rfl⟩
      · have h2' : (n : Int) - k < x := by omega
        go_enter Try.func36, Try.ntmps36
        go_wp2_with (go_at_call 35; refine (HG.out).mono ?_; rintro e w' ⟨rfl, rfl⟩; unfold getRes)
        go_ret3
        rw [HF.out, if_neg (by omega)]
        exact ⟨rfl, rfl⟩
    · go_enter Try.func36, Try.ntmps36
      go_wp2_with (go_at_call 35; refine (HG.out).mono ?_; rintro e w' ⟨rfl, rfl⟩; unfold getRes)
      go_ret3
      rw [HF.out, if_neg (by omega)]
      exact ⟨rfl, rfl⟩
end Go.Proofs.Ytoebokfhlbffaaa
