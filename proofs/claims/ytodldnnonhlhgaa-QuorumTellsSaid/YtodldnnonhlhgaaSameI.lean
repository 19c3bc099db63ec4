/-
  The document's own SameInts (towncrierref01) of two lists of the same ints. Conditions: the slices read as ints.
-/
import Derived.Test.YtodldnnonhlhgaaProg
import Derived.Test.YtodldnnonhlhgaaMem
import Derived.Deep.QuietTactic
import Derived.BigQuiet
namespace Go.Proofs.Ytodldnnonhlhgaa
open Go.RowKit
set_option linter.unusedVariables false

set_option maxHeartbeats 1000000 in
theorem same_ints (A B : Option Addr) (n ca cb : Nat) (zs : List Int) (w : World) (h1 : Rd w A n (ic zs)) (h2 : Rd w B n (ic zs)) (hm : n ≤ 9223372036854775807) :
    Calls Try.prog 18 #[.slice A n ca, .slice B n cb] w fun e w' => e = .returned (.bool true) ∧ ∃ q, w' = w.drewN q := by
  have hl : zs.length = n := by have := h1.1; rwa [ic_length] at this
  have HL := Lib.hid hl; clear hl
  have hne : ((n : Int) != (n : Int)) = false := by simp
  go_enter Try.func18, Try.ntmps18
  go_wp2
  go_loopw [5] (fun i wr => ∃ k q : Nat, k ≤ n ∧ i = .int .i64 k ∧ wr = w.drewN q) (fun i _ => n - (intOf i).toNat)
  case atStart => exact ⟨0, 0, by omega, rfl, rfl⟩
  case round =>
    obtain ⟨k, q, hk, rfl, rfl⟩ := hrel
    by_cases hlt : k < n
    · obtain ⟨ad1, u1, rfl, _, hu1, hcell1⟩ := h1.at_ hlt
      obtain ⟨ad2, u2, rfl, _, hu2, hcell2⟩ := h2.at_ hlt
      have hkz : k < zs.length := by have := HL.out; omega
      rw [ic_get zs k hkz] at hu1 hu2
      injection hu1 with hu1
      injection hu2 with hu2
      subst hu1
      subst hu2
      obtain ⟨z, hz⟩ : ∃ z, z = zs[k] := ⟨_, rfl⟩
      rw [← hz] at hcell1 hcell2
      have HZ := Lib.hid hz; clear hz
      have hk0 : (0 : Int) ≤ (k : Int) := by omega
      have hkn : (k : Int) < (n : Int) := by omega
      have hbz : (z != z) = false := by simp
      go_wp2_with fail
      go_quiet (fail)
      go_wp2_with fail
      go_roundw
      case rel => exact ⟨k + 1, q + nq, by omega, by go_num, by simp⟩
      case measure => simp [intOf]; omega
    · go_wp2
      go_ret
      exact ⟨rfl, q, rfl⟩
end Go.Proofs.Ytodldnnonhlhgaa
