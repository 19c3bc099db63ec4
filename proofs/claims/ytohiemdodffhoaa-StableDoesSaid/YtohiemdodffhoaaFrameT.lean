/-
  What the document's own helpers for lists of texts do (towncrierref01: SameTexts, Great). Conditions: the slices read as texts.
-/
import Derived.Test.YtohiemdodffhoaaNumF
import Derived.Test.YtohiemdodffhoaaMemT
import Derived.Laws.Small
import Derived.Lib.MinMax
namespace Go.Proofs.Ytohiemdodffhoaa
open Go.RowKit
set_option linter.unusedVariables false
set_option maxRecDepth 100000

set_option maxHeartbeats 1000000 in
theorem same_texts (A B : Option Addr) (n ca cb : Nat) (ls : List (List UInt8)) (w : World) (h1 : Rd w A n (sc ls)) (h2 : Rd w B n (sc ls)) (hm : n ≤ 9223372036854775807) :
    Calls Try.prog 18 #[.slice A n ca, .slice B n cb] w fun e w' => e = .returned (.bool true) ∧ ∃ q, w' = w.drewN q := by
  have hl : ls.length = n := by have := h1.1; rwa [sc_length] at this
  have HL := Lib.hid hl; clear hl
  have hne : ((n : Int) != (n : Int)) = false := by simp
  go_enter Try.func18, Try.ntmps18
  go_wp2
  go_loopw [5] (fun i wr => ∃ k q : Nat, k ≤ n ∧ i = .int .i64 k ∧ wr = w.drewN q) (fun i _ => n - (intOf i).toNat)
  case atStart => exact ⟨0, 0, by omega, rfl, rfl⟩
  case round =>
    obtain ⟨k, q, hk, rfl, rfl⟩ := hrel
    by_cases hlt : k < n
    · obtain ⟨ad1, u1, rfl, _, hu1, hcell1⟩ := h1.at_ hlt
      obtain ⟨ad2, u2, rfl, _, hu2, hcell2⟩ := h2.at_ hlt
      have hkz : k < ls.length := by have := HL.out; omega
      rw [sc_get ls k hkz] at hu1 hu2
      injection hu1 with hu1
      injection hu2 with hu2
      subst hu1
      subst hu2
      obtain ⟨z, hz⟩ : ∃ z, z = (⟨ls[k].toArray⟩ : ByteArray) := ⟨_, rfl⟩
      rw [← hz] at hcell1 hcell2
      have HZ := Lib.hid hz; clear hz
      have hk0 : (0 : Int) ≤ (k : Int) := by omega
      have hkn : (k : Int) < (n : Int) := by omega
      go_wp2_with fail
      go_quiet (fail)
      go_wp2_with fail
      go_roundw
      case rel => exact ⟨k + 1, q + nq, by omega, by go_num, by simp⟩
      case measure => simp [intOf]; omega
    · go_wp2
      go_ret
      exact ⟨rfl, q, rfl⟩

/-- what is said of the greatness of texts -/
def TGreatPost (w : World) (n : Nat) (e : Ending) (w' : World) : Prop := ∃ b : Bool, e = .returned (.bool b) ∧ w = w' ∧ (b = false → n ≤ 1000)

set_option maxRecDepth 100000 in
set_option maxHeartbeats 1000000 in
theorem tgreat_any (A : Option Addr) (n c : Nat) (ls : List (List UInt8)) (w : World) (hr : Rd w A n (sc ls)) (hs : ∀ t ∈ ls, t.length ≤ 9223372036854775807) (hm : n ≤ 9223372036854775807) :
    Calls Try.prog 30 #[.slice A n c] w (TGreatPost w n) := by
  have hl : ls.length = n := by have := hr.1; rwa [sc_length] at this
  have HL := Lib.hid hl; clear hl
  have HSm := Lib.hid hs; clear hs
  go_enter Try.func30, Try.ntmps30
  go_wp2
  go_loop [3, 4] (fun s i => ∃ k m : Nat, k ≤ n ∧ k ≤ 2000 ∧ m ≤ 100000 * k ∧ i = .int .i64 k ∧ s = .int .i64 m) (fun _ i => 2000 - (intOf i).toNat)
  case atStart => exact ⟨0, 0, by omega, by omega, by omega, rfl, rfl⟩
  case round =>
    obtain ⟨k, m, hk, hk2, hmk, rfl, rfl⟩ := hrel
    by_cases hlt : k < n ∧ k < 2000
    · obtain ⟨hlt, hlt2⟩ := hlt
      have hkl : k < ls.length := by have := HL.out; omega
      obtain ⟨ad, u, rfl, _, hu, hcell⟩ := hr.at_ hlt
      rw [sc_get ls k hkl] at hu
      injection hu with hu
      subst hu
      have hsm := HSm.out _ (List.getElem_mem hkl)
      obtain ⟨s, hs⟩ : ∃ s, s = ls[k] := ⟨_, rfl⟩
      rw [← hs] at hcell hsm
      clear hs
      go_wp2
      go_round
      case rel => exact ⟨k + 1, m + min s.length 100000, by omega, by omega, by omega, by go_num, by congr 1; omega⟩
      case measure => simp [intOf]; omega
    · by_cases h1000 : n ≤ 1000
      · have hkn : ¬ k < n := by omega
        clear hlt
        by_cases hmm : m ≤ 100000
        · go_wp2
          go_ret
          exact ⟨_, rfl, rfl, fun _ => h1000⟩
        · go_wp2
          go_ret
          exact ⟨_, rfl, rfl, fun _ => h1000⟩
      · by_cases hkn : k < n
        · have hk3 : ¬ k < 2000 := by omega
          clear hlt
          go_wp2
          go_ret
          exact ⟨true, rfl, rfl, fun h => by cases h⟩
        · clear hlt
          go_wp2
          go_ret
          exact ⟨true, rfl, rfl, fun h => by cases h⟩
end Go.Proofs.Ytohiemdodffhoaa
