/-
  The document's own Within and Counts (towncrierref06). Conditions: the slices read as ints.
-/
import Derived.Test.YtmcfamoicdmkdaaQuorumRM
namespace Go.Proofs.Ytmcfamoicdmkdaa
open Go.RowKit
set_option linter.unusedVariables false

set_option maxHeartbeats 1000000 in
theorem rWithin_any (A : Option Addr) (n c : Nat) (ms : List Int) (B : Option Addr) (m d : Nat) (rs : List Int) (w : World) (hr : Rd w A n (ic ms)) (hm : n ≤ 9223372036854775807) (hr2 : Rd w B m (ic rs)) (hm2 : m ≤ 9223372036854775807) :
    Calls Try.prog 69 #[.slice A n c, .slice B m d] w fun e w' => e = .returned (.bool (QM.within ms rs)) ∧ w = w' := by
  have hl : ms.length = n := by have := hr.1; rwa [ic_length] at this
  obtain ⟨r, hrr⟩ : ∃ r, r = QM.within ms rs := ⟨_, rfl⟩
  have hst : QM.within (ms.drop 0) rs = r := hrr.symm
  rw [← hrr]
  have HL := Lib.hid hl; clear hl
  have HS := Lib.hid hst; clear hst hrr
  go_enter Try.func69, Try.ntmps69
  go_wp2
  go_loop [5] (fun i => ∃ k : Nat, k ≤ n ∧ i = .int .i64 k ∧ Hid (QM.within (ms.drop k) rs = r)) (fun i => n - (intOf i).toNat)
  case atStart => exact ⟨0, by omega, rfl, HS⟩
  case round =>
    clear HS
    obtain ⟨k, hk, rfl, HR⟩ := hrel
    by_cases hlt : k < n
    · have hkz : k < ms.length := by have := HL.out; omega
      obtain ⟨ad, u, rfl, _, hu, hcell⟩ := hr.at_ hlt
      rw [ic_get ms k hkz] at hu
      injection hu with hu
      subst hu
      have hd := HR.out
      rw [List.drop_eq_getElem_cons hkz] at hd
      obtain ⟨z, hz⟩ : ∃ z, z = ms[k] := ⟨_, rfl⟩
      rw [← hz] at hcell hd
      clear hz HR
      have hc := rHas_any B m d rs z w hr2 hm2
      unfold QM.within at hd
      rw [List.all_cons] at hd
      rcases hb : QM.has rs z with _ | _
      · rw [hb] at hd hc
        have hd' : false = r := by simpa using hd
        have HD := Lib.hid hd'
        have HC := Lib.hid hc
        clear hd hc hd' hb
        go_wp2_with fail
        refine HC.out.mono ?_
        rintro e w1 ⟨rfl, rfl⟩
        go_wp2
        go_ret
        exact ⟨ret_eq HD.out, rfl⟩
      · rw [hb] at hd hc
        have hd' : QM.within (ms.drop (k + 1)) rs = r := by unfold QM.within; simpa using hd
        have HD := Lib.hid hd'
        have HC := Lib.hid hc
        clear hd hc hd' hb
        go_wp2_with fail
        refine HC.out.mono ?_
        rintro e w1 ⟨rfl, rfl⟩
        go_wp2
        go_round
        case rel => exact ⟨k + 1, by omega, by go_num, HD⟩
        case measure => simp [intOf]; omega
    · have hd := HR.out
      rw [List.drop_of_length_le (by have := HL.out; omega)] at hd
      have hd' : true = r := by rw [← hd]; rfl
      clear hd
      have HD := Lib.hid hd'; clear hd'
      go_wp2
      go_ret
      exact ⟨ret_eq HD.out, rfl⟩

set_option maxHeartbeats 1000000 in
theorem rCounts_any (A : Option Addr) (n c : Nat) (ms : List Int) (B : Option Addr) (m d : Nat) (rs : List Int) (w : World) (hr : Rd w A n (ic ms)) (hm : n ≤ 9223372036854775807) (hr2 : Rd w B m (ic rs)) (hm2 : m ≤ 9223372036854775807) :
    Calls Try.prog 43 #[.slice A n c, .slice B m d] w fun e w' => e = .returned (.bool (decide (n / 2 + 1 ≤ QM.cnt ms rs))) ∧ w = w' := by
  have hl : ms.length = n := by have := hr.1; rwa [ic_length] at this
  have HL := Lib.hid hl; clear hl
  go_enter Try.func43, Try.ntmps43
  go_wp2
  go_loop [5, 6] (fun s i => ∃ k q : Nat, k ≤ n ∧ q ≤ k ∧ i = .int .i64 k ∧ s = .int .i64 q ∧ Hid (q = QM.cnt (ms.take k) rs)) (fun _ i => n - (intOf i).toNat)
  case atStart => exact ⟨0, 0, by omega, by omega, rfl, rfl, Lib.hid rfl⟩
  case round =>
    obtain ⟨k, q, hk, hq, rfl, rfl, HR⟩ := hrel
    by_cases hlt : k < n
    · have hkz : k < ms.length := by have := HL.out; omega
      obtain ⟨ad, u, rfl, _, hu, hcell⟩ := hr.at_ hlt
      rw [ic_get ms k hkz] at hu
      injection hu with hu
      subst hu
      have hd := QM.cnt_snoc ms rs k hkz
      rw [← HR.out] at hd
      obtain ⟨z, hz⟩ : ∃ z, z = ms[k] := ⟨_, rfl⟩
      rw [← hz] at hcell hd
      clear hz HR
      have hc := rHas_any B m d rs z w hr2 hm2
      rcases hb : QM.has rs z with _ | _
      · rw [hb] at hd hc
        have hd' : q = QM.cnt (ms.take (k + 1)) rs := by rw [hd]; simp
        have HD := Lib.hid hd'
        have HC := Lib.hid hc
        clear hd hc hd' hb
        go_wp2_with fail
        refine HC.out.mono ?_
        rintro e w1 ⟨rfl, rfl⟩
        go_wp2
        go_round
        case rel => exact ⟨k + 1, q, by omega, by omega, by go_num, rfl, HD⟩
        case measure => simp [intOf]; omega
      · rw [hb] at hd hc
        have hd' : q + 1 = QM.cnt (ms.take (k + 1)) rs := by rw [hd]; simp
        have HD := Lib.hid hd'
        have HC := Lib.hid hc
        clear hd hc hd' hb
        go_wp2_with fail
        refine HC.out.mono ?_
        rintro e w1 ⟨rfl, rfl⟩
        go_wp2
        go_round
        case rel => exact ⟨k + 1, q + 1, by omega, by omega, by go_num, by go_num, HD⟩
        case measure => simp [intOf]; omega
    · obtain rfl : k = n := by omega
      have hd : q = QM.cnt ms rs := by have := HR.out; rw [List.take_of_length_le (by have := HL.out; omega)] at this; exact this
      have HD := Lib.hid hd; clear hd
      go_wp2
      go_ret
      exact ⟨ret_eq (by rw [← HD.out, Bool.eq_iff_iff]; simp; omega), rfl⟩

end Go.Proofs.Ytmcfamoicdmkdaa
