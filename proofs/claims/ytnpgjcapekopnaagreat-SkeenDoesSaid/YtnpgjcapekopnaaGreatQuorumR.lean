/-
  What the document's own functions of layer 6 (towncrierref06) answer of lists that read as ints. Conditions: the slices read as ints.
-/
import Derived.Test.YtnpgjcapekopnaaGreatQuorumO
import Derived.Deep.QuietTactic
import Derived.BigQuiet
import Derived.Below
import Derived.Lib.Strings
import Derived.Lib.Slices
import Derived.Lib.Small
import Derived.Lib.Walk
namespace Go.Proofs.YtnpgjcapekopnaaGreat
open Go.RowKit
set_option linter.unusedVariables false
set_option maxRecDepth 100000

set_option maxHeartbeats 1000000 in
theorem rHas_any (A : Option Addr) (n c : Nat) (zs : List Int) (x : Int) (w : World) (hr : Rd w A n (ic zs)) (hm : n ≤ 9223372036854775807) :
    Calls Tryz.prog 57 #[.slice A n c, .int .i64 x] w fun e w' => e = .returned (.bool (QM.has zs x)) ∧ w = w' := by
  have hl : zs.length = n := by have := hr.1; rwa [ic_length] at this
  obtain ⟨r, hrr⟩ : ∃ r, r = QM.has zs x := ⟨_, rfl⟩
  have hst : QM.has (zs.drop 0) x = r := hrr.symm
  rw [← hrr]
  have HL := Lib.hid hl; clear hl
  have HS := Lib.hid hst; clear hst hrr
  go_enter Tryz.func57, Tryz.ntmps57
  go_wp2
  go_loop [5] (fun i => ∃ k : Nat, k ≤ n ∧ i = .int .i64 k ∧ Hid (QM.has (zs.drop k) x = r)) (fun i => n - (intOf i).toNat)
  case atStart => exact ⟨0, by omega, rfl, HS⟩
  case round =>
    clear HS
    obtain ⟨k, hk, rfl, HR⟩ := hrel
    by_cases hlt : k < n
    · have hkz : k < zs.length := by have := HL.out; omega
      obtain ⟨ad, u, rfl, _, hu, hcell⟩ := hr.at_ hlt
      rw [ic_get zs k hkz] at hu
      injection hu with hu
      subst hu
      have hd := HR.out
      rw [List.drop_eq_getElem_cons hkz] at hd
      obtain ⟨z, hz⟩ : ∃ z, z = zs[k] := ⟨_, rfl⟩
      rw [← hz] at hcell hd
      clear hz HR
      by_cases h1 : x = z
      · have hd' : true = r := by rw [← hd]; simp [QM.has, h1]
        clear hd
        have HD := Lib.hid hd'; clear hd'
        subst h1
        have h2 : (x == x) = true := by simp
        go_wp2
        go_ret
        exact ⟨ret_eq HD.out, rfl⟩
      · have hd' : QM.has (zs.drop (k + 1)) x = r := by
          rw [← hd]
          unfold QM.has
          simp [h1]
        clear hd
        have HD := Lib.hid hd'; clear hd'
        have h2 : (z == x) = false := by simpa using fun h => h1 h.symm
        clear h1
        go_wp2
        go_round
        case rel => exact ⟨k + 1, by omega, by go_num, HD⟩
        case measure => simp [intOf]; omega
    · have hd := HR.out
      rw [List.drop_of_length_le (by have := HL.out; omega)] at hd
      have hd' : false = r := by rw [← hd]; simp [QM.has]
      clear hd
      have HD := Lib.hid hd'; clear hd'
      go_wp2
      go_ret
      exact ⟨ret_eq HD.out, rfl⟩

end Go.Proofs.YtnpgjcapekopnaaGreat
