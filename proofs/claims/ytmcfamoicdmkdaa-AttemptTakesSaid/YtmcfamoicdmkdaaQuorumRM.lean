/-
  What the document's own May (towncrierref06) answers of a list that reads as ints. Conditions: the slice reads as ints.
-/
import Derived.Test.YtmcfamoicdmkdaaQuorumR
namespace Go.Proofs.Ytmcfamoicdmkdaa
open Go.RowKit
set_option linter.unusedVariables false

/-- what May leaves: its answer, some draws -/
def MayPost (b : Bool) (w : World) (e : Ending) (w' : World) : Prop := e = .returned (.bool b) ∧ ∃ q, w' = w.drewN q

set_option maxHeartbeats 2000000 in
theorem rMay_any (A : Option Addr) (n c : Nat) (zs : List Int) (w : World) (hr : Rd w A n (ic zs)) (hm : n ≤ 9223372036854775807) :
    Calls Try.prog 48 #[.slice A n c] w (MayPost (QM.may zs) w) := by
  have hl : zs.length = n := by have := hr.1; rwa [ic_length] at this
  obtain ⟨r, hrr⟩ : ∃ r, r = QM.rise (-1) zs := ⟨_, rfl⟩
  have hmay : QM.may zs = (decide (1 ≤ n) && (decide (n ≤ 6) && r)) := by unfold QM.may; rw [hl, hrr]
  have hst : QM.rise (-1) (zs.drop 0) = r := hrr.symm
  generalize QM.may zs = o at hmay
  have HO := Lib.hid hmay; clear hmay
  have HL := Lib.hid hl; clear hl
  have HS := Lib.hid hst; clear hst hrr
  go_enter Try.func48, Try.ntmps48
  go_wp2
  go_loopw [3] (fun i wr => ∃ (k q : Nat) (p : Int), k ≤ n ∧ i = .int .i64 k ∧ wr = w.drewN q ∧ Hid (QM.rise p (zs.drop k) = r) ∧ Hid (k = 0 ∧ p = -1 ∨ 0 < k ∧ -1 ≤ p ∧ zs[k - 1]? = some p)) (fun i _ => n - (intOf i).toNat)
  case atStart => exact ⟨0, 0, -1, by omega, rfl, rfl, HS, Lib.hid (.inl ⟨rfl, rfl⟩)⟩
  case round =>
    clear HS
    obtain ⟨k, q, p, hk, rfl, rfl, HR, HP⟩ := hrel
    by_cases hlt : k < n
    · have hkz : k < zs.length := by have := HL.out; omega
      obtain ⟨ad, u, rfl, _, hu, hcell⟩ := hr.at_ hlt
      rw [ic_get zs k hkz] at hu
      injection hu with hu
      subst hu
      have hd := HR.out
      rw [List.drop_eq_getElem_cons hkz] at hd
      have hzg : zs[k + 1 - 1]? = some zs[k] := by rw [Nat.add_sub_cancel]; exact List.getElem?_eq_getElem hkz
      obtain ⟨z, hz⟩ : ∃ z, z = zs[k] := ⟨_, rfl⟩
      rw [← hz] at hcell hd hzg
      clear hz HR
      simp only [QM.rise] at hd
      have HG := Lib.hid hzg; clear hzg
      by_cases h0 : z < 0
      · have hd' : false = r := by
          rw [← hd]
          have : ¬ p < z := by
            rcases HP.out with ⟨_, rfl⟩ | ⟨_, h, _⟩ <;> omega
          simp [this]
        have ho : false = o := by have := HO.out; rw [← hd'] at this; simpa using this.symm
        clear hd hd'
        have HD := Lib.hid ho; clear ho
        have b0 : decide (z < 0) = true := by simp; omega
        go_wp2_with fail
        go_quiet (fail)
        go_wp2
        go_ret
        exact ⟨ret_eq HD.out, _, World.drewN_drewN _ _ _⟩
      · by_cases h6 : 6 ≤ z
        · have hd' : false = r := by
            rw [← hd]
            have : ¬ z < 6 := by omega
            simp [this]
          have ho : false = o := by have := HO.out; rw [← hd'] at this; simpa using this.symm
          clear hd hd'
          have HD := Lib.hid ho; clear ho
          have b0 : decide (z < 0) = false := by simp; omega
          have b1 : decide (6 ≤ z) = true := by simp; omega
          clear h0 h6
          go_wp2_with fail
          go_quiet (fail)
          go_wp2
          go_ret
          exact ⟨ret_eq HD.out, _, World.drewN_drewN _ _ _⟩
        · have h0' : 0 ≤ z := by omega
          have h6' : z < 6 := by omega
          have b0 : decide (z < 0) = false := by simp; omega
          have b1 : decide (6 ≤ z) = false := by simp; omega
          clear h0 h6
          rcases HP.out with ⟨hk0, hp⟩ | ⟨hk0, hp, hpz⟩
          · have hd' : QM.rise z (zs.drop (k + 1)) = r := by
              rw [← hd]
              have : p < z := by omega
              simp [this, h6']
            clear hd HP hp
            have HD := Lib.hid hd'; clear hd'
            have hq1 : decide (0 < k) = false := by simp; omega
            have hq2 : decide ((0 : Int) < (k : Int)) = false := by simp; omega
            clear hk0
            go_wp2_with fail
            go_quiet (fail)
            go_wp2
            go_roundw
            case rel => exact ⟨k + 1, q + nq, z, by omega, by go_num, rfl, HD, Lib.hid (.inr ⟨by omega, by omega, HG.out⟩)⟩
            case measure => simp [intOf]; omega
          · have hkz1 : k - 1 < n := by omega
            obtain ⟨ad2, u2, hA2, _, hu2, hcell2⟩ := hr.at_ hkz1
            injection hA2 with hA2
            subst hA2
            have hu3 : u2 = .int .i64 p := by
              have : (ic zs)[k - 1]? = some (.int .i64 p) := by unfold ic; rw [List.getElem?_map, hpz]; rfl
              rw [this] at hu2
              injection hu2 with hu2
              exact hu2.symm
            subst hu3
            clear hu2 hkz1
            have hq1 : decide (0 < k) = true := by simp; omega
            have hq2 : decide ((0 : Int) < (k : Int)) = true := by simp; omega
            have s1 : IntKind.i64.wrap ((k : Int) - 1) = (k : Int) - 1 := IntWalk.i64_in _ ⟨by omega, by omega⟩
            have s2 : (0 : Int) ≤ (k : Int) - 1 := by omega
            have s3 : ((k : Int) - 1).toNat = k - 1 := by omega
            have s4 : (k : Int) - 1 < (n : Int) := by omega
            by_cases hpl : p < z
            · have hd' : QM.rise z (zs.drop (k + 1)) = r := by
                rw [← hd]
                simp [hpl, h6']
              have b2 : decide (z ≤ p) = false := by simp; omega
              clear hd HP hpz
              have HD := Lib.hid hd'; clear hd'
              go_wp2_with fail
              go_quiet (fail)
              clear s1 s3
              go_wp2
              go_roundw
              case rel => exact ⟨k + 1, q + nq, z, by omega, by go_num, rfl, HD, Lib.hid (.inr ⟨by omega, by omega, HG.out⟩)⟩
              case measure => simp [intOf]; omega
            · have hd' : false = r := by
                rw [← hd]
                simp [hpl]
              have ho : false = o := by have := HO.out; rw [← hd'] at this; simpa using this.symm
              have b2 : decide (z ≤ p) = true := by simp; omega
              clear hd hd' HP hpz
              have HD := Lib.hid ho; clear ho
              go_wp2_with fail
              go_quiet (fail)
              clear s1 s3
              go_wp2
              go_ret
              exact ⟨ret_eq HD.out, _, World.drewN_drewN _ _ _⟩
    · have hd := HR.out
      rw [List.drop_of_length_le (by have := HL.out; omega)] at hd
      have ho : (decide (1 ≤ n) && decide (n ≤ 6)) = o := by have := HO.out; rw [← hd] at this; rw [this]; simp [QM.rise]
      have HD := Lib.hid ho; clear ho hd
      by_cases h1 : 1 ≤ n
      · by_cases h6 : n ≤ 6
        · have ht : true = o := by rw [← HD.out]; simp [h1, h6]
          clear HD
          have HD := Lib.hid ht; clear ht
          go_wp2
          go_ret
          exact ⟨ret_eq (by rw [← HD.out]; simp; omega), _, rfl⟩
        · have ht : false = o := by rw [← HD.out]; simp [h6]
          clear HD
          have HD := Lib.hid ht; clear ht
          go_wp2
          go_ret
          exact ⟨ret_eq (by rw [← HD.out]; simp; omega), _, rfl⟩
      · have ht : false = o := by rw [← HD.out]; simp [h1]
        clear HD
        have HD := Lib.hid ht; clear ht
        go_wp2
        go_ret
        exact ⟨ret_eq HD.out, _, rfl⟩
end Go.Proofs.Ytmcfamoicdmkdaa
