/-
  What package quorum answers of a list that reads as ints: rise, Check. Conditions: the slices read as ints.
  What package quorum answers of a list that reads as ints: slices.Index, slices.Contains, Has. Conditions: the slices read as ints.
-/
import Derived.Test.YteebeiaokfenmaaGreatProg
import Derived.Test.YteebeiaokfenmaaGreatK01
import Derived.Lib.Hide
import Derived.Lib.Strings
import Derived.Lib.Slices
import Derived.Lib.Small
import Derived.Lib.Walk
import Derived.Lib.BitFns
import Derived.WalkKit
import Derived.IntWalk
import Derived.Laws.BitsLemmas
namespace Go.Proofs.YteebeiaokfenmaaGreat
open Go.RowKit
set_option linter.unusedVariables false
set_option maxRecDepth 100000

set_option maxHeartbeats 1000000 in
theorem rise_any (A : Option Addr) (n c : Nat) (zs : List Int) (w : World) (hr : Rd w A n (ic zs)) (hm : n ≤ 9223372036854775807) :
    Calls Tryz.prog 140 #[.slice A n c] w fun e w' => e = .returned (.bool (QM.rise (-1) zs)) ∧ w = w' := by
  obtain ⟨r, hrr⟩ : ∃ r, r = QM.rise (-1) zs := ⟨_, rfl⟩
  rw [← hrr]
  have hl : zs.length = n := by have := hr.1; rwa [ic_length] at this
  have HL := Lib.hid hl; clear hl
  have hst : QM.rise (-1) (zs.drop 0) = r := by rw [hrr]; rfl
  clear hrr
  have HS := Lib.hid hst; clear hst
  go_enter Tryz.func140, Tryz.ntmps140
  go_wp2
  go_loop [3, 8] (fun a i => ∃ (k : Nat) (p : Int), k ≤ n ∧ i = .int .i64 k ∧ a = .int .i64 p ∧ -1 ≤ p ∧ Hid (QM.rise p (zs.drop k) = r)) (fun _ i => n - (intOf i).toNat)
  case atStart => exact ⟨0, -1, by omega, rfl, rfl, by omega, HS⟩
  case round =>
    clear HS
    obtain ⟨k, p, hk, rfl, rfl, hp, HR⟩ := hrel
    by_cases hlt : k < n
    · have hkz : k < zs.length := by have := HL.out; omega
      obtain ⟨ad, u, rfl, _, hu, hcell⟩ := hr.at_ hlt
      rw [ic_get zs k hkz] at hu
      injection hu with hu
      subst hu
      have hd := HR.out
      rw [List.drop_eq_getElem_cons hkz] at hd
      obtain ⟨z, hz⟩ : ∃ z, z = zs[k] := ⟨_, rfl⟩
      rw [← hz] at hcell hd
      clear hz HR
      simp only [QM.rise] at hd
      by_cases h1 : p < z
      · by_cases h2 : z < 6
        · have hd' : QM.rise z (zs.drop (k + 1)) = r := by rw [← hd]; simp [h1, h2]
          clear hd
          have HD := Lib.hid hd'; clear hd'
          go_wp2
          go_round
          case rel => exact ⟨k + 1, z, by omega, by go_num, rfl, by omega, HD⟩
          case measure => simp [intOf]; omega
        · have hd' : false = r := by rw [← hd]; simp [h2]
          clear hd
          have HD := Lib.hid hd'; clear hd'
          go_wp2
          go_ret
          exact ⟨ret_eq HD.out, rfl⟩
      · have hd' : false = r := by rw [← hd]; simp [h1]
        clear hd
        have HD := Lib.hid hd'; clear hd'
        go_wp2
        go_ret
        exact ⟨ret_eq HD.out, rfl⟩
    · have hd : true = r := by have := HR.out; rw [List.drop_of_length_le (by have := HL.out; omega)] at this; simpa [QM.rise] using this
      have HD := Lib.hid hd; clear hd
      go_wp2
      go_ret
      exact ⟨ret_eq HD.out, rfl⟩

theorem qcheck_any (A : Option Addr) (n c : Nat) (zs : List Int) (y : Int) (w : World) (hr : Rd w A n (ic zs)) (hm : n ≤ 9223372036854775807) (hy : QM.ChkIs zs y) :
    Calls Tryz.prog 112 #[.slice A n c] w fun e w' => e = .returned (.int .i64 y) ∧ w = w' := by
  have hl : zs.length = n := by have := hr.1; rwa [ic_length] at this
  have h := rise_any A n c zs w hr hm
  rcases hy with ⟨h6, rfl⟩ | ⟨h6, hf, rfl⟩ | ⟨ht, rfl⟩
  · rw [hl] at h6
    clear h hl
    go_enter Tryz.func112, Tryz.ntmps112
    go_wp2
    go_ret
    exact ⟨rfl, rfl⟩
  · rw [hl] at h6
    by_cases h0 : n = 0
    · subst h0
      clear h hl hf h6
      go_enter Tryz.func112, Tryz.ntmps112
      go_wp2
      go_ret
      exact ⟨rfl, rfl⟩
    · have hz : QM.rise (-1) zs = false := by
        unfold QM.may at hf
        rw [hl] at hf
        have h1 : decide (1 ≤ n) = true := by simp; omega
        have h2 : decide (n ≤ 6) = true := by simp; omega
        rw [h1, h2] at hf
        simpa using hf
      rw [hz] at h
      have H := Lib.hid h
      clear h hl hf hz
      have h1 : 0 < n := by omega
      clear h0
      go_enter Tryz.func112, Tryz.ntmps112
      go_wp2_with fail
      refine H.out.mono ?_
      rintro e w1 ⟨rfl, rfl⟩
      go_wp2
      go_ret
      exact ⟨rfl, rfl⟩
  · obtain ⟨h1, h2, h3⟩ := QM.may_len ht
    rw [hl] at h1 h2
    rw [h3] at h
    have H := Lib.hid h
    clear h hl ht h3
    go_enter Tryz.func112, Tryz.ntmps112
    go_wp2_with fail
    refine H.out.mono ?_
    rintro e w1 ⟨rfl, rfl⟩
    go_wp2
    go_ret
    exact ⟨rfl, rfl⟩
end Go.Proofs.YteebeiaokfenmaaGreat

namespace Go.Proofs.YteebeiaokfenmaaGreat
open Go.RowKit
set_option linter.unusedVariables false
set_option maxRecDepth 100000

theorem info_qi : (Tryz.prog.info? 3).map (fun i => (i.zero, i.size, i.bytes)) = some (some (.int .i64 0), 1, 8) := by kernel_rfl
/-- an index that was found -/
def IdxYes (w : World) (e : Ending) (w' : World) : Prop := ∃ y : Int, 0 ≤ y ∧ e = .returned (.int .i64 y) ∧ w = w'
set_option maxHeartbeats 1000000 in
theorem index_yes (A : Option Addr) (n c : Nat) (zs : List Int) (x : Int) (w : World) (hr : Rd w A n (ic zs)) (hm : n ≤ 9223372036854775807) (hx : QM.has zs x = true) :
    Calls Tryz.prog 155 #[.slice A n c, .int .i64 x] w (IdxYes w) := by
  have hl : zs.length = n := by have := hr.1; rwa [ic_length] at this
  have hst : QM.has (zs.drop 0) x = true := hx
  have HL := Lib.hid hl; clear hl
  have HS := Lib.hid hst; clear hst hx
  go_enter Tryz.func155, Tryz.ntmps155
  go_wp2
  go_loop [8] (fun i => ∃ k : Nat, k ≤ n ∧ i = .int .i64 k ∧ Hid (QM.has (zs.drop k) x = true)) (fun i => n - (intOf i).toNat)
  case atStart => exact ⟨0, by omega, rfl, HS⟩
  case round =>
    clear HS
    obtain ⟨k, hk, rfl, HR⟩ := hrel
    by_cases hlt : k < n
    · have hkz : k < zs.length := by have := HL.out; omega
      obtain ⟨ad, u, rfl, _, hu, hcell⟩ := hr.at_ hlt
      rw [ic_get zs k hkz] at hu
      injection hu with hu
      subst hu
      have hd := HR.out
      rw [List.drop_eq_getElem_cons hkz] at hd
      obtain ⟨z, hz⟩ : ∃ z, z = zs[k] := ⟨_, rfl⟩
      rw [← hz] at hcell hd
      clear hz HR
      by_cases h1 : x = z
      · subst h1
        clear hd
        go_wp2
        go_ret
        exact ⟨_, by omega, rfl, rfl⟩
      · have hd' : QM.has (zs.drop (k + 1)) x = true := by
          unfold QM.has at hd ⊢
          simpa [h1] using hd
        clear hd
        have HD := Lib.hid hd'; clear hd'
        have h2 : (x == z) = false := by simpa using h1
        clear h1
        go_wp2
        go_round
        case rel => exact ⟨k + 1, by omega, by go_num, HD⟩
        case measure => simp [intOf]; omega
    · have := HR.out
      rw [List.drop_of_length_le (by have := HL.out; omega)] at this
      simp [QM.has] at this
set_option maxHeartbeats 1000000 in
theorem index_no (A : Option Addr) (n c : Nat) (zs : List Int) (x : Int) (w : World) (hr : Rd w A n (ic zs)) (hm : n ≤ 9223372036854775807) (hx : QM.has zs x = false) :
    Calls Tryz.prog 155 #[.slice A n c, .int .i64 x] w fun e w' => e = .returned (.int .i64 (-1)) ∧ w = w' := by
  have hl : zs.length = n := by have := hr.1; rwa [ic_length] at this
  have HL := Lib.hid hl; clear hl
  have HS := Lib.hid hx; clear hx
  go_enter Tryz.func155, Tryz.ntmps155
  go_wp2
  go_loop [8] (fun i => ∃ k : Nat, k ≤ n ∧ i = .int .i64 k) (fun i => n - (intOf i).toNat)
  case atStart => exact ⟨0, by omega, rfl⟩
  case round =>
    obtain ⟨k, hk, rfl⟩ := hrel
    by_cases hlt : k < n
    · have hkz : k < zs.length := by have := HL.out; omega
      obtain ⟨ad, u, rfl, _, hu, hcell⟩ := hr.at_ hlt
      rw [ic_get zs k hkz] at hu
      injection hu with hu
      subst hu
      have h1 : ¬ x = zs[k] := by
        intro h
        have := HS.out
        unfold QM.has at this
        rw [h] at this
        simp at this
      obtain ⟨z, hz⟩ : ∃ z, z = zs[k] := ⟨_, rfl⟩
      rw [← hz] at hcell h1
      clear hz
      have h2 : (x == z) = false := by simpa using h1
      clear h1
      go_wp2
      go_round
      case rel => exact ⟨k + 1, by omega, by go_num⟩
      case measure => simp [intOf]; omega
    · go_wp2
      go_ret
      exact ⟨rfl, rfl⟩
theorem contains_any (A : Option Addr) (n c : Nat) (zs : List Int) (x : Int) (w : World) (hr : Rd w A n (ic zs)) (hm : n ≤ 9223372036854775807) :
    Calls Tryz.prog 136 #[.slice A n c, .int .i64 x] w fun e w' => e = .returned (.bool (QM.has zs x)) ∧ w = w' := by
  rcases hx : QM.has zs x with _ | _
  · have HX := Lib.hid hx; clear hx
    go_enter Tryz.func136, Tryz.ntmps136
    go_wp2_with fail
    refine (index_no A n c zs x _ hr hm HX.out).mono ?_
    rintro e w1 ⟨rfl, rfl⟩
    go_wp2
    go_ret
    exact ⟨rfl, rfl⟩
  · have HX := Lib.hid hx; clear hx
    go_enter Tryz.func136, Tryz.ntmps136
    go_wp2_with fail
    refine (index_yes A n c zs x _ hr hm HX.out).mono ?_
    rintro e w1 ⟨y, hy, rfl, rfl⟩
    go_wp2
    go_ret
    exact ⟨rfl, rfl⟩
end Go.Proofs.YteebeiaokfenmaaGreat
