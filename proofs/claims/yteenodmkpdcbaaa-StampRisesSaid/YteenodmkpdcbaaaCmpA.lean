/-
  cmp.Compare and cmp.Or of ints. Conditions: as each theorem says.
-/
import Derived.Test.YteenodmkpdcbaaaProg
import Derived.Test.YteenodmkpdcbaaaSpMath
import Derived.Test.YteenodmkpdcbaaaBox
import Derived.Lib.Hide
import Derived.WalkKit
namespace Go.Proofs.Yteenodmkpdcbaaa.TP
open Go.RowKit
set_option linter.unusedVariables false
set_option linter.unusedSimpArgs false
set_option maxRecDepth 100000

theorem isnan_any (x : Int) (w : World) : Calls Try.prog 26 #[.int .i64 x] w fun e w' => e = .returned (.bool false) ∧ w = w' := by
  have h : ((x : Int) != x) = false := by simp
  go_enter Try.func26, Try.ntmps26
  go_wp2_with fail
  go_ret
  exact ⟨by simp, rfl⟩
set_option maxHeartbeats 1000000 in
theorem compare_any (a b : Int) (w : World) : Calls Try.prog 25 #[.int .i64 a, .int .i64 b] w fun e w' => e = .returned (.int .i64 (TM.cmpI a b)) ∧ w = w' := by
  obtain ⟨z, hz⟩ : ∃ z, z = TM.cmpI a b := ⟨_, rfl⟩
  rw [← hz]
  unfold TM.cmpI at hz
  rcases (show a < b ∨ (¬ a < b ∧ b < a) ∨ (¬ a < b ∧ ¬ b < a) by omega) with h1 | ⟨h1, h2⟩ | ⟨h1, h2⟩
  · obtain rfl : z = -1 := by rw [hz, if_pos h1]
    clear hz
    go_enter Try.func25, Try.ntmps25
    go_wp2_with fail
    refine (isnan_any a w).mono ?_
    rintro e w1 ⟨rfl, rfl⟩
    go_wp2_with fail
    refine (isnan_any b w).mono ?_
    rintro e w1 ⟨rfl, rfl⟩
    go_wp2_with fail
    go_ret
    exact ⟨rfl, rfl⟩
  · obtain rfl : z = 1 := by rw [hz, if_neg h1, if_pos h2]
    clear hz
    go_enter Try.func25, Try.ntmps25
    go_wp2_with fail
    refine (isnan_any a w).mono ?_
    rintro e w1 ⟨rfl, rfl⟩
    go_wp2_with fail
    refine (isnan_any b w).mono ?_
    rintro e w1 ⟨rfl, rfl⟩
    go_wp2_with fail
    go_ret
    exact ⟨rfl, rfl⟩
  · obtain rfl : z = 0 := by rw [hz, if_neg h1, if_neg h2]
    clear hz
    go_enter Try.func25, Try.ntmps25
    go_wp2_with fail
    refine (isnan_any a w).mono ?_
    rintro e w1 ⟨rfl, rfl⟩
    go_wp2_with fail
    refine (isnan_any b w).mono ?_
    rintro e w1 ⟨rfl, rfl⟩
    go_wp2_with fail
    go_ret
    exact ⟨rfl, rfl⟩
set_option maxHeartbeats 1000000 in
theorem or_any (bl : Nat) (z y x : Int) (w : World) (h : Box w bl 3 #[.int .i64 z, .int .i64 y]) (hx : x = TM.orI z y) :
    Calls Try.prog 24 #[.slice (some ⟨bl, 0, none⟩) 2 2] w fun e w' => e = .returned (.int .i64 x) ∧ w = w' := by
  have c0 := h.cell 0
  have c1 := h.cell 1
  simp at c0 c1
  unfold TM.orI at hx
  have HX := Lib.hid hx
  clear h hx
  go_enter Try.func24, Try.ntmps24
  go_wp2_with fail
  go_loop [8] (fun i => ∃ k : Nat, k ≤ 2 ∧ i = .int .i64 k ∧ Hid ((1 ≤ k → z = 0) ∧ (2 ≤ k → y = 0))) (fun i => 2 - (intOf i).toNat)
  case atStart => exact ⟨0, by omega, rfl, Lib.hid ⟨by omega, by omega⟩⟩
  case round =>
    obtain ⟨k, hk, rfl, HK⟩ := hrel
    rcases (show k = 0 ∨ k = 1 ∨ k = 2 by omega) with rfl | rfl | rfl
    · by_cases hz : z = 0
      · have HZ := Lib.hid hz
        have hb : (z != 0) = false := by simp [hz]
        clear hz
        go_wp2_with fail
        go_round
        case rel => exact ⟨1, by omega, rfl, Lib.hid ⟨fun _ => HZ.out, by omega⟩⟩
        case measure => simp [intOf]
      · have HZ := Lib.hid (show x = z by rw [HX.out, if_pos hz])
        have hb : (z != 0) = true := by simp [hz]
        clear hz
        go_wp2_with fail
        go_ret
        exact ⟨by rw [HZ.out]; rfl, rfl⟩
    · have hz := HK.out.1 (by omega)
      by_cases hy : y = 0
      · have HZ := Lib.hid (And.intro hz hy)
        have hb : (y != 0) = false := by simp [hy]
        clear hz hy
        go_wp2_with fail
        go_round
        case rel => exact ⟨2, by omega, rfl, Lib.hid ⟨fun _ => HZ.out.1, fun _ => HZ.out.2⟩⟩
        case measure => simp [intOf]
      · have HZ := Lib.hid (show x = y by rw [HX.out, if_neg (fun h => h hz)])
        have hb : (y != 0) = true := by simp [hy]
        clear hy hz
        go_wp2_with fail
        go_ret
        exact ⟨by rw [HZ.out]; rfl, rfl⟩
    · have HZ := Lib.hid (show x = 0 by rw [HX.out, if_neg (fun h => h (HK.out.1 (by omega)))]; exact HK.out.2 (by omega))
      go_wp2_with fail
      go_ret
      exact ⟨by rw [HZ.out]; rfl, rfl⟩
end Go.Proofs.Yteenodmkpdcbaaa.TP
