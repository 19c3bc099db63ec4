/-
  The walk of QuorumNames: the limits and errors have their numbers, the chapter's examples are so. No input.
-/
import Derived.Test.YtodldnnonhlhgaaQuorumAlive
namespace Go.Proofs.Ytodldnnonhlhgaa
open Go.RowKit
set_option linter.unusedVariables false

theorem qn_1 : QM.NeedIs [1] 1 0 := ⟨.inr (.inr ⟨by decide, rfl⟩), .inl ⟨rfl, by decide⟩⟩
theorem qn_2 : QM.NeedIs [0, 1, 2, 3] 3 0 := ⟨.inr (.inr ⟨by decide, rfl⟩), .inl ⟨rfl, by decide⟩⟩
theorem qn_3 : QM.ChkIs [] 60 := .inr (.inl ⟨by decide, by decide, rfl⟩)
theorem qn_4 : QM.ChkIs [2, 1] 60 := .inr (.inl ⟨by decide, by decide, rfl⟩)
theorem qn_5 : QM.ChkIs [6] 60 := .inr (.inl ⟨by decide, by decide, rfl⟩)
theorem qn_6 : QM.ChkIs [0, 0, 0, 0, 0, 0, 0] 4 := .inl ⟨by decide, rfl⟩
theorem qn_7 : QM.GrpIs [0, 1] [2] 60 := .inr (.inr ⟨.inr (.inr ⟨by decide, rfl⟩), .inr (.inr ⟨by decide, rfl⟩), by decide⟩)
theorem qn_8 : QM.GrpIs [0, 1, 5] [1, 5] 0 := .inr (.inr ⟨.inr (.inr ⟨by decide, rfl⟩), .inr (.inr ⟨by decide, rfl⟩), by decide⟩)

set_option maxRecDepth 100000 in
set_option maxHeartbeats 2000000 in
theorem quorumNames_walk (w : World) : Calls Try.prog 3 #[] w fun e w' => e = .returned (.bool true) ∧ Below w.heap.size w w' := by
  obtain ⟨i0, hi, hz0, hz1, hz2⟩ := info_parts info_qi
  have H := Lib.hid (need_lit [1] [.int .i64 1] 1 w.heap.size 1 0 w rfl rfl rfl qn_1 (by omega))
  have B0 : Hid (Below w.heap.size w w) := Lib.hid (Below.refl _ _)
  go_enter Try.func3, Try.ntmps3
  go_wp2_with fail
  refine (H.out).mono ?_
  rintro e w1 ⟨rfl, hb⟩
  clear H
  have B1 := Lib.hid (bmore B0.out hb (Nat.le_refl _)); clear hb B0
  have H := Lib.hid (need_lit [0, 1, 2, 3] [.int .i64 0, .int .i64 1, .int .i64 2, .int .i64 3] 4 w1.heap.size 3 0 w1 rfl rfl rfl qn_2 (by omega))
  go_wp2_with fail
  refine (H.out).mono ?_
  rintro e w2 ⟨rfl, hb⟩
  clear H
  have B2 := Lib.hid (bmore B1.out hb (Nat.le_refl _)); clear hb B1
  go_wp2_with fail
  refine (check_any none 0 0 [] 60 w2 Rd.nil (by omega) qn_3).mono ?_
  rintro e w3 ⟨rfl, rfl⟩
  have H := Lib.hid (check_lit [2, 1] [.int .i64 2, .int .i64 1] 2 w2.heap.size 60 w2 rfl rfl rfl qn_4 (by omega))
  go_wp2_with fail
  refine (H.out).mono ?_
  rintro e w3 ⟨rfl, hb⟩
  clear H
  have B3 := Lib.hid (bmore B2.out hb (Nat.le_refl _)); clear hb B2
  have H := Lib.hid (check_lit [6] [.int .i64 6] 1 w3.heap.size 60 w3 rfl rfl rfl qn_5 (by omega))
  go_wp2_with fail
  refine (H.out).mono ?_
  rintro e w4 ⟨rfl, hb⟩
  clear H
  have B4 := Lib.hid (bmore B3.out hb (Nat.le_refl _)); clear hb B3
  obtain ⟨w5, hrun, hown5, hg5⟩ := run_make_full (P := Try.prog) w4 w4.heap.size 25 3 i0 (.int .i64 0) 1 Try.underlying25 hi hz0 hz1 .i64 .i64 7 (by rw [hz2]; decide) (by decide) (Nat.le_refl _)
  have hb5 : Below w4.heap.size w4 w5 := below_of_grown hg5 (by simp)
  have e5 : (madeCells (Value.int .i64 0).cells (7 * 1)).toList = ic [0, 0, 0, 0, 0, 0, 0] := by rw [Nat.mul_one, show (Value.int .i64 0).cells = #[Value.int .i64 0] from rfl, toList_madeCells_one]; rfl
  rw [e5] at hown5
  clear e5
  have R5 : Hid (Rd w5 (some ⟨w4.heap.size, 0, none⟩) 7 (ic [0, 0, 0, 0, 0, 0, 0])) := Lib.hid (Rd.of_own hown5)
  have B5 := Lib.hid (bmore B4.out hb5 (Nat.le_refl _)); clear hb5 B4 hown5 hg5 hi hz0 hz1 hz2
  rw [show ((7 : Nat) : Int) = 7 from rfl] at hrun
  go_wp2_with fail
  clear hrun
  refine (check_any _ _ _ [0, 0, 0, 0, 0, 0, 0] 4 _ R5.out (by omega) qn_6).mono ?_
  rintro e w6 ⟨rfl, rfl⟩
  clear R5
  have H := Lib.hid (group_lit [0, 1] [2] [.int .i64 0, .int .i64 1] [.int .i64 2] 2 1 w5.heap.size (w5.heap.size + 1) 60 w5 rfl rfl rfl rfl rfl rfl qn_7 (by omega) (by omega))
  go_wp2_with fail
  refine (H.out).mono ?_
  rintro e w6 ⟨rfl, hb⟩
  clear H
  have B6 := Lib.hid (bmore B5.out hb (Nat.le_refl _)); clear hb B5
  go_wp2_with fail
  refine (alive_any _).mono ?_
  rintro e w7 ⟨rfl, hb⟩
  have B7 := Lib.hid (bmore B6.out hb (Nat.le_refl _)); clear hb B6
  have H := Lib.hid (group_lit [0, 1, 5] [1, 5] [.int .i64 0, .int .i64 1, .int .i64 5] [.int .i64 1, .int .i64 5] 3 2 w7.heap.size (w7.heap.size + 1) 0 w7 rfl rfl rfl rfl rfl rfl qn_8 (by omega) (by omega))
  go_wp2_with fail
  refine (H.out).mono ?_
  rintro e w8 ⟨rfl, hb⟩
  clear H
  have B8 := Lib.hid (bmore B7.out hb (Nat.le_refl _)); clear hb B7
  go_wp2
  go_ret
  exact ⟨rfl, B8.out⟩
end Go.Proofs.Ytodldnnonhlhgaa
