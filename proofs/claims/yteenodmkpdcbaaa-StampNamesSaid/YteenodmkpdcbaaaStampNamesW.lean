/-
  The walk of StampNames: the limits have their numbers, the chapter's examples are so. No input.
-/
import Derived.Test.YteenodmkpdcbaaaSpLv
namespace Go.Proofs.Yteenodmkpdcbaaa
open Go.RowKit TP
open TM (Sp)
set_option linter.unusedVariables false
set_option linter.unusedSimpArgs false
set_option maxRecDepth 100000

theorem fit_lit (a b : Int) (h : -9223372036854775808 ≤ a ∧ a ≤ 9223372036854775807) (k : -9223372036854775808 ≤ b ∧ b ≤ 9223372036854775807) : SpFit ⟨a, b⟩ := ⟨h, k⟩
set_option maxHeartbeats 4000000 in
theorem stampNames_walk (w : World) : Calls Try.prog 3 #[] w fun e w' => e = .returned (.bool true) ∧ Below w.heap.size w w' := by
  have K1 := Lib.hid (fun w => pid_any (show TM.IdIs 2 5 2097157 0 from .inl (by decide)) w)
  have K2 := Lib.hid (fun w => pof_any (show TM.OfIs 2097157 2 5 0 from .inl (by decide)) (by decide) (by decide) w)
  have K3 := Lib.hid (fun w => pid_any (show TM.IdIs 6 0 0 2 from .inr (by decide)) w)
  have K4 := Lib.hid (fun w => pof_any (show TM.OfIs (-1) 0 0 2 from .inr (by decide)) (by decide) (by decide) w)
  have K5 := Lib.hid (fun w => alive14_any w)
  have K6 := Lib.hid (fun w => (show Calls _ _ _ w (IsB true w) from prises_any none 0 0 [] w (spsIs_nil w)))
  have K7 := Lib.hid (fun w => (show Calls _ _ #[.agg #[.int .i64 (-1), .int .i64 0]] w (IsN 8 w) from pcheck_any ⟨-1, 0⟩ w (fit_lit _ _ (by decide) (by decide))))
  have K8 := Lib.hid (fun w => (show Calls _ _ #[.agg #[.int .i64 0, .int .i64 0]] w (IsN 0 w) from pcheck_any ⟨0, 0⟩ w (fit_lit _ _ (by decide) (by decide))))
  go_enter Try.func3, Try.ntmps3
  go_wp2_with fail
  refine (K1.out _).mono ?_
  rintro e w1 ⟨rfl, rfl⟩
  go_wp2_with fail
  refine (K2.out _).mono ?_
  rintro e w1 ⟨rfl, rfl⟩
  go_wp2_with fail
  refine (K3.out _).mono ?_
  rintro e w1 ⟨rfl, rfl⟩
  go_wp2_with fail
  refine (K4.out _).mono ?_
  rintro e w1 ⟨rfl, rfl⟩
  go_wp2_with fail
  refine (K5.out _).mono ?_
  rintro e w1 ⟨rfl, hb⟩
  have HB := Lib.hid hb
  clear hb
  go_wp2_with fail
  refine (K6.out _).mono ?_
  rintro e w2 ⟨rfl, hb⟩
  replace HB := Lib.hid (bmore HB.out hb (Nat.le_refl _))
  clear hb
  go_wp2_with fail
  refine (K7.out _).mono ?_
  rintro e w3 ⟨rfl, hb⟩
  replace HB := Lib.hid (bmore HB.out hb (Nat.le_refl _))
  clear hb
  go_wp2_with fail
  refine (K8.out _).mono ?_
  rintro e w4 ⟨rfl, hb⟩
  replace HB := Lib.hid (bmore HB.out hb (Nat.le_refl _))
  clear hb
  go_wp2_with fail
  go_ret
  exact ⟨rfl, HB.out⟩
end Go.Proofs.Yteenodmkpdcbaaa
