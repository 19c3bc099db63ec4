/-
  The document's own Check of a ballot (towncrierref05). Conditions: as the theorem says.
-/
import Derived.Test.YtmcfamoicdmkdaaBallotRM
namespace Go.Proofs.Ytmcfamoicdmkdaa
open Go.RowKit
set_option linter.unusedVariables false

theorem rCheck_any {b r n y : Int} (h : BM.OfIs b r n y) (w : World) : Calls Try.prog 53 #[.int .i64 b] w fun e w' => e = .returned (.int .i64 y) ∧ w = w' := by
  rcases h with ⟨h, _, _, rfl⟩ | ⟨h, _, _, rfl⟩
  · have H := Lib.hid h; clear h
    go_enter Try.func53, Try.ntmps53
    go_wp2_with fail
    refine (rMay_yes _ _ H.out).mono ?_
    rintro e w1 ⟨rfl, rfl⟩
    go_wp2
    go_ret
    exact ⟨rfl, rfl⟩
  · have H := Lib.hid h; clear h
    go_enter Try.func53, Try.ntmps53
    go_wp2_with fail
    refine (rMay_no _ _ H.out).mono ?_
    rintro e w1 ⟨rfl, rfl⟩
    go_wp2
    go_ret
    exact ⟨rfl, rfl⟩
end Go.Proofs.Ytmcfamoicdmkdaa
