/-
  The walk of BallotTells: each answer of package ballot is the document's own one. Conditions: any int64 numbers.
-/
import Derived.Test.YtcgblaioobhakaaBallotB
import Derived.Test.YtcgblaioobhakaaBallotR
import Derived.Below
namespace Go.Proofs.Ytcgblaioobhakaa
open Go.RowKit
set_option linter.unusedVariables false

set_option maxRecDepth 100000 in
set_option maxHeartbeats 1000000 in
theorem ballotTells_walk (r n b : Int) (w : World) (hr : (Lit.int .i64 r).wf = true) (hn : (Lit.int .i64 n).wf = true) (hb : (Lit.int .i64 b).wf = true) :
    Calls Try.prog 4 #[.int .i64 r, .int .i64 n, .int .i64 b] w fun e w' => e = .returned (.bool true) ∧ Below w.heap.size w w' := by
  have hb1 : -9223372036854775808 ≤ b ∧ b ≤ 9223372036854775807 := by simpa [Lit.wf, IntKind.min, IntKind.max, IntKind.signed, IntKind.bits] using hb
  obtain ⟨x1, e1, h1⟩ := BM.makeIs_ex r n
  obtain ⟨x2, y2, e2, h2⟩ := BM.ofIs_ex b
  obtain ⟨x3, e3, h3⟩ := BM.nextIs_ex b n
  have H1 := Lib.hid h1; clear h1
  have H2 := Lib.hid h2; clear h2
  have H3 := Lib.hid h3; clear h3
  have HB := Lib.hid hb1; clear hb1
  clear hr hn hb
  go_enter Try.func4, Try.ntmps4
  go_wp2_with fail
  refine (make_any H1.out _).mono ?_
  rintro e w1 ⟨rfl, rfl⟩
  go_wp2_with fail
  refine (rMake_any H1.out _).mono ?_
  rintro e w1 ⟨rfl, rfl⟩
  go_wp2_with fail
  refine (of_any H2.out HB.out.1 HB.out.2 _).mono ?_
  rintro e w1 ⟨rfl, rfl⟩
  go_wp2_with fail
  refine (rOf_any H2.out _).mono ?_
  rintro e w1 ⟨rfl, rfl⟩
  go_wp2_with fail
  refine (next_any H3.out _).mono ?_
  rintro e w1 ⟨rfl, rfl⟩
  go_wp2_with fail
  refine (rNext_any H3.out _).mono ?_
  rintro e w1 ⟨rfl, rfl⟩
  go_wp2_with fail
  refine (check_any H2.out HB.out.1 HB.out.2 _).mono ?_
  rintro e w1 ⟨rfl, rfl⟩
  go_wp2_with fail
  refine (rCheck_any H2.out _).mono ?_
  rintro e w1 ⟨rfl, rfl⟩
  go_wp2
  go_ret
  exact ⟨by simp, Below.refl _ _⟩
end Go.Proofs.Ytcgblaioobhakaa
