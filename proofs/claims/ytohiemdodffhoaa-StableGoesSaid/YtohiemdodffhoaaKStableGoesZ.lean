/-
  The walk of StableGoes, the contracts put in. Conditions: any one, record, group and slot.
-/
import Derived.Test.YtohiemdodffhoaaKStableGoesW
import Derived.Test.YtohiemdodffhoaaK04
import Derived.Test.YtohiemdodffhoaaK01
namespace Go.Proofs.Ytohiemdodffhoaa
open Go.RowKit
set_option linter.unusedVariables false
theorem stableGoes_walk (v : Value) (x : SM.Sb) (u : Value) (r : RM.Rc) (gp sl : Int) (w : World) (hv : SP.StArg w v x) (hr : RP.RecArg u r) (h1 : (Lit.int .i64 gp).wf = true) (h2 : (Lit.int .i64 sl).wf = true) :
    Calls Try.prog 7 #[v, u, .int .i64 gp, .int .i64 sl] w fun e w' => e = .returned (.bool true) ∧ Below w.heap.size w w' := by
  obtain ⟨rfl, hb1, hb2, hs⟩ := hr
  exact SP.stableGoes_of SP.newP SP.appP SP.atP SP.chkP v x r.k r.g r.s r.b r.v gp sl w hv hb1 hb2 hs
end Go.Proofs.Ytohiemdodffhoaa
