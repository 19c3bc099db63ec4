/-
  The walk of StableDoes as its frame takes it. Conditions: any two, record, and place.
-/
import Derived.Test.YtohiemdodffhoaaKStableDoesW
import Derived.Test.YtohiemdodffhoaaK01
namespace Go.Proofs.Ytohiemdodffhoaa
open Go.RowKit
set_option linter.unusedVariables false
theorem stableDoes_walk (v : Value) (x : SM.Sb) (v' : Value) (x' : SM.Sb) (u : Value) (r : RM.Rc) (gp sl : Int) (w : World) (hv : SP.StArg w v x) (hv' : SP.StArg w v' x') (hr : RP.RecArg u r) (h1 : (Lit.int .i64 gp).wf = true) (h2 : (Lit.int .i64 sl).wf = true) :
    Calls Try.prog 4 #[v, v', u, .int .i64 gp, .int .i64 sl] w fun e w' => e = .returned (.bool true) ∧ Below w.heap.size w w' := by
  obtain ⟨rfl, hb1, hb2, hs⟩ := hr
  exact SP.stableDoes_of v x v' x' r.k r.g r.s r.b r.v gp sl w hv hv' hb1 hb2 hs
end Go.Proofs.Ytohiemdodffhoaa
