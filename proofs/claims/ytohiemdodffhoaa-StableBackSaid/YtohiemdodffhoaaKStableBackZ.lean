/-
  The walk of StableBack, the contracts put in. Conditions: any one that fits.
-/
import Derived.Test.YtohiemdodffhoaaKStableBackW
import Derived.Test.YtohiemdodffhoaaK04
namespace Go.Proofs.Ytohiemdodffhoaa
open Go.RowKit
theorem stableBack_walk (v : Value) (x : SM.Sb) (w : World) (hv : SP.StArg w v x) :
    Calls Try.prog 6 #[v] w fun e w' => e = .returned (.bool true) ∧ Below w.heap.size w w' :=
  SP.stableBack_of SP.newP SP.appP SP.atP SP.imgP SP.repP SP.samP SP.chkP v x w hv
end Go.Proofs.Ytohiemdodffhoaa
