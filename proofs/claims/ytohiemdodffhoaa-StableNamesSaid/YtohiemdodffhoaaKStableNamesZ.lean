/-
  The walk of StableNames, the contracts put in. No input.
-/
import Derived.Test.YtohiemdodffhoaaKStableNamesW
import Derived.Test.YtohiemdodffhoaaK04
namespace Go.Proofs.Ytohiemdodffhoaa
open Go.RowKit
theorem stableNames_walk (w : World) :
    Calls Try.prog 3 #[] w fun e w' => e = .returned (.bool true) ∧ Below w.heap.size w w' :=
  SP.stableNames_of SP.newP SP.appP SP.atP SP.imgP SP.repP w
end Go.Proofs.Ytohiemdodffhoaa
