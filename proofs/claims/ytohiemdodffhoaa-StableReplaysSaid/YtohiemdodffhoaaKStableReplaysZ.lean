/-
  The walk of StableReplays, the contracts put in. Conditions: any number, texts, and one that fits.
-/
import Derived.Test.YtohiemdodffhoaaKStableReplaysW
import Derived.Test.YtohiemdodffhoaaK04
namespace Go.Proofs.Ytohiemdodffhoaa
open Go.RowKit
set_option linter.unusedVariables false
theorem stableReplays_walk (n : Int) (A : Option Addr) (len cap : Nat) (ss : List ByteArray) (v : Value) (x : SM.Sb) (w : World) (hn : (Lit.int .i64 n).wf = true) (hl : IsTexts w A len cap ss) (hv : SP.StArg w v x) :
    Calls Try.prog 5 #[.int .i64 n, .slice A len cap, v] w fun e w' => e = .returned (.bool true) ∧ Below w.heap.size w w' :=
  SP.stableReplays_of SP.newP SP.repP SP.imgP n A len cap (ss.take len) v x w (SP.texts_of hl) hv
end Go.Proofs.Ytohiemdodffhoaa
