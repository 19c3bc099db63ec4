/-
  The walk of StableOn, the contracts put in. Conditions: any number, two lists of texts.
-/
import Derived.Test.YtohiemdodffhoaaKStableOnW
import Derived.Test.YtohiemdodffhoaaK04
namespace Go.Proofs.Ytohiemdodffhoaa
open Go.RowKit
set_option linter.unusedVariables false
theorem stableOn_walk (n : Int) (A : Option Addr) (len cap : Nat) (ss : List ByteArray) (B : Option Addr) (len2 cap2 : Nat) (ts : List ByteArray) (w : World) (hn : (Lit.int .i64 n).wf = true) (hl : IsTexts w A len cap ss) (hm : IsTexts w B len2 cap2 ts) :
    Calls Try.prog 8 #[.int .i64 n, .slice A len cap, .slice B len2 cap2] w fun e w' => e = .returned (.bool true) ∧ Below w.heap.size w w' :=
  SP.stableOn_of SP.newP SP.appP SP.atP SP.repP SP.samP n A len cap (ss.take len) B len2 cap2 (ts.take len2) w (SP.texts_of hl) (SP.texts_of hm)
end Go.Proofs.Ytohiemdodffhoaa
