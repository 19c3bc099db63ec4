/-
  LogTells over Members of package log. Conditions: any log, group and value.
-/
import Derived.Test.YtodmpapfnilkoaaKLogTellsW
import Derived.Test.YtodmpapfnilkoaaK30
import Derived.Test.YtodmpapfnilkoaaK01
import Derived.Test.YtodmpapfnilkoaaK26
namespace Go.Proofs.Ytodmpapfnilkoaa
open Go.RowKit LP
set_option linter.unusedVariables false
theorem logTells_walk (a0 : Option Addr) (len0 cap0 : Nat) (z0 : List ByteArray) (v1 : Value) (b1 q1 : List Int) (v : ByteArray) (w : World) (w0 : IsTexts w a0 len0 cap0 z0) (w1 : GroupArg w v1 b1 q1) (w2 : v.size ≤ maxLen) :
    Calls Try.prog 4 #[.slice a0 len0 cap0, v1, .string v] w fun e w' => e = .returned (.bool true) ∧ Below w.heap.size w w' :=
  logTells_walk0 pmem a0 len0 cap0 _ v1 b1 q1 v w (tx_of w0) (gp_of w1) w2
end Go.Proofs.Ytodmpapfnilkoaa
