/-
  LogFinds over Members of package log. Conditions: any log, what comes behind, and value.
-/
import Derived.Test.YtodmpapfnilkoaaKLogFindsW
import Derived.Test.YtodmpapfnilkoaaK30
import Derived.Test.YtodmpapfnilkoaaK01
namespace Go.Proofs.Ytodmpapfnilkoaa
open Go.RowKit LP
set_option linter.unusedVariables false
theorem logFinds_walk (a0 : Option Addr) (len0 cap0 : Nat) (z0 : List ByteArray) (a1 : Option Addr) (len1 cap1 : Nat) (z1 : List ByteArray) (v : ByteArray) (w : World) (w0 : IsTexts w a0 len0 cap0 z0) (w1 : IsTexts w a1 len1 cap1 z1) (w2 : v.size ≤ maxLen) :
    Calls Try.prog 6 #[.slice a0 len0 cap0, .slice a1 len1 cap1, .string v] w fun e w' => e = .returned (.bool true) ∧ Below w.heap.size w w' :=
  logFinds_walk0 pmem a0 len0 cap0 _ a1 len1 cap1 _ v w (tx_of w0) (tx_of w1) w2
end Go.Proofs.Ytodmpapfnilkoaa
