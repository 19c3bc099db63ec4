/-
  LogMembers over Members of package log. Conditions: any group, log and command.
-/
import Derived.Test.YtodmpapfnilkoaaKLogMembersW
import Derived.Test.YtodmpapfnilkoaaK30
import Derived.Test.YtodmpapfnilkoaaK01
import Derived.Test.YtodmpapfnilkoaaK26
import Derived.Test.YtodmpapfnilkoaaK31
namespace Go.Proofs.Ytodmpapfnilkoaa
open Go.RowKit LP CP
set_option linter.unusedVariables false
theorem logMembers_walk (v0 : Value) (b0 q0 : List Int) (a1 : Option Addr) (len1 cap1 : Nat) (z1 : List ByteArray) (v2 : Value) (x2 : CM.Cm) (w : World) (w0 : GroupArg w v0 b0 q0) (w1 : IsTexts w a1 len1 cap1 z1) (w2 : CmArg w v2 x2) :
    Calls Try.prog 5 #[v0, .slice a1 len1 cap1, v2] w fun e w' => e = .returned (.bool true) ∧ Below w.heap.size w w' :=
  logMembers_walk0 pmem v0 b0 q0 a1 len1 cap1 _ v2 x2 w (gp_of w0) (tx_of w1) w2.1 w2.2
end Go.Proofs.Ytodmpapfnilkoaa
