/-
  Words for walks over members (no function): answers written in another form.
-/
import Derived.Test.YtnpgjcapekopnaaGreatProg
import Derived.Test.YtnpgjcapekopnaaGreatQuorumMath
import Derived.Test.YtnpgjcapekopnaaGreatMem
import Derived.Lib.Hide
import Derived.WalkKit
import Derived.IntWalk
namespace Go.Proofs.YtnpgjcapekopnaaGreat
open Go.RowKit
theorem ret_int {k : IntKind} {a b : Int} (h : a = b) : Ending.returned (.int k a) = .returned (.int k b) := by rw [h]
theorem ret_eq {a b : Bool} (h : a = b) : Ending.returned (.bool a) = .returned (.bool b) := by rw [h]
end Go.Proofs.YtnpgjcapekopnaaGreat
