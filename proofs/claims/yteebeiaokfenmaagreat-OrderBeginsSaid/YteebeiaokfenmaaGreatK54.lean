/-
  What Read of a command answers: forms of it (no program). No walk.
-/
import Derived.Test.YteebeiaokfenmaaGreatK01
namespace Go.Proofs.YteebeiaokfenmaaGreat.CP
open Go.RowKit
open CM (Mg Cm)
/-- what Read answers -/
def RdIs (x : Cm) (y : Int) (w : World) (e : Ending) (w' : World) : Prop := ∃ v, e = .returned (.tuple #[v, .int .i64 y]) ∧ CmIs w' v x ∧ Below w.heap.size w w'
/-- .. and its rows are new -/
def RdGe (x : Cm) (y : Int) (w : World) (e : Ending) (w' : World) : Prop := ∃ v, e = .returned (.tuple #[v, .int .i64 y]) ∧ CmGe w' w.heap.size v x ∧ Below w.heap.size w w'
end Go.Proofs.YteebeiaokfenmaaGreat.CP
