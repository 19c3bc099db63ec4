/-
  An argument that is a vote (api.Vote by value: two ints and a text), opened to cells. Conditions: as each theorem says.
-/
import Derived.Test.YtgdelnegameapaaProg
import Derived.Test.YtgdelnegameapaaRows
import Derived.Lib.SmallJoins
import Derived.OpenShut
namespace Go.Proofs.Ytgdelnegameapaa
open Go.RowKit Go.Joins Go.ChangeShapes Go.WideShapes Go.Deep
set_option linter.unusedVariables false

/-- an argument that is a vote -/
def VoteArg (v : Value) (p b : Int) (s : ByteArray) : Prop :=
  v = .agg #[.int .i64 p, .int .i64 b, .string s] ∧ (Lit.int .i64 p).wf = true ∧ (Lit.int .i64 b).wf = true ∧ s.size ≤ maxLen
section
variable {H : Type} {enc : TypeId × Value → H} {w : World} {spare : Nat → Bool} {held : Bool}
theorem open_vote {r : Reach} {b0 base : Nat} {v : Value} {d : DataW H} {p : List MemPlace} (hv : Value.okWide Try.prog w r b0 23 v) (h : DataW.Trod enc Try.prog w base spare held 23 v d p) :
    ∃ x y s, VoteArg v x y s := by
  obtain ⟨v0, v1, v2, y0, y1, y2, n, rfl, rfl, rfl, t0, t1, t2⟩ := open_agg3 Try.underlying23 (by kernel_rfl) (by kernel_rfl) hv h
  obtain ⟨x, e0, _, w0⟩ := DataW.trod_int Try.underlying3 t0
  obtain ⟨y, e1, _, w1⟩ := DataW.trod_int Try.underlying3 t1
  obtain ⟨s, e2, _, w2⟩ := DataW.trod_string Try.underlying9 t2
  simp at e0 e1 e2
  subst e0 e1 e2
  exact ⟨x, y, s, rfl, w0, w1, w2⟩
end
end Go.Proofs.Ytgdelnegameapaa
