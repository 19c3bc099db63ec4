/-
  An argument that is a group (api.Group by value: two lists of ints), opened to cells. Conditions: as each theorem says.
-/
import Derived.Test.YtodldnnonhlhgaaProg
import Derived.Test.YtodldnnonhlhgaaMem
import Derived.Test.YtodldnnonhlhgaaRows
import Derived.Lib.SmallJoins
import Derived.OpenShut
namespace Go.Proofs.Ytodldnnonhlhgaa
open Go.RowKit Go.Joins Go.ChangeShapes Go.WideShapes Go.Deep
set_option linter.unusedVariables false

/-- an argument that is a group: two slices that read as ints -/
def GroupArg (w : World) (v : Value) (rs ms : List Int) : Prop :=
  ∃ A n c B m d, v = .agg #[.slice A n c, .slice B m d] ∧ n ≤ c ∧ c ≤ maxLen ∧ Rd w A n (ic rs) ∧ m ≤ d ∧ d ≤ maxLen ∧ Rd w B m (ic ms)
theorem GroupArg.below {w w' : World} {v : Value} {rs ms : List Int} (h : GroupArg w v rs ms) (hb : Below w.heap.size w w') : GroupArg w' v rs ms := by
  obtain ⟨A, n, c, B, m, d, e, h1, h2, h3, h4, h5, h6⟩ := h
  exact ⟨A, n, c, B, m, d, e, h1, h2, h3.below hb, h4, h5, h6.below hb⟩

section
variable {H : Type} {enc : TypeId × Value → H} {w : World} {spare : Nat → Bool} {held : Bool}
theorem open_isl {base fuel : Nat} {v : Value} {x : DataW H × List MemPlace} (h : DataW.trod enc Try.prog w base spare held fuel 25 [v] = some x) :
    ∃ A n c zs, v = .slice A n c ∧ n ≤ c ∧ c ≤ maxLen ∧ Rd w A n (ic zs) := by
  rcases open_ints Try.underlying25 Try.underlying3 (by kernel_rfl) h with ⟨hcs, _⟩ | ⟨a, len, cap, zs, hcs, hbl, hl, hm, hz, hx, hcell, hwz⟩
  · simp at hcs
    exact ⟨none, 0, 0, [], hcs, Nat.le_refl _, Nat.zero_le _, Rd.nil⟩
  · simp at hcs
    have hlz : len ≤ zs.length := by rw [hz]; split <;> omega
    refine ⟨some a, len, cap, zs.take len, hcs, hl, hm, by rw [ic_length, List.length_take]; omega, fun hn => ⟨a, rfl, ?_, fun j u hu => ?_⟩⟩
    · have := cell_block (hcell 0 (by omega)); rwa [block_of_add] at this
    · unfold ic at hu
      rw [List.getElem?_map, List.getElem?_take] at hu
      split at hu
      · rename_i hj
        have hjz : j < zs.length := by omega
        rw [hcell j hjz]
        rw [List.getElem?_eq_getElem hjz] at hu
        simp at hu
        rw [← hu]
        simp [hjz]
      · simp at hu
theorem open_group {r : Reach} {b0 base : Nat} {v : Value} {d : DataW H} {p : List MemPlace} (hv : Value.okWide Try.prog w r b0 29 v) (h : DataW.Trod enc Try.prog w base spare held 29 v d p) :
    ∃ rs ms, GroupArg w v rs ms := by
  obtain ⟨v0, v1, y0, y1, n, rfl, rfl, rfl, t0, t1⟩ := open_agg2 Try.underlying29 (by kernel_rfl) (by kernel_rfl) hv h
  obtain ⟨A, a, c, zs, rfl, g1, g2, h0⟩ := open_isl t0
  obtain ⟨B, b, e, ys, rfl, g3, g4, h1⟩ := open_isl t1
  exact ⟨_, _, A, a, c, B, b, e, rfl, g1, g2, h0, g3, g4, h1⟩
end
end Go.Proofs.Ytodldnnonhlhgaa
