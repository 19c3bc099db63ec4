/-
  Seven, five cells of a block stored, one behind the other. No walk, no program.
-/
import Derived.Test.YtnpgjcapekopnaaGreatRowG
namespace Go.Proofs.YtnpgjcapekopnaaGreat.KP
open Go.RowKit
set_option linter.unusedVariables false
set_option linter.unusedSimpArgs false

/-- 7 cells stored -/
def pt7 (w : World) (g : Nat) (a0 a1 a2 a3 a4 a5 a6 : Value) : World := ((((((w.setCell ⟨g, 0, none⟩ a0).setCell ⟨g, 1, none⟩ a1).setCell ⟨g, 2, none⟩ a2).setCell ⟨g, 3, none⟩ a3).setCell ⟨g, 4, none⟩ a4).setCell ⟨g, 5, none⟩ a5).setCell ⟨g, 6, none⟩ a6
section
variable {w u : World} {B g g' : Nat} {t : TypeId}
theorem pt7_box {b0 b1 b2 b3 b4 b5 b6 : Value} (h : Box w g t #[b0, b1, b2, b3, b4, b5, b6]) (a0 a1 a2 a3 a4 a5 a6 : Value) : Box (pt7 w g a0 a1 a2 a3 a4 a5 a6) g t #[a0, a1, a2, a3, a4, a5, a6] := by
  have := ((((((h.stored 0 a0).stored 1 a1).stored 2 a2).stored 3 a3).stored 4 a4).stored 5 a5).stored 6 a6
  simpa [pt7] using this
theorem pt7_far {cs : Array Value} (h : Box w g' t cs) (hg : g' ≠ g) (a0 a1 a2 a3 a4 a5 a6 : Value) : Box (pt7 w g a0 a1 a2 a3 a4 a5 a6) g' t cs :=
  ((((((h.far (p := ⟨g, 0, none⟩) hg a0).far (p := ⟨g, 1, none⟩) hg a1).far (p := ⟨g, 2, none⟩) hg a2).far (p := ⟨g, 3, none⟩) hg a3).far (p := ⟨g, 4, none⟩) hg a4).far (p := ⟨g, 5, none⟩) hg a5).far (p := ⟨g, 6, none⟩) hg a6
theorem pt7_below (h : Below B u w) (hg : B ≤ g) (a0 a1 a2 a3 a4 a5 a6 : Value) : Below B u (pt7 w g a0 a1 a2 a3 a4 a5 a6) :=
  ((((((h.setCell (p := ⟨g, 0, none⟩) hg a0).setCell (p := ⟨g, 1, none⟩) hg a1).setCell (p := ⟨g, 2, none⟩) hg a2).setCell (p := ⟨g, 3, none⟩) hg a3).setCell (p := ⟨g, 4, none⟩) hg a4).setCell (p := ⟨g, 5, none⟩) hg a5).setCell (p := ⟨g, 6, none⟩) hg a6
theorem pt7_own {base s n : Nat} {e : TypeId} {v : Value} {xs : List Value} (h : w.ownsRow base e s v n xs) (hg : g < base) (a0 a1 a2 a3 a4 a5 a6 : Value) : (pt7 w g a0 a1 a2 a3 a4 a5 a6).ownsRow base e s v n xs := by
  unfold pt7
  repeat (refine ownsRow_setCell_below ?_ hg _)
  exact h
theorem pt7_size (a0 a1 a2 a3 a4 a5 a6 : Value) : (pt7 w g a0 a1 a2 a3 a4 a5 a6).heap.size = w.heap.size := by simp [pt7]
end
/-- 5 cells stored -/
def pt5 (w : World) (g : Nat) (a0 a1 a2 a3 a4 : Value) : World := ((((w.setCell ⟨g, 0, none⟩ a0).setCell ⟨g, 1, none⟩ a1).setCell ⟨g, 2, none⟩ a2).setCell ⟨g, 3, none⟩ a3).setCell ⟨g, 4, none⟩ a4
section
variable {w u : World} {B g g' : Nat} {t : TypeId}
theorem pt5_box {b0 b1 b2 b3 b4 : Value} (h : Box w g t #[b0, b1, b2, b3, b4]) (a0 a1 a2 a3 a4 : Value) : Box (pt5 w g a0 a1 a2 a3 a4) g t #[a0, a1, a2, a3, a4] := by
  have := ((((h.stored 0 a0).stored 1 a1).stored 2 a2).stored 3 a3).stored 4 a4
  simpa [pt5] using this
theorem pt5_far {cs : Array Value} (h : Box w g' t cs) (hg : g' ≠ g) (a0 a1 a2 a3 a4 : Value) : Box (pt5 w g a0 a1 a2 a3 a4) g' t cs :=
  ((((h.far (p := ⟨g, 0, none⟩) hg a0).far (p := ⟨g, 1, none⟩) hg a1).far (p := ⟨g, 2, none⟩) hg a2).far (p := ⟨g, 3, none⟩) hg a3).far (p := ⟨g, 4, none⟩) hg a4
theorem pt5_below (h : Below B u w) (hg : B ≤ g) (a0 a1 a2 a3 a4 : Value) : Below B u (pt5 w g a0 a1 a2 a3 a4) :=
  ((((h.setCell (p := ⟨g, 0, none⟩) hg a0).setCell (p := ⟨g, 1, none⟩) hg a1).setCell (p := ⟨g, 2, none⟩) hg a2).setCell (p := ⟨g, 3, none⟩) hg a3).setCell (p := ⟨g, 4, none⟩) hg a4
theorem pt5_own {base s n : Nat} {e : TypeId} {v : Value} {xs : List Value} (h : w.ownsRow base e s v n xs) (hg : g < base) (a0 a1 a2 a3 a4 : Value) : (pt5 w g a0 a1 a2 a3 a4).ownsRow base e s v n xs := by
  unfold pt5
  repeat (refine ownsRow_setCell_below ?_ hg _)
  exact h
theorem pt5_size (a0 a1 a2 a3 a4 : Value) : (pt5 w g a0 a1 a2 a3 a4).heap.size = w.heap.size := by simp [pt5]
end
end Go.Proofs.YtnpgjcapekopnaaGreat.KP
