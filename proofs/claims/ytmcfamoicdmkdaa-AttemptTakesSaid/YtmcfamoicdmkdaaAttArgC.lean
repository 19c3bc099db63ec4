/-
  An attempt by value as it comes in: its rows lie in their arrays. Conditions: as the theorem says.
-/
import Derived.Test.YtmcfamoicdmkdaaAttArg
import Derived.Test.YtmcfamoicdmkdaaAttRS
namespace Go.Proofs.Ytmcfamoicdmkdaa
open Go.RowKit Go.Joins Go.ChangeShapes Go.WideShapes Go.Deep
set_option linter.unusedVariables false
set_option linter.unusedSimpArgs false
section
variable {H : Type} {enc : TypeId × Value → H} {w : World} {spare : Nat → Bool} {held : Bool} {base : Nat}
theorem slice_cap {t e : TypeId} {fuel m c : Nat} {A : Option Addr} {x : DataW H × List MemPlace} (ht : Try.prog.underlying t = some (.slice e)) (h : DataW.trod enc Try.prog w base spare held fuel t [.slice A m c] = some x) : m ≤ c ∧ c ≤ maxLen := by
  rcases open_slice ht h with ⟨hcs, _⟩ | ⟨a, len, cap, _, _, _, _, hcs, _, h1, h2, _⟩
  · simp at hcs
    obtain ⟨_, rfl, rfl⟩ := hcs
    exact ⟨Nat.le_refl _, Nat.zero_le _⟩
  · simp at hcs
    obtain ⟨_, rfl, rfl⟩ := hcs
    exact ⟨h1, h2⟩
theorem att_cap {r : Reach} {b0 : Nat} {v : Value} {d : DataW H} {p : List MemPlace} (hv : Value.okWide Try.prog w r b0 25 v) (h : DataW.Trod enc Try.prog w base spare held 25 v d p) : AtCap v := by
  intro c0 c1 A n c c3 c4 B m dd C k f e
  subst e
  obtain ⟨fuel, hf⟩ := h
  obtain ⟨hlen, n, hg⟩ := cells_read Try.underlying25 (by kernel_rfl) hf
  obtain ⟨y5, t5⟩ := hg 5 _ (.slice B m dd) rfl (by simp [Value.cells])
  obtain ⟨y6, t6⟩ := hg 6 _ (.slice C k f) rfl (by simp [Value.cells])
  exact ⟨slice_cap Try.underlying23 t5, slice_cap Try.underlying22 t6⟩
end
end Go.Proofs.Ytmcfamoicdmkdaa
