/-
  Arguments that are stamps and slices of stamps, opened to cells. Conditions: as each theorem says.
-/
import Derived.Test.YteenodmkpdcbaaaArgRow
import Derived.Test.YteenodmkpdcbaaaSpMem
import Derived.Test.YteenodmkpdcbaaaSpC
namespace Go.Proofs.Yteenodmkpdcbaaa.TP
open Go.RowKit Go.Joins Go.ChangeShapes Go.WideShapes Go.Deep
open TM (Sp)
set_option linter.unusedVariables false

def SpArg (v : Value) (a : Sp) : Prop := v = vsp a ∧ SpFit a
def SpsArg (w : World) (A : Option Addr) (n c : Nat) (l : List Sp) : Prop := SpsIs w A n c l ∧ ∀ a ∈ l, SpFit a
section
variable {H : Type} {enc : TypeId × Value → H} {w : World} {spare : Nat → Bool} {held : Bool} {base : Nat}
theorem sp_cells {fuel : Nat} {cs : List Value} {x : DataW H × List MemPlace} (h : DataW.trod enc Try.prog w base spare held fuel 31 cs = some x) : ∃ m : Sp, cs = spc m ∧ SpFit m := by
  obtain ⟨hlen, n, hf⟩ := cells_read Try.underlying31 (by kernel_rfl) h
  have hl : cs.length = 2 := hlen.trans (by kernel_rfl)
  match cs, hl with
  | [c0, c1], _ =>
    obtain ⟨y0, t0⟩ := hf 0 _ c0 rfl rfl
    obtain ⟨y1, t1⟩ := hf 1 _ c1 rfl rfl
    obtain ⟨a, e0, _, w0⟩ := DataW.trod_int Try.underlying3 t0
    obtain ⟨b, e1, _, w1⟩ := DataW.trod_int Try.underlying3 t1
    simp at e0 e1
    subst e0 e1
    exact ⟨⟨a, b⟩, rfl, range_i64 w0, range_i64 w1⟩
theorem open_sps {A : Option Addr} {m c : Nat} {d : DataW H} {p : List MemPlace} (h : DataW.Trod enc Try.prog w base spare held 32 (.slice A m c) d p) : ∃ l, SpsArg w A m c l := by
  obtain ⟨fuel, hf⟩ := h
  obtain ⟨B, m', c', l, e, h1, h2, h3, h4, h5⟩ := rows_cells (s := 2) Try.underlying32 (by kernel_rfl) (by omega) (fun h => sp_cells h) (show DataW.trod enc Try.prog w base spare held fuel 32 [.slice A m c] = some (d, p) by simpa [Value.cells] using hf)
  injection e with e1 e2 e3
  subst e1 e2 e3
  exact ⟨l, ⟨h3, h4, h1, h2⟩, h5⟩
set_option maxRecDepth 100000 in
theorem open_sp {r : Reach} {b0 : Nat} {v : Value} {d : DataW H} {p : List MemPlace} (hv : Value.okWide Try.prog w r b0 31 v) (h : DataW.Trod enc Try.prog w base spare held 31 v d p) : ∃ q, SpArg v q := by
  obtain ⟨cs, rfl, hsz⟩ := okWide_struct Try.underlying31 hv
  obtain ⟨l⟩ := cs
  obtain ⟨fuel, hf⟩ := h
  obtain ⟨q, e, F⟩ := sp_cells hf
  simp [Value.cells, spc] at e
  subst e
  exact ⟨q, rfl, F⟩
end
end Go.Proofs.Yteenodmkpdcbaaa.TP
