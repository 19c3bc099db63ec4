/-
  An argument that is a record (api.Record by value), opened to cells. Conditions: as each theorem says.
-/
import Derived.Test.YtoebokfhlbffaaaArgOne
import Derived.Test.YtoebokfhlbffaaaRecMath
namespace Go.Proofs.Ytoebokfhlbffaaa.RP
open Go.RowKit Go.Joins Go.ChangeShapes Go.WideShapes Go.Deep
set_option linter.unusedVariables false

def RecFit (r : RM.Rc) : Prop := -9223372036854775808 ≤ r.b ∧ r.b ≤ 9223372036854775807 ∧ r.v.size ≤ maxLen
def vrec (r : RM.Rc) : List Value := [.int .u8 r.k, .int .i64 r.g, .int .i64 r.s, .int .i64 r.b, .string r.v]
/-- a record by value -/
def RecArg (v : Value) (r : RM.Rc) : Prop := v = .agg #[.int .u8 r.k, .int .i64 r.g, .int .i64 r.s, .int .i64 r.b, .string r.v] ∧ RecFit r
instance : Inhabited RM.Rc := ⟨⟨0, 0, 0, 0, .empty⟩⟩
section
variable {H : Type} {enc : TypeId × Value → H} {w : World} {spare : Nat → Bool} {held : Bool} {base : Nat}
theorem rec_cells {fuel : Nat} {cs : List Value} {x : DataW H × List MemPlace} (h : DataW.trod enc Try.prog w base spare held fuel 26 cs = some x) : ∃ r : RM.Rc, cs = vrec r ∧ RecFit r := by
  obtain ⟨hlen, n, hf⟩ := cells_read Try.underlying26 (by kernel_rfl) h
  have hl : cs.length = 5 := hlen.trans (by kernel_rfl)
  match cs, hl with
  | [c0, c1, c2, c3, c4], _ =>
    obtain ⟨y0, t0⟩ := hf 0 _ c0 rfl rfl
    obtain ⟨y1, t1⟩ := hf 1 _ c1 rfl rfl
    obtain ⟨y2, t2⟩ := hf 2 _ c2 rfl rfl
    obtain ⟨y3, t3⟩ := hf 3 _ c3 rfl rfl
    obtain ⟨y4, t4⟩ := hf 4 _ c4 rfl rfl
    obtain ⟨k, e0, _, w0⟩ := DataW.trod_int Try.underlying5 t0
    obtain ⟨g, e1, _, w1⟩ := DataW.trod_int Try.underlying3 t1
    obtain ⟨s, e2, _, w2⟩ := DataW.trod_int Try.underlying3 t2
    obtain ⟨b, e3, _, w3⟩ := DataW.trod_int Try.underlying3 t3
    obtain ⟨v, e4, _, w4⟩ := DataW.trod_string Try.underlying9 t4
    simp at e0 e1 e2 e3 e4
    subst e0 e1 e2 e3 e4
    exact ⟨⟨k, g, s, b, v⟩, rfl, (range_i64 w3).1, (range_i64 w3).2, w4⟩
set_option maxRecDepth 100000 in
theorem open_rec {r : Reach} {b0 : Nat} {v : Value} {d : DataW H} {p : List MemPlace} (hv : Value.okWide Try.prog w r b0 26 v) (h : DataW.Trod enc Try.prog w base spare held 26 v d p) : ∃ q, RecArg v q := by
  obtain ⟨cs, rfl, hsz⟩ := okWide_struct Try.underlying26 hv
  obtain ⟨l⟩ := cs
  obtain ⟨fuel, hf⟩ := h
  obtain ⟨q, e, F⟩ := rec_cells hf
  simp [Value.cells, vrec] at e
  subst e
  exact ⟨q, rfl, F⟩
end
end Go.Proofs.Ytoebokfhlbffaaa.RP
