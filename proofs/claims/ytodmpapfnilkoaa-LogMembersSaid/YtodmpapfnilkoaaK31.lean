/-
  Arguments opened to cells: structs of fields of one cell (parted from ArgCells). No program.
  An argument that is a command (api.Command by value), opened to cells. Conditions: as each theorem says.
-/
import Derived.Test.YtodmpapfnilkoaaProg
import Derived.Test.YtodmpapfnilkoaaRows
import Derived.Lib.SmallJoins
import Derived.OpenShut
import Derived.Deep.Slices
import Derived.Deep.Fields
import Derived.ChangeSame
import Derived.Test.YtodmpapfnilkoaaK01
import Derived.SliceStrings
namespace Go.Proofs.Ytodmpapfnilkoaa
open Go.RowKit Go.Joins Go.ChangeShapes Go.WideShapes Go.Deep
set_option linter.unusedVariables false

theorem range_i64 {z : Int} (h : (Lit.int .i64 z).wf = true) : -9223372036854775808 ≤ z ∧ z ≤ 9223372036854775807 := by simpa [Lit.wf, IntKind.min, IntKind.max, IntKind.signed, IntKind.bits] using h
theorem range_u8 {z : Int} (h : (Lit.int .u8 z).wf = true) : 0 ≤ z ∧ z ≤ 255 := by simpa [Lit.wf, IntKind.min, IntKind.max, IntKind.signed, IntKind.bits] using h

section
variable {H : Type} {enc : TypeId × Value → H} {P : Program} {w : World} {base : Nat} {spare : Nat → Bool} {held : Bool}
/-- each cell of a struct of fields of one cell reads as its field -/
theorem cells_read {t : TypeId} {fs : Array Field} {fuel : Nat} {cs : List Value} {x : DataW H × List MemPlace} (hs : P.underlying t = some (.struct fs)) (hone : oneCellFields P fs = true) (h : DataW.trod enc P w base spare held fuel t cs = some x) :
    cs.length = P.cellsOf t ∧ ∃ n, ∀ (j : Nat) (f : Field) (c : Value), fs[j]? = some f → cs[j]? = some c → ∃ y, DataW.trod enc P w base spare held n f.type [c] = some y := by
  obtain ⟨xs, n, _, _, hlen, hxl, hf⟩ := DataW.trod_struct hs h
  refine ⟨hlen, n, fun j f c hj hc => ?_⟩
  obtain ⟨ho, hk⟩ := hone_of hone j f hj
  have e := hf j f hj
  rw [ho, hk] at e
  have hjl : j < xs.length := by rw [hxl]; exact (Array.getElem?_eq_some_iff.1 hj).1
  have hcl := (List.getElem?_eq_some_iff.1 hc).1
  have ht : (cs.drop j).take 1 = [c] := by
    rw [List.drop_eq_getElem_cons hcl, List.take_succ_cons, List.take_zero, (List.getElem?_eq_some_iff.1 hc).2]
  rw [ht, List.getElem?_eq_getElem hjl] at e
  exact ⟨_, e⟩
end

end Go.Proofs.Ytodmpapfnilkoaa

namespace Go.Proofs.Ytodmpapfnilkoaa.CP
open Go.RowKit Go.Joins Go.ChangeShapes Go.WideShapes Go.Deep
open CM (Mg Cm)
set_option linter.unusedVariables false
set_option linter.unusedSimpArgs false

def CmArg (w : World) (v : Value) (x : Cm) : Prop := CmIs w v x ∧ CmFit x
section
variable {H : Type} {enc : TypeId × Value → H} {w : World} {spare : Nat → Bool} {held : Bool} {base : Nat}
theorem row_cells {fuel : Nat} {v : Value} {x : DataW H × List MemPlace} (h : DataW.trod enc Try.prog w base spare held fuel 25 [v] = some x) :
    ∃ A c l, v = .slice A l.length c ∧ RowIs w A c l := by
  rcases open_ints Try.underlying25 Try.underlying3 (by kernel_rfl) h with ⟨hcs, _⟩ | ⟨a, len, cap, zs, hcs, hbl, hl, hm, hz, hx, hcell, hwz⟩
  · simp at hcs
    exact ⟨none, 0, [], hcs, RowIs.none w⟩
  · simp at hcs
    have hlz : len ≤ zs.length := by rw [hz]; split <;> omega
    have hlt : (zs.take len).length = len := by rw [List.length_take]; omega
    refine ⟨some a, cap, zs.take len, by rw [hlt]; exact hcs, ⟨by rw [ic_length], fun hn => ⟨a, rfl, ?_, fun j u hu => ?_⟩⟩, by rw [hlt]; exact hl, hm⟩
    · rw [hlt] at hn
      have := cell_block (hcell 0 (by omega))
      rwa [block_of_add] at this
    · unfold ic at hu
      rw [List.getElem?_map, List.getElem?_take] at hu
      split at hu
      · rename_i hj
        have hjz : j < zs.length := by omega
        rw [hcell j hjz]
        rw [List.getElem?_eq_getElem hjz] at hu
        simp at hu
        rw [← hu]
        simp [hjz]
      · simp at hu
theorem mg_cells {fuel : Nat} {cs : List Value} {x : DataW H × List MemPlace} (h : DataW.trod enc Try.prog w base spare held fuel 27 cs = some x) :
    ∃ A c m, cs = (mcells A c m).toList ∧ RowIs w A c m.gs ∧ MgFit m := by
  obtain ⟨hlen, n, hf⟩ := cells_read Try.underlying27 (by kernel_rfl) h
  have hl : cs.length = 5 := hlen.trans (by kernel_rfl)
  match cs, hl with
  | [c0, c1, c2, c3, c4], _ =>
    obtain ⟨y0, t0⟩ := hf 0 _ c0 rfl rfl
    obtain ⟨y1, t1⟩ := hf 1 _ c1 rfl rfl
    obtain ⟨y2, t2⟩ := hf 2 _ c2 rfl rfl
    obtain ⟨y3, t3⟩ := hf 3 _ c3 rfl rfl
    obtain ⟨y4, t4⟩ := hf 4 _ c4 rfl rfl
    obtain ⟨a, e0, _, w0⟩ := DataW.trod_int Try.underlying3 t0
    obtain ⟨A, c, l, e1, hr⟩ := row_cells t1
    obtain ⟨b, e2, _, w2⟩ := DataW.trod_int Try.underlying3 t2
    obtain ⟨s, e3, _, w3⟩ := DataW.trod_string Try.underlying9 t3
    obtain ⟨t, e4, _, w4⟩ := DataW.trod_string Try.underlying9 t4
    simp at e0 e2 e3 e4
    subst e0 e1 e2 e3 e4
    exact ⟨A, c, ⟨a, l, b, s, t⟩, rfl, hr, range_i64 w0, range_i64 w2, w3, w4⟩
set_option maxRecDepth 100000 in
theorem open_cm {r : Reach} {b0 : Nat} {v : Value} {d : DataW H} {p : List MemPlace} (hv : Value.okWide Try.prog w r b0 29 v) (h : DataW.Trod enc Try.prog w base spare held 29 v d p) : ∃ q, CmArg w v q := by
  obtain ⟨cs, rfl, hsz⟩ := okWide_struct Try.underlying29 hv
  obtain ⟨l⟩ := cs
  obtain ⟨fuel, hf⟩ := h
  obtain ⟨xs, n, _, _, hlen, hxl, hg⟩ := DataW.trod_struct Try.underlying29 hf
  have hl : l.length = 12 := by
    have := hlen.trans (show Try.prog.cellsOf 29 = 12 by kernel_rfl)
    simpa [Value.cells] using this
  match l, hl with
  | [c0, c1, c2, c3, c4, c5, c6, c7, c8, c9, c10, c11], _ =>
    have hx8 : xs.length = 8 := hxl
    obtain ⟨y0, hy0⟩ : ∃ y, xs[0]? = some y := ⟨_, List.getElem?_eq_getElem (by omega)⟩
    have g0 : DataW.trod enc Try.prog w base spare held n 5 (List.take (Try.prog.cellsOf 5) (List.drop 0 [c0, c1, c2, c3, c4, c5, c6, c7, c8, c9, c10, c11])) = xs[0]? := hg 0 _ rfl
    rw [show Try.prog.cellsOf 5 = 1 from by kernel_rfl, hy0] at g0
    have t0 : DataW.trod enc Try.prog w base spare held n 5 [c0] = some y0 := g0
    obtain ⟨y1, hy1⟩ : ∃ y, xs[1]? = some y := ⟨_, List.getElem?_eq_getElem (by omega)⟩
    have g1 : DataW.trod enc Try.prog w base spare held n 27 (List.take (Try.prog.cellsOf 27) (List.drop 1 [c0, c1, c2, c3, c4, c5, c6, c7, c8, c9, c10, c11])) = xs[1]? := hg 1 _ rfl
    rw [show Try.prog.cellsOf 27 = 5 from by kernel_rfl, hy1] at g1
    have t1 : DataW.trod enc Try.prog w base spare held n 27 [c1, c2, c3, c4, c5] = some y1 := g1
    obtain ⟨y2, hy2⟩ : ∃ y, xs[2]? = some y := ⟨_, List.getElem?_eq_getElem (by omega)⟩
    have g2 : DataW.trod enc Try.prog w base spare held n 3 (List.take (Try.prog.cellsOf 3) (List.drop 6 [c0, c1, c2, c3, c4, c5, c6, c7, c8, c9, c10, c11])) = xs[2]? := hg 2 _ rfl
    rw [show Try.prog.cellsOf 3 = 1 from by kernel_rfl, hy2] at g2
    have t2 : DataW.trod enc Try.prog w base spare held n 3 [c6] = some y2 := g2
    obtain ⟨y3, hy3⟩ : ∃ y, xs[3]? = some y := ⟨_, List.getElem?_eq_getElem (by omega)⟩
    have g3 : DataW.trod enc Try.prog w base spare held n 3 (List.take (Try.prog.cellsOf 3) (List.drop 7 [c0, c1, c2, c3, c4, c5, c6, c7, c8, c9, c10, c11])) = xs[3]? := hg 3 _ rfl
    rw [show Try.prog.cellsOf 3 = 1 from by kernel_rfl, hy3] at g3
    have t3 : DataW.trod enc Try.prog w base spare held n 3 [c7] = some y3 := g3
    obtain ⟨y4, hy4⟩ : ∃ y, xs[4]? = some y := ⟨_, List.getElem?_eq_getElem (by omega)⟩
    have g4 : DataW.trod enc Try.prog w base spare held n 25 (List.take (Try.prog.cellsOf 25) (List.drop 8 [c0, c1, c2, c3, c4, c5, c6, c7, c8, c9, c10, c11])) = xs[4]? := hg 4 _ rfl
    rw [show Try.prog.cellsOf 25 = 1 from by kernel_rfl, hy4] at g4
    have t4 : DataW.trod enc Try.prog w base spare held n 25 [c8] = some y4 := g4
    obtain ⟨y5, hy5⟩ : ∃ y, xs[5]? = some y := ⟨_, List.getElem?_eq_getElem (by omega)⟩
    have g5 : DataW.trod enc Try.prog w base spare held n 3 (List.take (Try.prog.cellsOf 3) (List.drop 9 [c0, c1, c2, c3, c4, c5, c6, c7, c8, c9, c10, c11])) = xs[5]? := hg 5 _ rfl
    rw [show Try.prog.cellsOf 3 = 1 from by kernel_rfl, hy5] at g5
    have t5 : DataW.trod enc Try.prog w base spare held n 3 [c9] = some y5 := g5
    obtain ⟨y6, hy6⟩ : ∃ y, xs[6]? = some y := ⟨_, List.getElem?_eq_getElem (by omega)⟩
    have g6 : DataW.trod enc Try.prog w base spare held n 3 (List.take (Try.prog.cellsOf 3) (List.drop 10 [c0, c1, c2, c3, c4, c5, c6, c7, c8, c9, c10, c11])) = xs[6]? := hg 6 _ rfl
    rw [show Try.prog.cellsOf 3 = 1 from by kernel_rfl, hy6] at g6
    have t6 : DataW.trod enc Try.prog w base spare held n 3 [c10] = some y6 := g6
    obtain ⟨y7, hy7⟩ : ∃ y, xs[7]? = some y := ⟨_, List.getElem?_eq_getElem (by omega)⟩
    have g7 : DataW.trod enc Try.prog w base spare held n 3 (List.take (Try.prog.cellsOf 3) (List.drop 11 [c0, c1, c2, c3, c4, c5, c6, c7, c8, c9, c10, c11])) = xs[7]? := hg 7 _ rfl
    rw [show Try.prog.cellsOf 3 = 1 from by kernel_rfl, hy7] at g7
    have t7 : DataW.trod enc Try.prog w base spare held n 3 [c11] = some y7 := g7
    obtain ⟨k, e0, _, w0⟩ := DataW.trod_int Try.underlying5 t0
    obtain ⟨A, c, m, e1, r1, f1⟩ := mg_cells t1
    obtain ⟨id, e2, _, w2⟩ := DataW.trod_int Try.underlying3 t2
    obtain ⟨tm, e3, _, w3⟩ := DataW.trod_int Try.underlying3 t3
    obtain ⟨B, d, ms, e4, r4⟩ := row_cells t4
    obtain ⟨tp, e5, _, w5⟩ := DataW.trod_int Try.underlying3 t5
    obtain ⟨wh, e6, _, w6⟩ := DataW.trod_int Try.underlying3 t6
    obtain ⟨nn, e7, _, w7⟩ := DataW.trod_int Try.underlying3 t7
    simp [mcells] at e0 e1 e2 e3 e5 e6 e7
    obtain ⟨rfl, rfl, rfl, rfl, rfl⟩ := e1
    subst e0 e2 e3 e4 e5 e6 e7
    exact ⟨⟨k, m, id, tm, ms, tp, wh, nn⟩, ⟨A, c, B, d, rfl, r1, r4⟩, range_u8 w0, f1, range_i64 w2, range_i64 w3, range_i64 w5, range_i64 w6, range_i64 w7⟩
end
end Go.Proofs.Ytodmpapfnilkoaa.CP
