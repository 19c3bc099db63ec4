/-
  Arguments that are worlds, opened to cells. Conditions: as each theorem says.
-/
import Derived.Test.YtiiobafcgdelmaaKAttArg
import Derived.Test.YtiiobafcgdelmaaKWGr
namespace Go.Proofs.Ytiiobafcgdelmaa.PD
open Go.RowKit Go.Joins Go.ChangeShapes Go.WideShapes Go.Deep
set_option linter.unusedVariables false

def WArg (w : World) (v : Value) (d : DC.Wd) : Prop := WIs w v d ∧ WFitL d
instance : Inhabited DC.Vt := ⟨DC.vt0⟩
instance : Inhabited DC.Ml := ⟨DC.mk 0 0 0 0 0 .empty⟩
instance : Inhabited DC.Ch := ⟨⟨0, .empty⟩⟩
instance : Inhabited (Value × AM.At) := ⟨⟨undef, AM.zero⟩⟩
/-- an attempt of a row, to be read -/
def AtRow (w : World) (p : Value × AM.At) : Prop :=
  (∃ A n c B m d C k f, p.1 = .agg #[.int .u8 p.2.ph, .int .i64 p.2.ba, .slice A n c, .string p.2.wi, .string p.2.va, .slice B m d, .slice C k f] ∧ Rd w A n (ic p.2.ms) ∧ RdP w B m p.2.ps ∧ Rd w C k (ic p.2.ac)) ∧ FitL p.2
section
variable {H : Type} {enc : TypeId × Value → H} {w : World} {spare : Nat → Bool} {held : Bool} {base : Nat}
theorem vt_cells {fuel : Nat} {cs : List Value} {x : DataW H × List MemPlace} (h : DataW.trod enc Try.prog w base spare held fuel 53 cs = some x) : ∃ m : DC.Vt, cs = vcell m ∧ VFit m := by
  obtain ⟨hlen, n, hf⟩ := cells_read Try.underlying53 (by kernel_rfl) h
  have hl : cs.length = 3 := hlen.trans (by kernel_rfl)
  match cs, hl with
  | [c0, c1, c2], _ =>
    obtain ⟨y0, t0⟩ := hf 0 _ c0 rfl rfl
    obtain ⟨y1, t1⟩ := hf 1 _ c1 rfl rfl
    obtain ⟨y2, t2⟩ := hf 2 _ c2 rfl rfl
    obtain ⟨a, e0, _, w0⟩ := DataW.trod_int Try.underlying3 t0
    obtain ⟨b, e1, _, w1⟩ := DataW.trod_int Try.underlying3 t1
    obtain ⟨s, e2, _, w2⟩ := DataW.trod_string Try.underlying9 t2
    simp at e0 e1 e2
    subst e0 e1 e2
    exact ⟨⟨a, b, s⟩, rfl, (range_i64 w0).1, (range_i64 w0).2, (range_i64 w1).1, (range_i64 w1).2, w2⟩
theorem ch_cells {fuel : Nat} {cs : List Value} {x : DataW H × List MemPlace} (h : DataW.trod enc Try.prog w base spare held fuel 43 cs = some x) : ∃ m : DC.Ch, cs = ccell m ∧ m.v.size ≤ maxLen := by
  obtain ⟨hlen, n, hf⟩ := cells_read Try.underlying43 (by kernel_rfl) h
  have hl : cs.length = 2 := hlen.trans (by kernel_rfl)
  match cs, hl with
  | [c0, c1], _ =>
    obtain ⟨y0, t0⟩ := hf 0 _ c0 rfl rfl
    obtain ⟨y1, t1⟩ := hf 1 _ c1 rfl rfl
    obtain ⟨a, e0, _, w0⟩ := DataW.trod_int Try.underlying3 t0
    obtain ⟨s, e2, _, w2⟩ := DataW.trod_string Try.underlying9 t1
    simp at e0 e2
    subst e0 e2
    exact ⟨⟨a, s⟩, rfl, w2⟩
theorem ml_cells {fuel : Nat} {cs : List Value} {x : DataW H × List MemPlace} (h : DataW.trod enc Try.prog w base spare held fuel 40 cs = some x) : ∃ m : DC.Ml, cs = mcell m ∧ MFit m := by
  obtain ⟨hlen, n, hf⟩ := cells_read Try.underlying40 (by kernel_rfl) h
  have hl : cs.length = 10 := hlen.trans (by kernel_rfl)
  match cs, hl with
  | [c0, c1, c2, c3, c4, c5, c6, c7, c8, c9], _ =>
    obtain ⟨y0, t0⟩ := hf 0 _ c0 rfl rfl
    obtain ⟨y1, t1⟩ := hf 1 _ c1 rfl rfl
    obtain ⟨y2, t2⟩ := hf 2 _ c2 rfl rfl
    obtain ⟨y3, t3⟩ := hf 3 _ c3 rfl rfl
    obtain ⟨y4, t4⟩ := hf 4 _ c4 rfl rfl
    obtain ⟨y5, t5⟩ := hf 5 _ c5 rfl rfl
    obtain ⟨y6, t6⟩ := hf 6 _ c6 rfl rfl
    obtain ⟨y7, t7⟩ := hf 7 _ c7 rfl rfl
    obtain ⟨y8, t8⟩ := hf 8 _ c8 rfl rfl
    obtain ⟨y9, t9⟩ := hf 9 _ c9 rfl rfl
    obtain ⟨a0, e0, _, w0⟩ := DataW.trod_int Try.underlying3 t0
    obtain ⟨a1, e1, _, w1⟩ := DataW.trod_int Try.underlying3 t1
    obtain ⟨a2, e2, _, w2⟩ := DataW.trod_int Try.underlying5 t2
    obtain ⟨a3, e3, _, w3⟩ := DataW.trod_int Try.underlying3 t3
    obtain ⟨a4, e4, _, w4⟩ := DataW.trod_int Try.underlying3 t4
    obtain ⟨a5, e5, _, w5⟩ := DataW.trod_int Try.underlying3 t5
    obtain ⟨a6, e6, _, w6⟩ := DataW.trod_int Try.underlying3 t6
    obtain ⟨a7, e7, _, w7⟩ := DataW.trod_string Try.underlying9 t7
    obtain ⟨a8, e8, _, w8⟩ := DataW.trod_int Try.underlying3 t8
    obtain ⟨a9, e9, _, w9⟩ := DataW.trod_int Try.underlying3 t9
    simp at e0 e1 e2 e3 e4 e5 e6 e7 e8 e9
    subst e0 e1 e2 e3 e4 e5 e6 e7 e8 e9
    exact ⟨⟨a0, a1, a2, a3, a4, a5, a6, a7, a8, a9⟩, rfl, (range_u8 w2).1, (range_u8 w2).2, (range_i64 w5).1, (range_i64 w5).2, (range_i64 w6).2, w7⟩
theorem at_cells {fuel : Nat} {cs : List Value} {x : DataW H × List MemPlace} (h : DataW.trod enc Try.prog w base spare held fuel 49 cs = some x) : ∃ p : Value × AM.At, cs = tcell p.1 ∧ AtRow w p := by
  obtain ⟨hlen, n, hg⟩ := cells_read Try.underlying49 (by kernel_rfl) h
  have hl : cs.length = 7 := hlen.trans (by kernel_rfl)
  match cs, hl with
  | [c0, c1, c2, c3, c4, c5, c6], _ =>
    obtain ⟨y0, t0⟩ := hg 0 _ c0 rfl rfl
    obtain ⟨y1, t1⟩ := hg 1 _ c1 rfl rfl
    obtain ⟨y2, t2⟩ := hg 2 _ c2 rfl rfl
    obtain ⟨y3, t3⟩ := hg 3 _ c3 rfl rfl
    obtain ⟨y4, t4⟩ := hg 4 _ c4 rfl rfl
    obtain ⟨y5, t5⟩ := hg 5 _ c5 rfl rfl
    obtain ⟨y6, t6⟩ := hg 6 _ c6 rfl rfl
    obtain ⟨ph, e0, _, w0⟩ := DataW.trod_int Try.underlying5 t0
    obtain ⟨ba, e1, _, w1⟩ := DataW.trod_int Try.underlying3 t1
    obtain ⟨A, an, ac, ms, e2, g2, h2⟩ := isl_cells t2
    obtain ⟨wi, e3, _, w3⟩ := DataW.trod_string Try.underlying9 t3
    obtain ⟨va, e4, _, w4⟩ := DataW.trod_string Try.underlying9 t4
    obtain ⟨B, bm, bd, ps, e5, h5, g5, F5⟩ := prs_cells t5
    obtain ⟨C, ck, cf, acc, e6, g6, h6⟩ := isl_cells t6
    simp at e0 e1 e3 e4
    subst e0 e1 e2 e3 e4 e5 e6
    refine ⟨⟨.agg #[.int .u8 ph, .int .i64 ba, .slice A an ac, .string wi, .string va, .slice B bm bd, .slice C ck cf], ⟨ph, ba, ms, wi, va, ps, acc⟩⟩, rfl, ⟨A, an, ac, B, bm, bd, C, ck, cf, rfl, h2, h5, h6⟩, ⟨(range_u8 w0).1, (range_u8 w0).2, (range_i64 w1).1, (range_i64 w1).2, w3, w4, F5, ?_, ?_, ?_⟩⟩
    · have := h2.1; rw [ic_length] at this; simp only; omega
    · have := h5.1; simp only; omega
    · have := h6.1; rw [ic_length] at this; simp only; omega
set_option maxRecDepth 100000 in
theorem open_world {r : Reach} {b0 : Nat} {v : Value} {d : DataW H} {p : List MemPlace} (hv : Value.okWide Try.prog w r b0 28 v) (h : DataW.Trod enc Try.prog w base spare held 28 v d p) : ∃ q, WArg w v q := by
  obtain ⟨cs, rfl, hsz⟩ := okWide_struct Try.underlying28 hv
  obtain ⟨l⟩ := cs
  obtain ⟨fuel, hf⟩ := h
  obtain ⟨hlen, n, hg⟩ := cells_read Try.underlying28 (by kernel_rfl) hf
  have hl : l.length = 5 := by
    have := hlen.trans (show Try.prog.cellsOf 28 = 5 by kernel_rfl)
    simpa [Value.cells] using this
  match l, hl with
  | [c0, c1, c2, c3, c4], _ =>
    obtain ⟨y0, t0⟩ := hg 0 _ c0 rfl (by simp [Value.cells])
    obtain ⟨y1, t1⟩ := hg 1 _ c1 rfl (by simp [Value.cells])
    obtain ⟨y2, t2⟩ := hg 2 _ c2 rfl (by simp [Value.cells])
    obtain ⟨y3, t3⟩ := hg 3 _ c3 rfl (by simp [Value.cells])
    obtain ⟨y4, t4⟩ := hg 4 _ c4 rfl (by simp [Value.cells])
    obtain ⟨A0, n0, k0, ms, rfl, g0, r0⟩ := isl_cells t0
    obtain ⟨A1, n1, k1, vs, rfl, g1, g1', r1, l1, F1⟩ := rows_cells (s := 3) Try.underlying23 (by kernel_rfl) (by omega) (fun h => vt_cells h) t1
    obtain ⟨A2, n2, k2, ts, rfl, g2, g2', r2, l2, F2⟩ := rows_cells (f := fun p : Value × AM.At => tcell p.1) (s := 7) Try.underlying24 (by kernel_rfl) (by omega) (fun h => at_cells h) t2
    obtain ⟨A3, n3, k3, ml, rfl, g3, g3', r3, l3, F3⟩ := rows_cells (s := 10) Try.underlying25 (by kernel_rfl) (by omega) (fun h => ml_cells h) t3
    obtain ⟨A4, n4, k4, ch, rfl, g4, g4', r4, l4, F4⟩ := rows_cells (s := 2) Try.underlying26 (by kernel_rfl) (by omega) (fun h => ch_cells h) t4
    have l0 : ms.length = n0 := by have := r0.1; rwa [ic_length] at this
    subst l0 l1 l2 l3 l4
    refine ⟨⟨ms, vs, ts.map (·.2), ml, ch⟩, ⟨A0, k0, A1, k1, A2, k2, A3, k3, A4, k4, flat (fun p : Value × AM.At => tcell p.1) ts, by simp, ⟨r0, r1, by simpa using r2, ⟨ts.map (·.1), by simp, by simp [flat, List.flatMap_map], fun i t ht => ?_⟩, r3, r4⟩⟩, ⟨g0, by show vs.length ≤ _; omega, by simp; omega, by show ml.length ≤ _; omega, by show ch.length ≤ _; omega, F1, fun t ht => ?_, F3, F4⟩⟩
    · simp only [List.getElem?_map] at ht ⊢
      obtain ⟨q, hq, rfl⟩ := Option.map_eq_some_iff.1 ht
      obtain ⟨⟨A, n, c, B, m, d, C, k, f, e, h1, h2, h3⟩, _⟩ := F2 q (List.mem_of_getElem? hq)
      exact ⟨A, n, c, B, m, d, C, k, f, by rw [hq]; simp [e], h1, h2, h3⟩
    · obtain ⟨q, hq, rfl⟩ := List.mem_map.1 ht
      exact (F2 q hq).2
end
end Go.Proofs.Ytiiobafcgdelmaa.PD
