/-
  Arguments of layer 8, opened to cells: an attempt by value, a promise by value, a list of promises. Conditions: as each theorem says.
-/
import Derived.Test.YtiiobafcgdelmaaProg
import Derived.Test.YtiiobafcgdelmaaKAttGr
import Derived.Test.YtiiobafcgdelmaaK41
import Derived.Test.YtiiobafcgdelmaaRows
import Derived.Lib.SmallJoins
import Derived.OpenShut
import Derived.Deep.Slices
import Derived.Deep.Fields
import Derived.ChangeSame
namespace Go.Proofs.Ytiiobafcgdelmaa
open Go.RowKit Go.Joins Go.ChangeShapes Go.WideShapes Go.Deep
set_option linter.unusedVariables false

def PrArg (v : Value) (p : AM.Pr) : Prop := v = .agg #[.int .i64 p.n, .int .i64 p.b, .string p.v] ∧ FitP p
def AttArg (w : World) (v : Value) (a : AM.At) : Prop := AtIs w v a ∧ FitL a
def PrsArg (w : World) (B : Option Addr) (m d : Nat) (ps : List AM.Pr) : Prop := RdP w B m ps ∧ m ≤ maxLen ∧ ∀ p ∈ ps, FitP p
section
variable {H : Type} {enc : TypeId × Value → H} {w : World} {spare : Nat → Bool} {held : Bool} {base : Nat}
/-- three cells read as a promise -/
theorem pr_cells {fuel : Nat} {cs : List Value} {x : DataW H × List MemPlace} (h : DataW.trod enc Try.prog w base spare held fuel 79 cs = some x) :
    ∃ p : AM.Pr, cs = [.int .i64 p.n, .int .i64 p.b, .string p.v] ∧ FitP p := by
  obtain ⟨hlen, n, hf⟩ := cells_read Try.underlying79 (by kernel_rfl) h
  have hl : cs.length = 3 := hlen.trans (by kernel_rfl)
  match cs, hl with
  | [c0, c1, c2], _ =>
    obtain ⟨y0, t0⟩ := hf 0 _ c0 rfl rfl
    obtain ⟨y1, t1⟩ := hf 1 _ c1 rfl rfl
    obtain ⟨y2, t2⟩ := hf 2 _ c2 rfl rfl
    obtain ⟨x, e0, _, w0⟩ := DataW.trod_int Try.underlying3 t0
    obtain ⟨y, e1, _, w1⟩ := DataW.trod_int Try.underlying3 t1
    obtain ⟨s, e2, _, w2⟩ := DataW.trod_string Try.underlying9 t2
    simp at e0 e1 e2
    subst e0 e1 e2
    exact ⟨⟨x, y, s⟩, rfl, (range_i64 w1).1, (range_i64 w1).2, w2⟩
set_option maxRecDepth 100000 in
theorem open_pr {r : Reach} {b0 : Nat} {v : Value} {d : DataW H} {p : List MemPlace} (hv : Value.okWide Try.prog w r b0 79 v) (h : DataW.Trod enc Try.prog w base spare held 79 v d p) : ∃ q, PrArg v q := by
  obtain ⟨cs, rfl, hsz⟩ := okWide_struct Try.underlying79 hv
  obtain ⟨l⟩ := cs
  obtain ⟨fuel, hf⟩ := h
  obtain ⟨q, e, F⟩ := pr_cells hf
  simp [Value.cells] at e
  subst e
  exact ⟨q, rfl, F⟩
theorem rdP_of {ad : Addr} {m : Nat} {ps : List AM.Pr} (hl : ps.length = m) (hb : 0 < m → ad.block < w.heap.size)
    (hc : ∀ k p, ps[k]? = some p → w.cell? (ad.add (k * 3)) = some (.int .i64 p.n) ∧ w.cell? (ad.add (k * 3 + 1)) = some (.int .i64 p.b) ∧ w.cell? (ad.add (k * 3 + 2)) = some (.string p.v)) : RdP w (some ad) m ps := by
  refine ⟨hl, fun hm => ⟨ad, rfl, hb hm, fun j u hu => ?_⟩⟩
  have hj := (List.getElem?_eq_some_iff.1 hu).1
  rw [pp_length] at hj
  have hk : j / 3 < ps.length := by omega
  obtain ⟨g0, g1, g2⟩ := pp_get ps (j / 3) _ (List.getElem?_eq_getElem hk)
  obtain ⟨c0, c1, c2⟩ := hc (j / 3) _ (List.getElem?_eq_getElem hk)
  rcases (show j % 3 = 0 ∨ j % 3 = 1 ∨ j % 3 = 2 by omega) with h | h | h
  · rw [show j / 3 * 3 = j by omega] at g0 c0
    rw [g0] at hu
    rw [c0, ← hu]
  · rw [show j / 3 * 3 + 1 = j by omega] at g1 c1
    rw [g1] at hu
    rw [c1, ← hu]
  · rw [show j / 3 * 3 + 2 = j by omega] at g2 c2
    rw [g2] at hu
    rw [c2, ← hu]
theorem prs_cells {fuel : Nat} {v : Value} {x : DataW H × List MemPlace} (h : DataW.trod enc Try.prog w base spare held fuel 47 [v] = some x) :
    ∃ B m d ps, v = .slice B m d ∧ PrsArg w B m d ps := by
  rcases open_slice Try.underlying47 h with ⟨hcs, _⟩ | ⟨a, len, cap, m, n, D, Pl, hcs, hbl, hl, hm, hmm, _, hi⟩
  · simp at hcs
    exact ⟨none, 0, 0, [], hcs, RdP.nil, Nat.zero_le _, fun p hp => by cases hp⟩
  · simp at hcs
    have hC : Try.prog.cellsOf 79 = 3 := by kernel_rfl
    have hlm : len ≤ m := by rw [hmm]; split <;> omega
    have hex : ∀ i, ∃ p : AM.Pr, i < len → w.cell? (a.add (i * 3)) = some (.int .i64 p.n) ∧ w.cell? (a.add (i * 3 + 1)) = some (.int .i64 p.b) ∧ w.cell? (a.add (i * 3 + 2)) = some (.string p.v) ∧ FitP p := by
      intro i
      by_cases hil : i < len
      · obtain ⟨cs, hc, ht⟩ := hi i (by omega)
        obtain ⟨p, rfl, F⟩ := pr_cells ht
        rw [hC] at hc
        obtain ⟨_, _, hat⟩ := World.cells?_some hc
        refine ⟨p, fun _ => ⟨?_, ?_, ?_, F⟩⟩
        · have := hat 0 (by omega)
          rw [add_of_add, Nat.add_zero] at this
          exact this
        · have := hat 1 (by omega)
          rw [add_of_add] at this
          exact this
        · have := hat 2 (by omega)
          rw [add_of_add] at this
          exact this
      · exact ⟨⟨0, 0, .empty⟩, fun h => absurd h hil⟩
    obtain ⟨Q, hQ⟩ := Classical.axiomOfChoice hex
    have hps : ∀ (k : Nat) (p : AM.Pr), ((List.range len).map Q)[k]? = some p → k < len ∧ p = Q k := by
      intro k p hk
      have hkl := (List.getElem?_eq_some_iff.1 hk).1
      simp at hkl
      rw [List.getElem?_map, List.getElem?_range hkl] at hk
      simp at hk
      exact ⟨hkl, hk.symm⟩
    refine ⟨some a, len, cap, (List.range len).map Q, hcs, rdP_of (by simp) (fun h0 => ?_) (fun k p hk => ?_), by omega, fun p hp => ?_⟩
    · have := (hQ 0 h0).1
      have hb := cell_block this
      rwa [block_of_add] at hb
    · obtain ⟨h1, rfl⟩ := hps k p hk
      exact ⟨(hQ k h1).1, (hQ k h1).2.1, (hQ k h1).2.2.1⟩
    · obtain ⟨k, hk, rfl⟩ := List.getElem_of_mem hp
      obtain ⟨h1, e⟩ := hps k _ (List.getElem?_eq_getElem hk)
      rw [e]
      exact (hQ k h1).2.2.2
theorem isl_cells {fuel : Nat} {v : Value} {x : DataW H × List MemPlace} (h : DataW.trod enc Try.prog w base spare held fuel 22 [v] = some x) :
    ∃ A n c zs, v = .slice A n c ∧ n ≤ maxLen ∧ Rd w A n (ic zs) := by
  rcases open_ints Try.underlying22 Try.underlying3 (by kernel_rfl) h with ⟨hcs, _⟩ | ⟨a, len, cap, zs, hcs, hbl, hl, hm, hz, hx, hcell, hwz⟩
  · simp at hcs
    exact ⟨none, 0, 0, [], hcs, Nat.zero_le _, Rd.nil⟩
  · simp at hcs
    have hlz : len ≤ zs.length := by rw [hz]; split <;> omega
    refine ⟨some a, len, cap, zs.take len, hcs, by omega, by rw [ic_length, List.length_take]; omega, fun hn => ⟨a, rfl, ?_, fun j u hu => ?_⟩⟩
    · have := cell_block (hcell 0 (by omega)); rwa [block_of_add] at this
    · unfold ic at hu
      rw [List.getElem?_map, List.getElem?_take] at hu
      split at hu
      · rename_i hj
        have hjz : j < zs.length := by omega
        rw [hcell j hjz]
        rw [List.getElem?_eq_getElem hjz] at hu
        simp at hu
        rw [← hu]
        simp [hjz]
      · simp at hu
set_option maxRecDepth 100000 in
theorem open_att {r : Reach} {b0 : Nat} {v : Value} {d : DataW H} {p : List MemPlace} (hv : Value.okWide Try.prog w r b0 49 v) (h : DataW.Trod enc Try.prog w base spare held 49 v d p) : ∃ a, AttArg w v a := by
  obtain ⟨cs, rfl, hsz⟩ := okWide_struct Try.underlying49 hv
  obtain ⟨l⟩ := cs
  obtain ⟨fuel, hf⟩ := h
  obtain ⟨hlen, n, hg⟩ := cells_read Try.underlying49 (by kernel_rfl) hf
  have hl : l.length = 7 := by
    have := hlen.trans (show Try.prog.cellsOf 49 = 7 by kernel_rfl)
    simpa [Value.cells] using this
  match l, hl with
  | [c0, c1, c2, c3, c4, c5, c6], _ =>
    obtain ⟨y0, t0⟩ := hg 0 _ c0 rfl (by simp [Value.cells])
    obtain ⟨y1, t1⟩ := hg 1 _ c1 rfl (by simp [Value.cells])
    obtain ⟨y2, t2⟩ := hg 2 _ c2 rfl (by simp [Value.cells])
    obtain ⟨y3, t3⟩ := hg 3 _ c3 rfl (by simp [Value.cells])
    obtain ⟨y4, t4⟩ := hg 4 _ c4 rfl (by simp [Value.cells])
    obtain ⟨y5, t5⟩ := hg 5 _ c5 rfl (by simp [Value.cells])
    obtain ⟨y6, t6⟩ := hg 6 _ c6 rfl (by simp [Value.cells])
    obtain ⟨ph, e0, _, w0⟩ := DataW.trod_int Try.underlying5 t0
    obtain ⟨ba, e1, _, w1⟩ := DataW.trod_int Try.underlying3 t1
    obtain ⟨A, an, ac, ms, e2, g2, h2⟩ := isl_cells t2
    obtain ⟨wi, e3, _, w3⟩ := DataW.trod_string Try.underlying9 t3
    obtain ⟨va, e4, _, w4⟩ := DataW.trod_string Try.underlying9 t4
    obtain ⟨B, bm, bd, ps, e5, h5, g5, F5⟩ := prs_cells t5
    obtain ⟨C, ck, cf, acc, e6, g6, h6⟩ := isl_cells t6
    simp at e0 e1 e3 e4
    subst e0 e1 e2 e3 e4 e5 e6
    refine ⟨⟨ph, ba, ms, wi, va, ps, acc⟩, ⟨A, an, ac, B, bm, bd, C, ck, cf, rfl, h2, h5, h6⟩, ⟨(range_u8 w0).1, (range_u8 w0).2, (range_i64 w1).1, (range_i64 w1).2, w3, w4, F5, ?_, ?_, ?_⟩⟩
    · have := h2.1; rw [ic_length] at this; simp only; omega
    · have := h5.1; simp only; omega
    · have := h6.1; rw [ic_length] at this; simp only; omega
theorem open_prs {A : Option Addr} {m c : Nat} {d : DataW H} {p : List MemPlace} (h : DataW.Trod enc Try.prog w base spare held 47 (.slice A m c) d p) : ∃ ps, PrsArg w A m c ps := by
  obtain ⟨fuel, hf⟩ := h
  obtain ⟨B, m', c', ps, e, hp⟩ := prs_cells (by simpa [Value.cells] using hf)
  injection e with e1 e2 e3
  subst e1 e2 e3
  exact ⟨ps, hp⟩
end
end Go.Proofs.Ytiiobafcgdelmaa
