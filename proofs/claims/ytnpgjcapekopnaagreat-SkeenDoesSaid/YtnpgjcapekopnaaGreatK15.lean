/-
  Arguments opened to cells: structs of fields of one cell (parted from ArgCells). No program.
  Arguments opened to cells: rows of structs of s cells (parted from ArgCells). Conditions: as each theorem says.
  An argument that is a command (api.Command by value), opened to cells. Conditions: as each theorem says.
  A group's log (no program): whether it may be, its commands, the members behind it, the place of a value. Conditions: as each theorem says.
  A list of texts, a list of commands in memory: a command is twelve cells of a row, two of them slices of ints. No walk.
  Arguments that are clocks (api.Skeen by value) and slices of commands, opened to cells. Conditions: as each theorem says (no slice beyond what a machine holds).
-/
import Derived.Test.YtnpgjcapekopnaaGreatProg
import Derived.Test.YtnpgjcapekopnaaGreatRows
import Derived.Lib.SmallJoins
import Derived.OpenShut
import Derived.Deep.Slices
import Derived.Deep.Fields
import Derived.ChangeSame
import Derived.Test.YtnpgjcapekopnaaGreatRowG
import Derived.Test.YtnpgjcapekopnaaGreatCmMem
import Derived.SliceStrings
import Derived.Test.YtnpgjcapekopnaaGreatCmdMath
import Derived.Test.YtnpgjcapekopnaaGreatCmRow
import Derived.Test.YtnpgjcapekopnaaGreatSkDef
import Derived.SizedLaws
namespace Go.Proofs.YtnpgjcapekopnaaGreat
open Go.RowKit Go.Joins Go.ChangeShapes Go.WideShapes Go.Deep
set_option linter.unusedVariables false

theorem range_i64 {z : Int} (h : (Lit.int .i64 z).wf = true) : -9223372036854775808 ≤ z ∧ z ≤ 9223372036854775807 := by simpa [Lit.wf, IntKind.min, IntKind.max, IntKind.signed, IntKind.bits] using h
theorem range_u8 {z : Int} (h : (Lit.int .u8 z).wf = true) : 0 ≤ z ∧ z ≤ 255 := by simpa [Lit.wf, IntKind.min, IntKind.max, IntKind.signed, IntKind.bits] using h

section
variable {H : Type} {enc : TypeId × Value → H} {P : Program} {w : World} {base : Nat} {spare : Nat → Bool} {held : Bool}
/-- each cell of a struct of fields of one cell reads as its field -/
theorem cells_read {t : TypeId} {fs : Array Field} {fuel : Nat} {cs : List Value} {x : DataW H × List MemPlace} (hs : P.underlying t = some (.struct fs)) (hone : oneCellFields P fs = true) (h : DataW.trod enc P w base spare held fuel t cs = some x) :
    cs.length = P.cellsOf t ∧ ∃ n, ∀ (j : Nat) (f : Field) (c : Value), fs[j]? = some f → cs[j]? = some c → ∃ y, DataW.trod enc P w base spare held n f.type [c] = some y := by
  obtain ⟨xs, n, _, _, hlen, hxl, hf⟩ := DataW.trod_struct hs h
  refine ⟨hlen, n, fun j f c hj hc => ?_⟩
  obtain ⟨ho, hk⟩ := hone_of hone j f hj
  have e := hf j f hj
  rw [ho, hk] at e
  have hjl : j < xs.length := by rw [hxl]; exact (Array.getElem?_eq_some_iff.1 hj).1
  have hcl := (List.getElem?_eq_some_iff.1 hc).1
  have ht : (cs.drop j).take 1 = [c] := by
    rw [List.drop_eq_getElem_cons hcl, List.take_succ_cons, List.take_zero, (List.getElem?_eq_some_iff.1 hc).2]
  rw [ht, List.getElem?_eq_getElem hjl] at e
  exact ⟨_, e⟩
end

end Go.Proofs.YtnpgjcapekopnaaGreat

namespace Go.Proofs.YtnpgjcapekopnaaGreat
open Go.RowKit Go.Joins Go.ChangeShapes Go.WideShapes Go.Deep
set_option linter.unusedVariables false

section
variable {H : Type} {enc : TypeId × Value → H} {w : World} {spare : Nat → Bool} {held : Bool} {base : Nat}
/-- a row of structs of s cells, each read by 'hr' -/
theorem rows_cells {α : Type} [Inhabited α] {f : α → List Value} {s : Nat} {T E : TypeId} {Fa : α → Prop} (hT : Tryz.prog.underlying T = some (.slice E)) (hC : Tryz.prog.cellsOf E = s) (hs0 : 0 < s)
    (hr : ∀ {fuel : Nat} {cs : List Value} {x : DataW H × List MemPlace}, DataW.trod enc Tryz.prog w base spare held fuel E cs = some x → ∃ a, cs = f a ∧ Fa a)
    {fuel : Nat} {v : Value} {x : DataW H × List MemPlace} (h : DataW.trod enc Tryz.prog w base spare held fuel T [v] = some x) :
    ∃ A n c l, v = .slice A n c ∧ n ≤ c ∧ c ≤ maxLen ∧ RdG w s A n (flat f l) ∧ l.length = n ∧ ∀ a ∈ l, Fa a := by
  rcases open_slice hT h with ⟨hcs, _⟩ | ⟨a, len, cap, m, n, D, Pl, hcs, hbl, hl, hm, hmm, _, hi⟩
  · simp at hcs
    exact ⟨none, 0, 0, [], hcs, Nat.le_refl _, Nat.zero_le _, ⟨by simp [flat], fun h => absurd h (by omega)⟩, rfl, fun p hp => by cases hp⟩
  · simp at hcs
    have hlm : len ≤ m := by rw [hmm]; split <;> omega
    have hex : ∀ i, ∃ p : α, i < len → (f p).length = s ∧ (∀ j, j < s → w.cell? (a.add (i * s + j)) = (f p)[j]?) ∧ Fa p := by
      intro i
      by_cases hil : i < len
      · obtain ⟨cs, hc, ht⟩ := hi i (by omega)
        obtain ⟨p, rfl, F⟩ := hr ht
        rw [hC] at hc
        obtain ⟨_, hlen, hat⟩ := World.cells?_some hc
        refine ⟨p, fun _ => ⟨hlen, fun j hj => ?_, F⟩⟩
        have := hat j (by omega)
        rw [add_of_add] at this
        exact this
      · exact ⟨default, fun h => absurd h hil⟩
    obtain ⟨Q, hQ⟩ := Classical.axiomOfChoice hex
    have hps : ∀ (k : Nat) (p : α), ((List.range len).map Q)[k]? = some p → k < len ∧ p = Q k := by
      intro k p hk
      have hkl := (List.getElem?_eq_some_iff.1 hk).1
      simp at hkl
      rw [List.getElem?_map, List.getElem?_range hkl] at hk
      simp at hk
      exact ⟨hkl, hk.symm⟩
    have hfl : ∀ p ∈ (List.range len).map Q, (f p).length = s := fun p hp => by
      obtain ⟨k, hk, rfl⟩ := List.getElem_of_mem hp
      obtain ⟨h1, e⟩ := hps k _ (List.getElem?_eq_getElem hk)
      rw [e]
      exact (hQ k h1).1
    refine ⟨some a, len, cap, (List.range len).map Q, hcs, hl, hm, ⟨by rw [flat_length hfl]; simp, fun h0 => ⟨a, rfl, ?_, fun j u hu => ?_⟩⟩, by simp, fun p hp => ?_⟩
    · have h1 := (hQ 0 h0).2.1 0 hs0
      have h2 : 0 < (f (Q 0)).length := by rw [(hQ 0 h0).1]; exact hs0
      rw [List.getElem?_eq_getElem h2] at h1
      have hb := cell_block h1
      rwa [block_of_add] at hb
    · have hj := (List.getElem?_eq_some_iff.1 hu).1
      rw [flat_length hfl] at hj
      simp at hj
      have hk : j / s < len := Nat.div_lt_of_lt_mul (by rw [Nat.mul_comm]; exact hj)
      have hgk : ((List.range len).map Q)[j / s]? = some (Q (j / s)) := by simp [hk]
      have hmod := Nat.mod_lt j hs0
      have e1 := flat_get hfl hgk (j % s) hmod
      have e2 : j / s * s + j % s = j := by rw [Nat.mul_comm]; exact Nat.div_add_mod j s
      rw [e2] at e1
      have e3 := (hQ (j / s) hk).2.1 (j % s) hmod
      rw [e2] at e3
      rw [e3, ← e1, hu]
    · obtain ⟨k, hk, rfl⟩ := List.getElem_of_mem hp
      obtain ⟨h1, e⟩ := hps k _ (List.getElem?_eq_getElem hk)
      rw [e]
      exact (hQ k h1).2.2
end
end Go.Proofs.YtnpgjcapekopnaaGreat

namespace Go.Proofs.YtnpgjcapekopnaaGreat.CP
open Go.RowKit Go.Joins Go.ChangeShapes Go.WideShapes Go.Deep
open CM (Mg Cm)
set_option linter.unusedVariables false
set_option linter.unusedSimpArgs false

def CmArg (w : World) (v : Value) (x : Cm) : Prop := CmIs w v x ∧ CmFit x
section
variable {H : Type} {enc : TypeId × Value → H} {w : World} {spare : Nat → Bool} {held : Bool} {base : Nat}
theorem row_cells {fuel : Nat} {v : Value} {x : DataW H × List MemPlace} (h : DataW.trod enc Tryz.prog w base spare held fuel 26 [v] = some x) :
    ∃ A c l, v = .slice A l.length c ∧ RowIs w A c l := by
  rcases open_ints Tryz.underlying26 Tryz.underlying3 (by kernel_rfl) h with ⟨hcs, _⟩ | ⟨a, len, cap, zs, hcs, hbl, hl, hm, hz, hx, hcell, hwz⟩
  · simp at hcs
    exact ⟨none, 0, [], hcs, RowIs.none w⟩
  · simp at hcs
    have hlz : len ≤ zs.length := by rw [hz]; split <;> omega
    have hlt : (zs.take len).length = len := by rw [List.length_take]; omega
    refine ⟨some a, cap, zs.take len, by rw [hlt]; exact hcs, ⟨by rw [ic_length], fun hn => ⟨a, rfl, ?_, fun j u hu => ?_⟩⟩, by rw [hlt]; exact hl, hm⟩
    · rw [hlt] at hn
      have := cell_block (hcell 0 (by omega))
      rwa [block_of_add] at this
    · unfold ic at hu
      rw [List.getElem?_map, List.getElem?_take] at hu
      split at hu
      · rename_i hj
        have hjz : j < zs.length := by omega
        rw [hcell j hjz]
        rw [List.getElem?_eq_getElem hjz] at hu
        simp at hu
        rw [← hu]
        simp [hjz]
      · simp at hu
theorem mg_cells {fuel : Nat} {cs : List Value} {x : DataW H × List MemPlace} (h : DataW.trod enc Tryz.prog w base spare held fuel 28 cs = some x) :
    ∃ A c m, cs = (mcells A c m).toList ∧ RowIs w A c m.gs ∧ MgFit m := by
  obtain ⟨hlen, n, hf⟩ := cells_read Tryz.underlying28 (by kernel_rfl) h
  have hl : cs.length = 5 := hlen.trans (by kernel_rfl)
  match cs, hl with
  | [c0, c1, c2, c3, c4], _ =>
    obtain ⟨y0, t0⟩ := hf 0 _ c0 rfl rfl
    obtain ⟨y1, t1⟩ := hf 1 _ c1 rfl rfl
    obtain ⟨y2, t2⟩ := hf 2 _ c2 rfl rfl
    obtain ⟨y3, t3⟩ := hf 3 _ c3 rfl rfl
    obtain ⟨y4, t4⟩ := hf 4 _ c4 rfl rfl
    obtain ⟨a, e0, _, w0⟩ := DataW.trod_int Tryz.underlying3 t0
    obtain ⟨A, c, l, e1, hr⟩ := row_cells t1
    obtain ⟨b, e2, _, w2⟩ := DataW.trod_int Tryz.underlying3 t2
    obtain ⟨s, e3, _, w3⟩ := DataW.trod_string Tryz.underlying9 t3
    obtain ⟨t, e4, _, w4⟩ := DataW.trod_string Tryz.underlying9 t4
    simp at e0 e2 e3 e4
    subst e0 e1 e2 e3 e4
    exact ⟨A, c, ⟨a, l, b, s, t⟩, rfl, hr, range_i64 w0, range_i64 w2, w3, w4⟩
set_option maxRecDepth 100000 in
theorem open_cm {r : Reach} {b0 : Nat} {v : Value} {d : DataW H} {p : List MemPlace} (hv : Value.okWide Tryz.prog w r b0 30 v) (h : DataW.Trod enc Tryz.prog w base spare held 30 v d p) : ∃ q, CmArg w v q := by
  obtain ⟨cs, rfl, hsz⟩ := okWide_struct Tryz.underlying30 hv
  obtain ⟨l⟩ := cs
  obtain ⟨fuel, hf⟩ := h
  obtain ⟨xs, n, _, _, hlen, hxl, hg⟩ := DataW.trod_struct Tryz.underlying30 hf
  have hl : l.length = 12 := by
    have := hlen.trans (show Tryz.prog.cellsOf 30 = 12 by kernel_rfl)
    simpa [Value.cells] using this
  match l, hl with
  | [c0, c1, c2, c3, c4, c5, c6, c7, c8, c9, c10, c11], _ =>
    have hx8 : xs.length = 8 := hxl
    obtain ⟨y0, hy0⟩ : ∃ y, xs[0]? = some y := ⟨_, List.getElem?_eq_getElem (by omega)⟩
    have g0 : DataW.trod enc Tryz.prog w base spare held n 5 (List.take (Tryz.prog.cellsOf 5) (List.drop 0 [c0, c1, c2, c3, c4, c5, c6, c7, c8, c9, c10, c11])) = xs[0]? := hg 0 _ rfl
    rw [show Tryz.prog.cellsOf 5 = 1 from by kernel_rfl, hy0] at g0
    have t0 : DataW.trod enc Tryz.prog w base spare held n 5 [c0] = some y0 := g0
    obtain ⟨y1, hy1⟩ : ∃ y, xs[1]? = some y := ⟨_, List.getElem?_eq_getElem (by omega)⟩
    have g1 : DataW.trod enc Tryz.prog w base spare held n 28 (List.take (Tryz.prog.cellsOf 28) (List.drop 1 [c0, c1, c2, c3, c4, c5, c6, c7, c8, c9, c10, c11])) = xs[1]? := hg 1 _ rfl
    rw [show Tryz.prog.cellsOf 28 = 5 from by kernel_rfl, hy1] at g1
    have t1 : DataW.trod enc Tryz.prog w base spare held n 28 [c1, c2, c3, c4, c5] = some y1 := g1
    obtain ⟨y2, hy2⟩ : ∃ y, xs[2]? = some y := ⟨_, List.getElem?_eq_getElem (by omega)⟩
    have g2 : DataW.trod enc Tryz.prog w base spare held n 3 (List.take (Tryz.prog.cellsOf 3) (List.drop 6 [c0, c1, c2, c3, c4, c5, c6, c7, c8, c9, c10, c11])) = xs[2]? := hg 2 _ rfl
    rw [show Tryz.prog.cellsOf 3 = 1 from by kernel_rfl, hy2] at g2
    have t2 : DataW.trod enc Tryz.prog w base spare held n 3 [c6] = some y2 := g2
    obtain ⟨y3, hy3⟩ : ∃ y, xs[3]? = some y := ⟨_, List.getElem?_eq_getElem (by omega)⟩
    have g3 : DataW.trod enc Tryz.prog w base spare held n 3 (List.take (Tryz.prog.cellsOf 3) (List.drop 7 [c0, c1, c2, c3, c4, c5, c6, c7, c8, c9, c10, c11])) = xs[3]? := hg 3 _ rfl
    rw [show Tryz.prog.cellsOf 3 = 1 from by kernel_rfl, hy3] at g3
    have t3 : DataW.trod enc Tryz.prog w base spare held n 3 [c7] = some y3 := g3
    obtain ⟨y4, hy4⟩ : ∃ y, xs[4]? = some y := ⟨_, List.getElem?_eq_getElem (by omega)⟩
    have g4 : DataW.trod enc Tryz.prog w base spare held n 26 (List.take (Tryz.prog.cellsOf 26) (List.drop 8 [c0, c1, c2, c3, c4, c5, c6, c7, c8, c9, c10, c11])) = xs[4]? := hg 4 _ rfl
    rw [show Tryz.prog.cellsOf 26 = 1 from by kernel_rfl, hy4] at g4
    have t4 : DataW.trod enc Tryz.prog w base spare held n 26 [c8] = some y4 := g4
    obtain ⟨y5, hy5⟩ : ∃ y, xs[5]? = some y := ⟨_, List.getElem?_eq_getElem (by omega)⟩
    have g5 : DataW.trod enc Tryz.prog w base spare held n 3 (List.take (Tryz.prog.cellsOf 3) (List.drop 9 [c0, c1, c2, c3, c4, c5, c6, c7, c8, c9, c10, c11])) = xs[5]? := hg 5 _ rfl
    rw [show Tryz.prog.cellsOf 3 = 1 from by kernel_rfl, hy5] at g5
    have t5 : DataW.trod enc Tryz.prog w base spare held n 3 [c9] = some y5 := g5
    obtain ⟨y6, hy6⟩ : ∃ y, xs[6]? = some y := ⟨_, List.getElem?_eq_getElem (by omega)⟩
    have g6 : DataW.trod enc Tryz.prog w base spare held n 3 (List.take (Tryz.prog.cellsOf 3) (List.drop 10 [c0, c1, c2, c3, c4, c5, c6, c7, c8, c9, c10, c11])) = xs[6]? := hg 6 _ rfl
    rw [show Tryz.prog.cellsOf 3 = 1 from by kernel_rfl, hy6] at g6
    have t6 : DataW.trod enc Tryz.prog w base spare held n 3 [c10] = some y6 := g6
    obtain ⟨y7, hy7⟩ : ∃ y, xs[7]? = some y := ⟨_, List.getElem?_eq_getElem (by omega)⟩
    have g7 : DataW.trod enc Tryz.prog w base spare held n 3 (List.take (Tryz.prog.cellsOf 3) (List.drop 11 [c0, c1, c2, c3, c4, c5, c6, c7, c8, c9, c10, c11])) = xs[7]? := hg 7 _ rfl
    rw [show Tryz.prog.cellsOf 3 = 1 from by kernel_rfl, hy7] at g7
    have t7 : DataW.trod enc Tryz.prog w base spare held n 3 [c11] = some y7 := g7
    obtain ⟨k, e0, _, w0⟩ := DataW.trod_int Tryz.underlying5 t0
    obtain ⟨A, c, m, e1, r1, f1⟩ := mg_cells t1
    obtain ⟨id, e2, _, w2⟩ := DataW.trod_int Tryz.underlying3 t2
    obtain ⟨tm, e3, _, w3⟩ := DataW.trod_int Tryz.underlying3 t3
    obtain ⟨B, d, ms, e4, r4⟩ := row_cells t4
    obtain ⟨tp, e5, _, w5⟩ := DataW.trod_int Tryz.underlying3 t5
    obtain ⟨wh, e6, _, w6⟩ := DataW.trod_int Tryz.underlying3 t6
    obtain ⟨nn, e7, _, w7⟩ := DataW.trod_int Tryz.underlying3 t7
    simp [mcells] at e0 e1 e2 e3 e5 e6 e7
    obtain ⟨rfl, rfl, rfl, rfl, rfl⟩ := e1
    subst e0 e2 e3 e4 e5 e6 e7
    exact ⟨⟨k, m, id, tm, ms, tp, wh, nn⟩, ⟨A, c, B, d, rfl, r1, r4⟩, range_u8 w0, f1, range_i64 w2, range_i64 w3, range_i64 w5, range_i64 w6, range_i64 w7⟩
end
end Go.Proofs.YtnpgjcapekopnaaGreat.CP

namespace Go.Proofs.YtnpgjcapekopnaaGreat.LM
set_option linter.unusedVariables false
set_option linter.unusedSimpArgs false
open CM (Cm)

/-- the command of a value; its error -/
def cm (s : ByteArray) : Cm := (CM.readF (RM.bsz s)).1
def er (s : ByteArray) : Int := (CM.readF (RM.bsz s)).2
theorem read_is (s : ByteArray) : CM.ReadIs (RM.bsz s) (cm s) (er s) := CM.readIs_read _
theorem er_cases (s : ByteArray) : er s = 0 ∨ er s = 3 ∨ er s = 8 := by
  rcases read_is s with ⟨h, _⟩ | ⟨h, _⟩ | ⟨h, _⟩
  · exact .inl h
  · exact .inr (.inl h)
  · exact .inr (.inr h)
theorem er_zero {s : ByteArray} : er s = 0 ↔ ∃ c, CM.may c ∧ CM.wr c = RM.bsz s := by
  constructor
  · intro h
    rcases read_is s with ⟨_, h1, h2⟩ | ⟨h1, _⟩ | ⟨h1, _⟩
    · exact ⟨_, h1, h2⟩
    · rw [h1] at h; exact absurd h (by decide)
    · rw [h1] at h; exact absurd h (by decide)
  · rintro ⟨c, h1, h2⟩
    exact (CM.readIs_eq (read_is s) (.inl ⟨rfl, h1, h2⟩)).2
theorem cm_may {s : ByteArray} (h : er s = 0) : CM.may (cm s) ∧ CM.wr (cm s) = RM.bsz s := by
  rcases read_is s with ⟨_, h1, h2⟩ | ⟨h1, _⟩ | ⟨h1, _⟩
  · exact ⟨h1, h2⟩
  · rw [h1] at h; exact absurd h (by decide)
  · rw [h1] at h; exact absurd h (by decide)
theorem cm_wr {s : ByteArray} {c : Cm} (h1 : CM.may c) (h2 : CM.wr c = RM.bsz s) : cm s = c ∧ er s = 0 := CM.readIs_eq (read_is s) (.inl ⟨rfl, h1, h2⟩)
/-- whether a log may be -/
def chkF : List ByteArray → Int
  | [] => 0
  | s :: l => if er s = 0 then chkF l else 8
def chk (l : List ByteArray) : Int := if 200 < l.length then 4 else chkF l
theorem chkF_zero : ∀ {l : List ByteArray}, chkF l = 0 ↔ ∀ s ∈ l, er s = 0
  | [] => by simp [chkF]
  | s :: l => by
    unfold chkF
    by_cases h : er s = 0
    · rw [if_pos h, chkF_zero]; simp [h]
    · rw [if_neg h]; simp [h]
theorem chkF_cases (l : List ByteArray) : chkF l = 0 ∨ chkF l = 8 := by
  induction l with
  | nil => exact .inl rfl
  | cons s l ih => unfold chkF; split <;> simp_all
theorem chk_cases (l : List ByteArray) : chk l = 0 ∨ chk l = 4 ∨ chk l = 8 := by
  unfold chk
  split
  · exact .inr (.inl rfl)
  · rcases chkF_cases l with h | h <;> simp [h]
theorem chk_zero {l : List ByteArray} : chk l = 0 ↔ l.length ≤ 200 ∧ ∀ s ∈ l, er s = 0 := by
  unfold chk
  by_cases h : 200 < l.length
  · rw [if_pos h]; simp; omega
  · rw [if_neg h, chkF_zero]; constructor
    · exact fun k => ⟨by omega, k⟩
    · exact fun k => k.2
def cmds (l : List ByteArray) : List Cm := l.map cm
/-- the members of the next slot -/
def turn (ros : List Int) (m : List Int) (c : Cm) : List Int := if c.k = 3 ∧ QM.within c.ms ros = true then c.ms else m
def next (ros m : List Int) (cs : List Cm) : List Int := cs.foldl (turn ros) m
theorem next_snoc (ros m : List Int) (cs : List Cm) (c : Cm) : next ros m (cs ++ [c]) = turn ros (next ros m cs) c := by simp [next]
/-- the members as the last change tells them, gone through from behind -/
def lastF (ros m : List Int) : List Cm → List Int
  | [] => m
  | c :: l => if c.k = 3 ∧ QM.within c.ms ros = true then c.ms else lastF ros m l
theorem last_rev (ros m : List Int) : ∀ l : List Cm, lastF ros m l = next ros m l.reverse
  | [] => rfl
  | c :: l => by
    rw [List.reverse_cons, next_snoc, ← last_rev ros m l]
    rfl
theorem last_next (ros m : List Int) (cs : List Cm) : lastF ros m cs.reverse = next ros m cs := by rw [last_rev, List.reverse_reverse]
/-- the first slot that has a value -/
def placeF (v : ByteArray) : Nat → List ByteArray → Nat
  | _, [] => 0
  | k, s :: l => if s = v then k + 1 else placeF v (k + 1) l
def place (l : List ByteArray) (v : ByteArray) : Nat := placeF v 0 l
theorem placeF_zero {v : ByteArray} : ∀ {l : List ByteArray} {k : Nat}, placeF v k l = 0 ↔ v ∉ l
  | [], k => by simp [placeF]
  | s :: l, k => by
    unfold placeF
    by_cases h : s = v
    · rw [if_pos h]; simp [h]
    · rw [if_neg h, placeF_zero]
      simp
      exact fun _ e => h e.symm
theorem placeF_at {v : ByteArray} : ∀ {l : List ByteArray} {k : Nat}, v ∈ l → ∃ i, i < l.length ∧ placeF v k l = k + i + 1 ∧ l[i]? = some v ∧ ∀ j, j < i → l[j]? ≠ some v
  | [], k, h => by cases h
  | s :: l, k, h => by
    unfold placeF
    by_cases e : s = v
    · rw [if_pos e]
      exact ⟨0, by simp, by omega, by simp [e], fun j hj => by omega⟩
    · rw [if_neg e]
      have hl : v ∈ l := by
        rcases List.mem_cons.1 h with h | h
        · exact absurd h.symm e
        · exact h
      obtain ⟨i, h1, h2, h3, h4⟩ := placeF_at (k := k + 1) hl
      refine ⟨i + 1, by simp; omega, by omega, by simpa using h3, fun j hj => ?_⟩
      rcases j with _ | j
      · simpa using e
      · simpa using h4 j (by omega)
theorem placeF_append {v : ByteArray} : ∀ {l r : List ByteArray} {k : Nat}, v ∈ l → placeF v k (l ++ r) = placeF v k l
  | [], r, k, h => by cases h
  | s :: l, r, k, h => by
    show placeF v k (s :: (l ++ r)) = _
    unfold placeF
    by_cases e : s = v
    · rw [if_pos e, if_pos e]
    · rw [if_neg e, if_neg e]
      exact placeF_append (by rcases List.mem_cons.1 h with h | h; exact absurd h.symm e; exact h)
end Go.Proofs.YtnpgjcapekopnaaGreat.LM

namespace Go.Proofs.YtnpgjcapekopnaaGreat.LP
open Go.RowKit CP
open CM (Cm Mg)
set_option linter.unusedVariables false
set_option linter.unusedSimpArgs false

def tcx (l : List ByteArray) : List Value := l.map fun s => Value.string s
theorem tcx_len (l : List ByteArray) : (tcx l).length = l.length := by simp [tcx]
theorem tcx_at (l : List ByteArray) (k : Nat) (h : k < l.length) : (tcx l)[k]? = some (.string l[k]) := by simp [tcx, h]
/-- texts in a slice -/
def TxIs (w : World) (A : Option Addr) (n c : Nat) (l : List ByteArray) : Prop := Rd w A n (tcx l) ∧ n ≤ c ∧ c ≤ maxLen ∧ ∀ s ∈ l, s.size ≤ maxLen
theorem TxIs.below {w w' : World} {A : Option Addr} {n c : Nat} {l : List ByteArray} (h : TxIs w A n c l) (hb : Below w.heap.size w w') : TxIs w' A n c l := ⟨h.1.below hb, h.2⟩
theorem TxIs.len {w : World} {A : Option Addr} {n c : Nat} {l : List ByteArray} (h : TxIs w A n c l) : l.length = n := by have := h.1.1; rwa [tcx_len] at this
/-- a command with the places of its lists -/
structure El where
  A : Option Addr
  c : Nat
  B : Option Addr
  d : Nat
  x : Cm
def ecell (e : El) : List Value := (ccells e.A e.c e.B e.d e.x).toList
theorem ecell_len (e : El) : (ecell e).length = 12 := rfl
theorem ecell_one (e : El) : ∀ u ∈ ecell e, u.oneCell' = true := by
  intro u hu
  simp only [ecell, ccells, List.mem_cons, List.not_mem_nil, or_false] at hu
  rcases hu with rfl | rfl | rfl | rfl | rfl | rfl | rfl | rfl | rfl | rfl | rfl | rfl <;> rfl
def ecells (l : List El) : List Value := flat ecell l
theorem ecells_len (l : List El) : (ecells l).length = l.length * 12 := flat_length (fun e _ => ecell_len e)
theorem ecells_snoc (l : List El) (e : El) : ecells (l ++ [e]) = ecells l ++ ecell e := by unfold ecells; rw [flat_append, flat_one]
theorem ecells_at {l : List El} {k : Nat} {e : El} (h : l[k]? = some e) (j : Nat) (hj : j < 12) : (ecells l)[k * 12 + j]? = (ecell e)[j]? := flat_get (fun e _ => ecell_len e) h j hj
/-- each command's lists lie from block b on, but not in the row's own block -/
def Rows (w : World) (b : Nat) (r : Option Nat) (l : List El) : Prop :=
  ∀ e ∈ l, RowIs w e.A e.c e.x.m.gs ∧ RowIs w e.B e.d e.x.ms ∧ (∀ ad, e.A = some ad → 0 < e.x.m.gs.length → b ≤ ad.block ∧ r ≠ some ad.block) ∧ (∀ ad, e.B = some ad → 0 < e.x.ms.length → b ≤ ad.block ∧ r ≠ some ad.block) ∧ Tn b w e.A e.x.m.gs.length ∧ Tn b w e.B e.x.ms.length
theorem Rows.below {w w' : World} {b : Nat} {r : Option Nat} {l : List El} (h : Rows w b r l) (hb : Below w.heap.size w w') : Rows w' b r l := fun e he => by
  obtain ⟨h1, h2, h3, h4, h5, h6⟩ := h e he
  exact ⟨h1.below hb, h2.below hb, h3, h4, h5.below hb, h6.below hb⟩
theorem rowIs_grown {w w' : World} {A : Option Addr} {c : Nat} {L : List Int} {r : Option Nat} (h : RowIs w A c L) (hg : w.grownBy w' r) (hr : ∀ ad, A = some ad → 0 < L.length → r ≠ some ad.block) : RowIs w' A c L :=
  ⟨h.1.grown hg fun ad e hn k => hr ad e hn k.symm, h.2⟩
theorem Rows.grown {w w' : World} {b : Nat} {r : Option Nat} {l : List El} (h : Rows w b r l) (hg : w.grownBy w' r) : Rows w' b r l := fun e he => by
  obtain ⟨h1, h2, h3, h4, h5, h6⟩ := h e he
  exact ⟨rowIs_grown h1 hg (fun ad e hn => (h3 ad e hn).2), rowIs_grown h2 hg (fun ad e hn => (h4 ad e hn).2), h3, h4, h5.grown hg (fun ad e hn => (h3 ad e hn).2), h6.grown hg (fun ad e hn => (h4 ad e hn).2)⟩
/-- commands in a row of the call's own, from block b on -/
def CmsO (w : World) (b : Nat) (v : Value) (cs : List Cm) : Prop :=
  ∃ l : List El, l.map (fun e => e.x) = cs ∧ w.ownsRow b 30 12 v l.length (ecells l) ∧ Rows w b v.ownBlock l
theorem CmsO.below {w w' : World} {b : Nat} {v : Value} {cs : List Cm} (h : CmsO w b v cs) (hb : Below w.heap.size w w') : CmsO w' b v cs := by
  obtain ⟨l, h1, h2, h3⟩ := h
  exact ⟨l, h1, own_below3 h2 hb, h3.below hb⟩
theorem CmsO.mono {w : World} {b b' : Nat} {v : Value} {cs : List Cm} (h : CmsO w b v cs) (hb : b' ≤ b) : CmsO w b' v cs := by
  obtain ⟨l, h1, h2, h3⟩ := h
  exact ⟨l, h1, own_base h2 hb, fun e he => ⟨(h3 e he).1, (h3 e he).2.1, fun ad e1 hn => ⟨Nat.le_trans hb ((h3 e he).2.2.1 ad e1 hn).1, ((h3 e he).2.2.1 ad e1 hn).2⟩, fun ad e1 hn => ⟨Nat.le_trans hb ((h3 e he).2.2.2.1 ad e1 hn).1, ((h3 e he).2.2.2.1 ad e1 hn).2⟩, (h3 e he).2.2.2.2.1.mono hb, (h3 e he).2.2.2.2.2.mono hb⟩⟩
theorem cmsO_nil (w : World) (b : Nat) : CmsO w b (.slice none 0 0) [] := ⟨[], rfl, World.ownsRow_nil _ _ _ _, fun e he => by cases he⟩
/-- one more behind them: w the world at the append (its argument's block just laid), w2 behind it -/
theorem cmsO_next {w w2 : World} {b : Nat} {v v2 : Value} {cs : List Cm} {x : Cm} (l : List El) (hl : l.map (fun e => e.x) = cs) (hr : Rows w b v.ownBlock l) {A : Option Addr} {c : Nat} {B : Option Addr} {d : Nat} (h1 : RowGe w b A c x.m.gs) (h2 : RowGe w b B d x.ms)
    (n1 : ∀ ad, A = some ad → 0 < x.m.gs.length → v.ownBlock ≠ some ad.block) (n2 : ∀ ad, B = some ad → 0 < x.ms.length → v.ownBlock ≠ some ad.block)
    (hg : w.grownBy w2 v.ownBlock) (ho : w2.ownsRow b 30 12 v2 (l.length + 1) (ecells l ++ ecell ⟨A, c, B, d, x⟩)) (hob : v2.ownBlock = v.ownBlock ∨ v2.ownBlock = some w.heap.size) : CmsO w2 b v2 (cs ++ [x]) := by
  refine ⟨l ++ [⟨A, c, B, d, x⟩], by simp [hl], by rw [ecells_snoc, List.length_append]; exact ho, fun e he => ?_⟩
  have hfin : ∀ ad : Addr, ad.block < w.heap.size → v.ownBlock ≠ some ad.block → v2.ownBlock ≠ some ad.block := fun ad hlt hne => by
    rcases hob with k | k
    · rw [k]; exact hne
    · rw [k]; intro q; injection q with q; omega
  have lt : ∀ {A : Option Addr} {c : Nat} {L : List Int} {ad : Addr}, RowIs w A c L → A = some ad → 0 < L.length → ad.block < w.heap.size := fun {A c L ad} hR e hn => by
    obtain ⟨a, e2, hB, _⟩ := hR.1.2 hn
    rw [e] at e2; injection e2 with e2; rw [e2]; exact hB
  rcases List.mem_append.1 he with he | he
  · obtain ⟨g1, g2, g3, g4, g5, g6⟩ := hr e he
    exact ⟨rowIs_grown g1 hg (fun ad e hn => (g3 ad e hn).2), rowIs_grown g2 hg (fun ad e hn => (g4 ad e hn).2),
      fun ad e hn => ⟨(g3 ad e hn).1, hfin ad (lt g1 e hn) (g3 ad e hn).2⟩, fun ad e hn => ⟨(g4 ad e hn).1, hfin ad (lt g2 e hn) (g4 ad e hn).2⟩, g5.grown hg (fun ad e hn => (g3 ad e hn).2), g6.grown hg (fun ad e hn => (g4 ad e hn).2)⟩
  · obtain rfl := List.mem_singleton.1 he
    exact ⟨rowIs_grown h1.1 hg n1, rowIs_grown h2.1 hg n2, fun ad e hn => ⟨h1.2 ad e hn, hfin ad (lt h1.1 e hn) (n1 ad e hn)⟩, fun ad e hn => ⟨h2.2 ad e hn, hfin ad (lt h2.1 e hn) (n2 ad e hn)⟩, h1.3.grown hg n1, h2.3.grown hg n2⟩
/-- a row's address, or none at all -/
def Row (n₀ : Nat) (W : World) (sv : Value) (es : List El) : Prop :=
  (sv = .slice none 0 0 ∧ es = []) ∨ ∃ b off cap, sv = .slice (some ⟨b, off, none⟩) es.length cap ∧ b < n₀ ∧ ∀ p e, es[p]? = some e → ∀ j, j < 12 → W.cell? ⟨b, off + p * 12 + j, none⟩ = (ecell e)[j]?
theorem Row.below {n₀ : Nat} {A B : World} {sv : Value} {es : List El} (h : Below n₀ A B) (hr : Row n₀ A sv es) : Row n₀ B sv es := by
  rcases hr with e | ⟨b, off, cap, e, hb, hc⟩
  · exact .inl e
  · exact .inr ⟨b, off, cap, e, hb, fun p x hx j hj => (h.cell (p := ⟨b, off + p * 12 + j, none⟩) hb).trans (hc p x hx j hj)⟩
def At12 (W : World) (b o : Nat) (e : El) : Prop :=
  W.cell? ⟨b, o, none⟩ = some (.int .u8 e.x.k) ∧ W.cell? ⟨b, o + 1, none⟩ = some (.int .i64 e.x.m.id) ∧ W.cell? ⟨b, o + 2, none⟩ = some (.slice e.A e.x.m.gs.length e.c) ∧ W.cell? ⟨b, o + 3, none⟩ = some (.int .i64 e.x.m.tp) ∧
  W.cell? ⟨b, o + 4, none⟩ = some (.string e.x.m.key) ∧ W.cell? ⟨b, o + 5, none⟩ = some (.string e.x.m.body) ∧ W.cell? ⟨b, o + 6, none⟩ = some (.int .i64 e.x.id) ∧ W.cell? ⟨b, o + 7, none⟩ = some (.int .i64 e.x.tm) ∧
  W.cell? ⟨b, o + 8, none⟩ = some (.slice e.B e.x.ms.length e.d) ∧ W.cell? ⟨b, o + 9, none⟩ = some (.int .i64 e.x.tp) ∧ W.cell? ⟨b, o + 10, none⟩ = some (.int .i64 e.x.wh) ∧ W.cell? ⟨b, o + 11, none⟩ = some (.int .i64 e.x.n)
theorem at12_of {W : World} {b o : Nat} {e : El} (h : ∀ j, j < 12 → W.cell? ⟨b, o + j, none⟩ = (ecell e)[j]?) : At12 W b o e :=
  ⟨h 0 (by omega), h 1 (by omega), h 2 (by omega), h 3 (by omega), h 4 (by omega), h 5 (by omega), h 6 (by omega), h 7 (by omega), h 8 (by omega), h 9 (by omega), h 10 (by omega), h 11 (by omega)⟩

theorem Row.any {n₀ : Nat} {W : World} {sv : Value} {es : List El} (h : Row n₀ W sv es) : ∃ AA cap, sv = .slice AA es.length cap ∧ ∀ p e, es[p]? = some e → ∃ b off, AA = some ⟨b, off, none⟩ ∧ b < n₀ ∧ At12 W b (off + p * 12) e := by
  rcases h with ⟨rfl, rfl⟩ | ⟨b, off, cap, rfl, hb, hc⟩
  · exact ⟨none, 0, rfl, fun p e hp => by cases hp⟩
  · exact ⟨_, cap, rfl, fun p e hp => ⟨b, off, rfl, hb, at12_of (hc p e hp)⟩⟩
theorem At12.below {W W' : World} {b o n₀ : Nat} {e : El} (h : At12 W b o e) (hb : b < n₀) (hB : Below n₀ W W') : At12 W' b o e := by
  obtain ⟨h0, h1, h2, h3, h4, h5, h6, h7, h8, h9, h10, h11⟩ := h
  exact ⟨(hB.cell (p := ⟨b, o, none⟩) hb).trans h0, (hB.cell (p := ⟨b, o + 1, none⟩) hb).trans h1, (hB.cell (p := ⟨b, o + 2, none⟩) hb).trans h2, (hB.cell (p := ⟨b, o + 3, none⟩) hb).trans h3, (hB.cell (p := ⟨b, o + 4, none⟩) hb).trans h4, (hB.cell (p := ⟨b, o + 5, none⟩) hb).trans h5,
    (hB.cell (p := ⟨b, o + 6, none⟩) hb).trans h6, (hB.cell (p := ⟨b, o + 7, none⟩) hb).trans h7, (hB.cell (p := ⟨b, o + 8, none⟩) hb).trans h8, (hB.cell (p := ⟨b, o + 9, none⟩) hb).trans h9, (hB.cell (p := ⟨b, o + 10, none⟩) hb).trans h10, (hB.cell (p := ⟨b, o + 11, none⟩) hb).trans h11⟩
theorem cmsO_row {w : World} {b : Nat} {v : Value} {cs : List Cm} (h : CmsO w b v cs) : ∃ es : List El, es.map (fun e => e.x) = cs ∧ Row w.heap.size w v es ∧ Rows w b v.ownBlock es := by
  obtain ⟨es, h1, h2, h3⟩ := h
  refine ⟨es, h1, ?_, h3⟩
  rcases Nat.eq_zero_or_pos es.length with h0 | h0
  · obtain rfl := List.length_eq_zero_iff.1 h0
    rcases h2.2 with ⟨e, _⟩ | ⟨g, cap, cur, e, hb, hx, h5⟩
    · exact .inl ⟨e, rfl⟩
    · have hlt : g < w.heap.size := by
        rcases Nat.lt_or_ge g w.heap.size with k | k
        · exact k
        · rw [Array.getElem?_eq_none k] at hx; cases hx
      exact .inr ⟨g, 0, cap, e, hlt, fun p x hp => by cases hp⟩
  · obtain ⟨g, cap, hv, _, hlt⟩ := h2.form h0
    refine .inr ⟨g, 0, cap, hv, hlt, fun p x hp j hj => ?_⟩
    have hc := h2.cells (g := g) (by rw [hv]; rfl)
    have he := ecells_at hp j hj
    have hs : ∃ u, (ecell x)[j]? = some u := ⟨_, List.getElem?_eq_getElem (by rw [ecell_len]; exact hj)⟩
    obtain ⟨u, hu⟩ := hs
    rw [hu] at he ⊢
    have := hc (p * 12 + j) u he
    have e2 : (⟨g, 0, none⟩ : Addr).add (p * 12 + j) = ⟨g, 0 + p * 12 + j, none⟩ := by unfold Addr.add; split <;> simp_all
    rw [e2] at this
    exact this
end Go.Proofs.YtnpgjcapekopnaaGreat.LP

namespace Go.Proofs.YtnpgjcapekopnaaGreat.KP
open Go.RowKit Go.Joins Go.ChangeShapes Go.WideShapes Go.Deep CP TP
open CM (Mg Cm)
open TM (Sp)
open KM (Wt Sk)
set_option linter.unusedVariables false
set_option linter.unusedSimpArgs false
set_option maxRecDepth 100000

def SkArg (w : World) (v : Value) (s : Sk) : Prop := SkIs w v s ∧ SkFit s
instance : Inhabited (Ex Wt) := ⟨⟨none, 0, default⟩⟩
instance : Inhabited Sp := ⟨⟨0, 0⟩⟩
section
variable {H : Type} {enc : TypeId × Value → H} {w : World} {spare : Nat → Bool} {held : Bool} {base : Nat}
theorem w_all {P : Program} {e : TypeId} {d : DataW H} {z : Nat} : ∀ {ds : List (DataW H)}, d ∈ ds → z ∈ d.weights P e → z ∈ DataW.weightsAll P e ds
  | [], h, _ => by simp at h
  | x :: r, h, hz => by
    simp only [DataW.weightsAll, List.mem_append]
    rcases List.mem_cons.1 h with rfl | h
    · exact .inl hz
    · exact .inr (w_all h hz)
theorem w_agg {P : Program} {t : TypeId} {fs : Array Field} (ht : P.underlying t = some (.struct fs)) {xs : List (DataW H × List MemPlace)} {j : Nat} {f : Field} {y : DataW H × List MemPlace} (hf : fs[j]? = some f) (hy : xs[j]? = some y) :
    ∀ n ∈ y.1.weights P f.type, n ∈ (DataW.agg (xs.map (·.1))).weights P t := by
  intro n hn
  simp only [DataW.weights, ht]
  exact DataW.weights_mem_each (j := j) (by simp [hf]) (by simp [hy]) n hn
theorem w_slice {P : Program} {t e : TypeId} (ht : P.underlying t = some (.slice e)) {el sp : List (DataW H)} {d : DataW H} (hd : d ∈ el) : ∀ n ∈ d.weights P e, n ∈ (DataW.slice el sp).weights P t := by
  intro n hn
  simp only [DataW.weights, ht, List.mem_cons, List.mem_append]
  exact .inr (.inl (w_all hd hn))
theorem intsS {fuel : Nat} {v : Value} {x : DataW H × List MemPlace} (h : DataW.trod enc Tryz.prog w base spare held fuel 26 [v] = some x)
    (hw : ∀ k ∈ x.1.weights Tryz.prog 26, k ≤ reachBytes) : ∃ A c l, v = .slice A l.length c ∧ RowIs w A c l ∧ l.length ≤ 17592186044416 := by
  obtain ⟨A, c, l, e, hr⟩ := row_cells h
  refine ⟨A, c, l, e, hr, ?_⟩
  subst e
  rcases open_ints Tryz.underlying26 Tryz.underlying3 (by kernel_rfl) h with ⟨hcs, _⟩ | ⟨a, len, cap, zs, hcs, hbl, hl, hm, hz, hx, hcell, hwz⟩
  · simp at hcs
    obtain ⟨_, h1, _⟩ := hcs
    simp [h1]
  · simp at hcs
    obtain ⟨_, hl2, _⟩ := hcs
    have hlz : len ≤ zs.length := by rw [hz]; split <;> omega
    have h1 := hw (zs.length * Tryz.prog.bytesOf 3) (by
      rw [hx]
      simp only [DataW.weights, Tryz.underlying26, List.mem_cons]
      left
      simp only [lits, List.length_map, List.length_take, List.length_drop]
      congr 1
      omega)
    rw [show Tryz.prog.bytesOf 3 = 8 from by kernel_rfl] at h1
    have h2 : zs.length * 8 ≤ 140737488351232 := h1
    omega
/-- a row of structs of s cells, each read by 'hr', each no heavier than a machine holds -/
theorem rows_cellsS {α : Type} [Inhabited α] {f : α → List Value} {s : Nat} {T E : TypeId} {Fa : α → Prop} (hT : Tryz.prog.underlying T = some (.slice E)) (hC : Tryz.prog.cellsOf E = s) (hs0 : 0 < s)
    (hr : ∀ {fuel : Nat} {cs : List Value} {x : DataW H × List MemPlace}, DataW.trod enc Tryz.prog w base spare held fuel E cs = some x → (∀ k ∈ x.1.weights Tryz.prog E, k ≤ reachBytes) → ∃ a, cs = f a ∧ Fa a)
    {fuel : Nat} {v : Value} {x : DataW H × List MemPlace} (h : DataW.trod enc Tryz.prog w base spare held fuel T [v] = some x) (hw : ∀ k ∈ x.1.weights Tryz.prog T, k ≤ reachBytes) :
    ∃ A n c l, v = .slice A n c ∧ n ≤ c ∧ c ≤ maxLen ∧ RdG w s A n (flat f l) ∧ l.length = n ∧ ∀ a ∈ l, Fa a := by
  rcases open_slice hT h with ⟨hcs, _⟩ | ⟨a, len, cap, m, n, D, Pl, hcs, hbl, hl, hm, hmm, hx, hi⟩
  · simp at hcs
    exact ⟨none, 0, 0, [], hcs, Nat.le_refl _, Nat.zero_le _, ⟨by simp [flat], fun h => absurd h (by omega)⟩, rfl, fun p hp => by cases hp⟩
  · simp at hcs
    have hlm : len ≤ m := by rw [hmm]; split <;> omega
    have hex : ∀ i, ∃ p : α, i < len → (f p).length = s ∧ (∀ j, j < s → w.cell? (a.add (i * s + j)) = (f p)[j]?) ∧ Fa p := by
      intro i
      by_cases hil : i < len
      · obtain ⟨cs, hc, ht⟩ := hi i (by omega)
        obtain ⟨p, rfl, F⟩ := hr ht (fun k hk => hw k (by rw [hx]; exact w_slice hT (List.mem_map.2 ⟨i, List.mem_range.2 hil, rfl⟩) k hk))
        rw [hC] at hc
        obtain ⟨_, hlen, hat⟩ := World.cells?_some hc
        refine ⟨p, fun _ => ⟨hlen, fun j hj => ?_, F⟩⟩
        have := hat j (by omega)
        rw [add_of_add] at this
        exact this
      · exact ⟨default, fun h => absurd h hil⟩
    obtain ⟨Q, hQ⟩ := Classical.axiomOfChoice hex
    have hps : ∀ (k : Nat) (p : α), ((List.range len).map Q)[k]? = some p → k < len ∧ p = Q k := by
      intro k p hk
      have hkl := (List.getElem?_eq_some_iff.1 hk).1
      simp at hkl
      rw [List.getElem?_map, List.getElem?_range hkl] at hk
      simp at hk
      exact ⟨hkl, hk.symm⟩
    have hfl : ∀ p ∈ (List.range len).map Q, (f p).length = s := fun p hp => by
      obtain ⟨k, hk, rfl⟩ := List.getElem_of_mem hp
      obtain ⟨h1, e⟩ := hps k _ (List.getElem?_eq_getElem hk)
      rw [e]
      exact (hQ k h1).1
    refine ⟨some a, len, cap, (List.range len).map Q, hcs, hl, hm, ⟨by rw [flat_length hfl]; simp, fun h0 => ⟨a, rfl, ?_, fun j u hu => ?_⟩⟩, by simp, fun p hp => ?_⟩
    · have h1 := (hQ 0 h0).2.1 0 hs0
      have h2 : 0 < (f (Q 0)).length := by rw [(hQ 0 h0).1]; exact hs0
      rw [List.getElem?_eq_getElem h2] at h1
      have hb := cell_block h1
      rwa [block_of_add] at hb
    · have hj := (List.getElem?_eq_some_iff.1 hu).1
      rw [flat_length hfl] at hj
      simp at hj
      have hk : j / s < len := Nat.div_lt_of_lt_mul (by rw [Nat.mul_comm]; exact hj)
      have hgk : ((List.range len).map Q)[j / s]? = some (Q (j / s)) := by simp [hk]
      have hmod := Nat.mod_lt j hs0
      have e1 := flat_get hfl hgk (j % s) hmod
      have e2 : j / s * s + j % s = j := by rw [Nat.mul_comm]; exact Nat.div_add_mod j s
      rw [e2] at e1
      have e3 := (hQ (j / s) hk).2.1 (j % s) hmod
      rw [e2] at e3
      rw [e3, ← e1, hu]
    · obtain ⟨k, hk, rfl⟩ := List.getElem_of_mem hp
      obtain ⟨h1, e⟩ := hps k _ (List.getElem?_eq_getElem hk)
      rw [e]
      exact (hQ k h1).2.2
theorem mgS {fuel : Nat} {cs : List Value} {x : DataW H × List MemPlace} (h : DataW.trod enc Tryz.prog w base spare held fuel 28 cs = some x) (hw : ∀ k ∈ x.1.weights Tryz.prog 28, k ≤ reachBytes) :
    ∃ A c m, cs = KM_.cel A c m ∧ RowIs w A c m.gs ∧ MgFit m ∧ m.gs.length ≤ 17592186044416 := by
  obtain ⟨xs, n, _, hx, hlen, hxl, hg⟩ := DataW.trod_struct Tryz.underlying28 h
  have hl : cs.length = 5 := hlen.trans (by kernel_rfl)
  match cs, hl with
  | [c0, c1, c2, c3, c4], _ =>
    have hx5 : xs.length = 5 := hxl
    obtain ⟨y0, hy0⟩ : ∃ y, xs[0]? = some y := ⟨_, List.getElem?_eq_getElem (by omega)⟩
    have g0 : DataW.trod enc Tryz.prog w base spare held n 3 (List.take (Tryz.prog.cellsOf 3) (List.drop 0 [c0, c1, c2, c3, c4])) = xs[0]? := hg 0 _ rfl
    rw [show Tryz.prog.cellsOf 3 = 1 from by kernel_rfl, hy0] at g0
    have t0 : DataW.trod enc Tryz.prog w base spare held n 3 [c0] = some y0 := g0
    obtain ⟨y1, hy1⟩ : ∃ y, xs[1]? = some y := ⟨_, List.getElem?_eq_getElem (by omega)⟩
    have g1 : DataW.trod enc Tryz.prog w base spare held n 26 (List.take (Tryz.prog.cellsOf 26) (List.drop 1 [c0, c1, c2, c3, c4])) = xs[1]? := hg 1 _ rfl
    rw [show Tryz.prog.cellsOf 26 = 1 from by kernel_rfl, hy1] at g1
    have t1 : DataW.trod enc Tryz.prog w base spare held n 26 [c1] = some y1 := g1
    obtain ⟨y2, hy2⟩ : ∃ y, xs[2]? = some y := ⟨_, List.getElem?_eq_getElem (by omega)⟩
    have g2 : DataW.trod enc Tryz.prog w base spare held n 3 (List.take (Tryz.prog.cellsOf 3) (List.drop 2 [c0, c1, c2, c3, c4])) = xs[2]? := hg 2 _ rfl
    rw [show Tryz.prog.cellsOf 3 = 1 from by kernel_rfl, hy2] at g2
    have t2 : DataW.trod enc Tryz.prog w base spare held n 3 [c2] = some y2 := g2
    obtain ⟨y3, hy3⟩ : ∃ y, xs[3]? = some y := ⟨_, List.getElem?_eq_getElem (by omega)⟩
    have g3 : DataW.trod enc Tryz.prog w base spare held n 9 (List.take (Tryz.prog.cellsOf 9) (List.drop 3 [c0, c1, c2, c3, c4])) = xs[3]? := hg 3 _ rfl
    rw [show Tryz.prog.cellsOf 9 = 1 from by kernel_rfl, hy3] at g3
    have t3 : DataW.trod enc Tryz.prog w base spare held n 9 [c3] = some y3 := g3
    obtain ⟨y4, hy4⟩ : ∃ y, xs[4]? = some y := ⟨_, List.getElem?_eq_getElem (by omega)⟩
    have g4 : DataW.trod enc Tryz.prog w base spare held n 9 (List.take (Tryz.prog.cellsOf 9) (List.drop 4 [c0, c1, c2, c3, c4])) = xs[4]? := hg 4 _ rfl
    rw [show Tryz.prog.cellsOf 9 = 1 from by kernel_rfl, hy4] at g4
    have t4 : DataW.trod enc Tryz.prog w base spare held n 9 [c4] = some y4 := g4
    obtain ⟨a, e0, _, w0⟩ := DataW.trod_int Tryz.underlying3 t0
    obtain ⟨A, c, l, e1, hr, hl⟩ := intsS t1 (fun k hk => hw k (by rw [hx]; exact w_agg Tryz.underlying28 (j := 1) rfl hy1 k hk))
    obtain ⟨b, e2, _, w2⟩ := DataW.trod_int Tryz.underlying3 t2
    obtain ⟨s, e3, _, w3⟩ := DataW.trod_string Tryz.underlying9 t3
    obtain ⟨t, e4, _, w4⟩ := DataW.trod_string Tryz.underlying9 t4
    simp at e0 e2 e3 e4
    subst e0 e1 e2 e3 e4
    exact ⟨A, c, ⟨a, l, b, s, t⟩, rfl, hr, ⟨range_i64 w0, range_i64 w2, w3, w4⟩, hl⟩
theorem wtS {fuel : Nat} {cs : List Value} {x : DataW H × List MemPlace} (h : DataW.trod enc Tryz.prog w base spare held fuel 52 cs = some x) (hw : ∀ k ∈ x.1.weights Tryz.prog 52, k ≤ reachBytes) :
    ∃ e : Ex Wt, cs = exc KW e ∧ RowIs w e.A e.c e.x.m.gs ∧ WtFit e.x ∧ e.x.m.gs.length ≤ 17592186044416 := by
  obtain ⟨xs, n, _, hx, hlen, hxl, hg⟩ := DataW.trod_struct Tryz.underlying52 h
  have hl : cs.length = 7 := hlen.trans (by kernel_rfl)
  match cs, hl with
  | [c0, c1, c2, c3, c4, c5, c6], _ =>
    have hx3 : xs.length = 3 := hxl
    obtain ⟨y0, hy0⟩ : ∃ y, xs[0]? = some y := ⟨_, List.getElem?_eq_getElem (by omega)⟩
    have g0 : DataW.trod enc Tryz.prog w base spare held n 28 (List.take (Tryz.prog.cellsOf 28) (List.drop 0 [c0, c1, c2, c3, c4, c5, c6])) = xs[0]? := hg 0 _ rfl
    rw [show Tryz.prog.cellsOf 28 = 5 from by kernel_rfl, hy0] at g0
    have t0 : DataW.trod enc Tryz.prog w base spare held n 28 [c0, c1, c2, c3, c4] = some y0 := g0
    obtain ⟨y1, hy1⟩ : ∃ y, xs[1]? = some y := ⟨_, List.getElem?_eq_getElem (by omega)⟩
    have g1 : DataW.trod enc Tryz.prog w base spare held n 3 (List.take (Tryz.prog.cellsOf 3) (List.drop 5 [c0, c1, c2, c3, c4, c5, c6])) = xs[1]? := hg 1 _ rfl
    rw [show Tryz.prog.cellsOf 3 = 1 from by kernel_rfl, hy1] at g1
    have t1 : DataW.trod enc Tryz.prog w base spare held n 3 [c5] = some y1 := g1
    obtain ⟨y2, hy2⟩ : ∃ y, xs[2]? = some y := ⟨_, List.getElem?_eq_getElem (by omega)⟩
    have g2 : DataW.trod enc Tryz.prog w base spare held n 4 (List.take (Tryz.prog.cellsOf 4) (List.drop 6 [c0, c1, c2, c3, c4, c5, c6])) = xs[2]? := hg 2 _ rfl
    rw [show Tryz.prog.cellsOf 4 = 1 from by kernel_rfl, hy2] at g2
    have t2 : DataW.trod enc Tryz.prog w base spare held n 4 [c6] = some y2 := g2
    obtain ⟨A, c, m, e0, hr, hm, hl⟩ := mgS t0 (fun k hk => hw k (by rw [hx]; exact w_agg Tryz.underlying52 (j := 0) rfl hy0 k hk))
    obtain ⟨b, e1, _, w1⟩ := DataW.trod_int Tryz.underlying3 t1
    obtain ⟨f, e2, _⟩ := DataW.trod_bool Tryz.underlying4 t2
    simp [KM_] at e0 e1 e2
    obtain ⟨rfl, rfl, rfl, rfl, rfl⟩ := e0
    subst e1 e2
    exact ⟨⟨A, c, ⟨m, b, f⟩⟩, rfl, hr, ⟨hm, range_i64 w1⟩, hl⟩
theorem spS {fuel : Nat} {cs : List Value} {x : DataW H × List MemPlace} (h : DataW.trod enc Tryz.prog w base spare held fuel 70 cs = some x) : ∃ m : Sp, cs = spc m ∧ SpIn m := by
  obtain ⟨hlen, n, hf⟩ := cells_read Tryz.underlying70 (by kernel_rfl) h
  have hl : cs.length = 2 := hlen.trans (by kernel_rfl)
  match cs, hl with
  | [c0, c1], _ =>
    obtain ⟨y0, t0⟩ := hf 0 _ c0 rfl rfl
    obtain ⟨y1, t1⟩ := hf 1 _ c1 rfl rfl
    obtain ⟨a, e0, _, w0⟩ := DataW.trod_int Tryz.underlying3 t0
    obtain ⟨b, e1, _, w1⟩ := DataW.trod_int Tryz.underlying3 t1
    simp at e0 e1
    subst e0 e1
    exact ⟨⟨a, b⟩, rfl, range_i64 w0, range_i64 w1⟩
/-- a clock that came in -/
theorem open_sk {r : Reach} {b0 : Nat} {v : Value} {d : DataW H} {p : List MemPlace} (hv : Value.okWide Tryz.prog w r b0 25 v) (h : DataW.Trod enc Tryz.prog w base spare held 25 v d p)
    (hw : ∀ k ∈ d.weights Tryz.prog 25, k ≤ reachBytes) : ∃ s, SkArg w v s := by
  obtain ⟨cs, rfl, hsz⟩ := okWide_struct Tryz.underlying25 hv
  obtain ⟨l⟩ := cs
  obtain ⟨fuel, hf⟩ := h
  obtain ⟨xs, n, _, hx, hlen, hxl, hg⟩ := DataW.trod_struct Tryz.underlying25 hf
  obtain ⟨rfl, _⟩ := Prod.mk.inj hx
  have hl : l.length = 3 := by
    have := hlen.trans (show Tryz.prog.cellsOf 25 = 3 by kernel_rfl)
    simpa [Value.cells] using this
  match l, hl with
  | [c0, c1, c2], _ =>
    have hx3 : xs.length = 3 := hxl
    obtain ⟨y0, hy0⟩ : ∃ y, xs[0]? = some y := ⟨_, List.getElem?_eq_getElem (by omega)⟩
    have g0 : DataW.trod enc Tryz.prog w base spare held n 3 (List.take (Tryz.prog.cellsOf 3) (List.drop 0 [c0, c1, c2])) = xs[0]? := hg 0 _ rfl
    rw [show Tryz.prog.cellsOf 3 = 1 from by kernel_rfl, hy0] at g0
    have t0 : DataW.trod enc Tryz.prog w base spare held n 3 [c0] = some y0 := g0
    obtain ⟨y1, hy1⟩ : ∃ y, xs[1]? = some y := ⟨_, List.getElem?_eq_getElem (by omega)⟩
    have g1 : DataW.trod enc Tryz.prog w base spare held n 22 (List.take (Tryz.prog.cellsOf 22) (List.drop 1 [c0, c1, c2])) = xs[1]? := hg 1 _ rfl
    rw [show Tryz.prog.cellsOf 22 = 1 from by kernel_rfl, hy1] at g1
    have t1 : DataW.trod enc Tryz.prog w base spare held n 22 [c1] = some y1 := g1
    obtain ⟨y2, hy2⟩ : ∃ y, xs[2]? = some y := ⟨_, List.getElem?_eq_getElem (by omega)⟩
    have g2 : DataW.trod enc Tryz.prog w base spare held n 23 (List.take (Tryz.prog.cellsOf 23) (List.drop 2 [c0, c1, c2])) = xs[2]? := hg 2 _ rfl
    rw [show Tryz.prog.cellsOf 23 = 1 from by kernel_rfl, hy2] at g2
    have t2 : DataW.trod enc Tryz.prog w base spare held n 23 [c2] = some y2 := g2
    obtain ⟨a, e0, _, w0⟩ := DataW.trod_int Tryz.underlying3 t0
    obtain ⟨A, m, c, es, e1, h1, h2, h3, h4, h5⟩ := rows_cellsS (f := exc KW) (s := 7) (Fa := fun e : Ex Wt => RowIs w e.A e.c e.x.m.gs ∧ WtFit e.x ∧ e.x.m.gs.length ≤ 17592186044416) Tryz.underlying22 (by kernel_rfl) (by omega) (fun h hw => wtS h hw) t1 (fun k hk => hw k (w_agg Tryz.underlying25 (j := 1) rfl hy1 k hk))
    obtain ⟨B, m', c', ds, e2, k1, k2, k3, k4, k5⟩ := rows_cells (f := spc) (s := 2) (Fa := SpIn) Tryz.underlying23 (by kernel_rfl) (by omega) (fun h => spS h) t2
    simp at e0
    subst e0 e1 e2
    have hm : (es.map Ex.x).length = m := by rw [List.length_map]; exact h4
    refine ⟨⟨a, es.map Ex.x, ds⟩, ⟨A, c, B, c', by show _ = vsk a (.slice A (es.map Ex.x).length c) (.slice B ds.length c'); rw [hm, k4]; rfl, ?_, ?_⟩, range_i64 w0, ?_, k5⟩
    · show KR KW w A (es.map Ex.x).length c (es.map Ex.x)
      rw [hm]
      exact ⟨es, rfl, h3, h4, h1, h2, fun e he => (h5 e he).1⟩
    · show SpsIs w B ds.length c' ds
      rw [k4]
      exact ⟨k3, k4, k1, k2⟩
    · intro x hx
      obtain ⟨e, he, rfl⟩ := List.mem_map.1 hx
      exact (h5 e he).2
end
end Go.Proofs.YtnpgjcapekopnaaGreat.KP
