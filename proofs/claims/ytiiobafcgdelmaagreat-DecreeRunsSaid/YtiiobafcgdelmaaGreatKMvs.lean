/- Arguments that are lists of moves, opened to cells; each as its theorem says. -/
import Derived.Test.YtiiobafcgdelmaaGreatK01
import Derived.Test.YtiiobafcgdelmaaGreatK49
import Derived.Test.YtiiobafcgdelmaaGreatRows
import Derived.Lib.SmallJoins
import Derived.OpenShut
import Derived.Deep.Slices
import Derived.Deep.Fields
import Derived.ChangeSame
namespace Go.Proofs.YtiiobafcgdelmaaGreat
open Go.RowKit Go.Joins Go.ChangeShapes Go.WideShapes Go.Deep
set_option linter.unusedVariables false
theorem range_u8 {z : Int} (h : (Lit.int .u8 z).wf = true) : 0 ≤ z ∧ z ≤ 255 := by simpa [Lit.wf, IntKind.min, IntKind.max, IntKind.signed, IntKind.bits] using h
section
variable {H : Type} {enc : TypeId × Value → H} {P : Program} {w : World} {base : Nat} {spare : Nat → Bool} {held : Bool}
theorem cells_read {t : TypeId} {fs : Array Field} {fuel : Nat} {cs : List Value} {x : DataW H × List MemPlace} (hs : P.underlying t = some (.struct fs)) (hone : oneCellFields P fs = true) (h : DataW.trod enc P w base spare held fuel t cs = some x) :
  cs.length = P.cellsOf t ∧ ∃ n, ∀ (j : Nat) (f : Field) (c : Value), fs[j]? = some f → cs[j]? = some c → ∃ y, DataW.trod enc P w base spare held n f.type [c] = some y := by
 obtain ⟨xs, n, _, _, hlen, hxl, hf⟩ := DataW.trod_struct hs h
 refine ⟨hlen, n, fun j f c hj hc => ?_⟩
 obtain ⟨ho, hk⟩ := hone_of hone j f hj
 have e := hf j f hj
 rw [ho, hk] at e
 have hjl : j < xs.length := by rw [hxl]; exact (Array.getElem?_eq_some_iff.1 hj).1
 have hcl := (List.getElem?_eq_some_iff.1 hc).1
 have ht : (cs.drop j).take 1 = [c] := by
  rw [List.drop_eq_getElem_cons hcl, List.take_succ_cons, List.take_zero, (List.getElem?_eq_some_iff.1 hc).2]
 rw [ht, List.getElem?_eq_getElem hjl] at e
 exact ⟨_, e⟩
end
section
variable {H : Type} {enc : TypeId × Value → H} {w : World} {spare : Nat → Bool} {held : Bool} {base : Nat}
theorem rows_cells {α : Type} [Inhabited α] {f : α → List Value} {s : Nat} {T E : TypeId} {Fa : α → Prop} (hT : Tryz.prog.underlying T = some (.slice E)) (hC : Tryz.prog.cellsOf E = s) (hs0 : 0 < s)
  (hr : ∀ {fuel : Nat} {cs : List Value} {x : DataW H × List MemPlace}, DataW.trod enc Tryz.prog w base spare held fuel E cs = some x → ∃ a, cs = f a ∧ Fa a)
  {fuel : Nat} {v : Value} {x : DataW H × List MemPlace} (h : DataW.trod enc Tryz.prog w base spare held fuel T [v] = some x) :
  ∃ A n c l, v = .slice A n c ∧ n ≤ c ∧ c ≤ maxLen ∧ RdG w s A n (flat f l) ∧ l.length = n ∧ ∀ a ∈ l, Fa a := by
 rcases open_slice hT h with ⟨hcs, _⟩ | ⟨a, len, cap, m, n, D, Pl, hcs, hbl, hl, hm, hmm, _, hi⟩
 ·simp at hcs
  exact ⟨none, 0, 0, [], hcs, Nat.le_refl _, Nat.zero_le _, ⟨by simp [flat], fun h => absurd h (by omega)⟩, rfl, fun p hp => by cases hp⟩
 ·simp at hcs
  have hlm : len ≤ m := by rw [hmm]; split <;> omega
  have hex : ∀ i, ∃ p : α, i < len → (f p).length = s ∧ (∀ j, j < s → w.cell? (a.add (i * s + j)) = (f p)[j]?) ∧ Fa p := by
   intro i
   by_cases hil : i < len
   ·obtain ⟨cs, hc, ht⟩ := hi i (by omega)
    obtain ⟨p, rfl, F⟩ := hr ht
    rw [hC] at hc
    obtain ⟨_, hlen, hat⟩ := World.cells?_some hc
    refine ⟨p, fun _ => ⟨hlen, fun j hj => ?_, F⟩⟩
    have := hat j (by omega)
    rw [add_of_add] at this
    exact this
   ·exact ⟨default, fun h => absurd h hil⟩
  obtain ⟨Q, hQ⟩ := Classical.axiomOfChoice hex
  have hps : ∀ (k : Nat) (p : α), ((List.range len).map Q)[k]? = some p → k < len ∧ p = Q k := by
   intro k p hk
   have hkl := (List.getElem?_eq_some_iff.1 hk).1
   simp at hkl
   rw [List.getElem?_map, List.getElem?_range hkl] at hk
   simp at hk
   exact ⟨hkl, hk.symm⟩
  have hfl : ∀ p ∈ (List.range len).map Q, (f p).length = s := fun p hp => by
   obtain ⟨k, hk, rfl⟩ := List.getElem_of_mem hp
   obtain ⟨h1, e⟩ := hps k _ (List.getElem?_eq_getElem hk)
   rw [e]
   exact (hQ k h1).1
  refine ⟨some a, len, cap, (List.range len).map Q, hcs, hl, hm, ⟨by rw [flat_length hfl]; simp, fun h0 => ⟨a, rfl, ?_, fun j u hu => ?_⟩⟩, by simp, fun p hp => ?_⟩
  ·have h1 := (hQ 0 h0).2.1 0 hs0
   have h2 : 0 < (f (Q 0)).length := by rw [(hQ 0 h0).1]; exact hs0
   rw [List.getElem?_eq_getElem h2] at h1
   have hb := cell_block h1
   rwa [block_of_add] at hb
  ·have hj := (List.getElem?_eq_some_iff.1 hu).1
   rw [flat_length hfl] at hj
   simp at hj
   have hk : j / s < len := Nat.div_lt_of_lt_mul (by rw [Nat.mul_comm]; exact hj)
   have hgk : ((List.range len).map Q)[j / s]? = some (Q (j / s)) := by simp [hk]
   have hmod := Nat.mod_lt j hs0
   have e1 := flat_get hfl hgk (j % s) hmod
   have e2 : j / s * s + j % s = j := by rw [Nat.mul_comm]; exact Nat.div_add_mod j s
   rw [e2] at e1
   have e3 := (hQ (j / s) hk).2.1 (j % s) hmod
   rw [e2] at e3
   rw [e3, ← e1, hu]
  ·obtain ⟨k, hk, rfl⟩ := List.getElem_of_mem hp
   obtain ⟨h1, e⟩ := hps k _ (List.getElem?_eq_getElem hk)
   rw [e]
   exact (hQ k h1).2.2
end
end Go.Proofs.YtiiobafcgdelmaaGreat
namespace Go.Proofs.YtiiobafcgdelmaaGreat.PD
open Go.RowKit Go.Joins Go.ChangeShapes Go.WideShapes Go.Deep
section
variable {H : Type} {enc : TypeId × Value → H} {w : World} {spare : Nat → Bool} {held : Bool} {base : Nat}
theorem mv_cells {fuel : Nat} {cs : List Value} {x : DataW H × List MemPlace} (h : DataW.trod enc Tryz.prog w base spare held fuel 30 cs = some x) : ∃ m : DC.Mv, cs = vmove m ∧ MvFit m := by
 obtain ⟨hlen, n, hf⟩ := cells_read Tryz.underlying30 (by kernel_rfl) h
 have hl : cs.length = 4 := hlen.trans (by kernel_rfl)
 match cs, hl with
 | [c0, c1, c2, c3], _ =>
  obtain ⟨y0, t0⟩ := hf 0 _ c0 rfl rfl
  obtain ⟨y1, t1⟩ := hf 1 _ c1 rfl rfl
  obtain ⟨y2, t2⟩ := hf 2 _ c2 rfl rfl
  obtain ⟨y3, t3⟩ := hf 3 _ c3 rfl rfl
  obtain ⟨k, e0, _, w0⟩ := DataW.trod_int Tryz.underlying5 t0
  obtain ⟨a, e1, _, w1⟩ := DataW.trod_int Tryz.underlying3 t1
  obtain ⟨b, e2, _, w2⟩ := DataW.trod_int Tryz.underlying3 t2
  obtain ⟨s, e3, _, w3⟩ := DataW.trod_string Tryz.underlying9 t3
  simp at e0 e1 e2 e3
  subst e0 e1 e2 e3
  exact ⟨⟨k, a, b, s⟩, rfl, (range_u8 w0).1, (range_u8 w0).2, w3⟩
theorem open_mvs {A : Option Addr} {m c : Nat} {d : DataW H} {p : List MemPlace} (h : DataW.Trod enc Tryz.prog w base spare held 42 (.slice A m c) d p) : ∃ l, MvsArg w A m c l := by
 obtain ⟨fuel, hf⟩ := h
 obtain ⟨B, m', c', l, e, h1, h2, h3, h4, h5⟩ := rows_cells (s := 4) Tryz.underlying42 (by kernel_rfl) (by omega) (fun h => mv_cells h) (show DataW.trod enc Tryz.prog w base spare held fuel 42 [.slice A m c] = some (d, p) by simpa [Value.cells] using hf)
 injection e with e1 e2 e3
 subst e1 e2 e3
 exact ⟨l, h3, h4, by omega, h5⟩
end
end Go.Proofs.YtiiobafcgdelmaaGreat.PD
