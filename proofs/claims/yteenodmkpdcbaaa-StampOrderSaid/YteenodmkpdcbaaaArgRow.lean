/-
  Arguments opened to cells: rows of structs of s cells (parted from ArgCells). Conditions: as each theorem says.
-/
import Derived.Test.YteenodmkpdcbaaaProg
import Derived.Test.YteenodmkpdcbaaaRowG
import Derived.Test.YteenodmkpdcbaaaArgOne
import Derived.Test.YteenodmkpdcbaaaRows
import Derived.Lib.SmallJoins
import Derived.OpenShut
import Derived.Deep.Slices
import Derived.Deep.Fields
import Derived.ChangeSame
namespace Go.Proofs.Yteenodmkpdcbaaa
open Go.RowKit Go.Joins Go.ChangeShapes Go.WideShapes Go.Deep
set_option linter.unusedVariables false

section
variable {H : Type} {enc : TypeId × Value → H} {w : World} {spare : Nat → Bool} {held : Bool} {base : Nat}
/-- a row of structs of s cells, each read by 'hr' -/
theorem rows_cells {α : Type} [Inhabited α] {f : α → List Value} {s : Nat} {T E : TypeId} {Fa : α → Prop} (hT : Try.prog.underlying T = some (.slice E)) (hC : Try.prog.cellsOf E = s) (hs0 : 0 < s)
    (hr : ∀ {fuel : Nat} {cs : List Value} {x : DataW H × List MemPlace}, DataW.trod enc Try.prog w base spare held fuel E cs = some x → ∃ a, cs = f a ∧ Fa a)
    {fuel : Nat} {v : Value} {x : DataW H × List MemPlace} (h : DataW.trod enc Try.prog w base spare held fuel T [v] = some x) :
    ∃ A n c l, v = .slice A n c ∧ n ≤ c ∧ c ≤ maxLen ∧ RdG w s A n (flat f l) ∧ l.length = n ∧ ∀ a ∈ l, Fa a := by
  rcases open_slice hT h with ⟨hcs, _⟩ | ⟨a, len, cap, m, n, D, Pl, hcs, hbl, hl, hm, hmm, _, hi⟩
  · simp at hcs
    exact ⟨none, 0, 0, [], hcs, Nat.le_refl _, Nat.zero_le _, ⟨by simp [flat], fun h => absurd h (by omega)⟩, rfl, fun p hp => by cases hp⟩
  · simp at hcs
    have hlm : len ≤ m := by rw [hmm]; split <;> omega
    have hex : ∀ i, ∃ p : α, i < len → (f p).length = s ∧ (∀ j, j < s → w.cell? (a.add (i * s + j)) = (f p)[j]?) ∧ Fa p := by
      intro i
      by_cases hil : i < len
      · obtain ⟨cs, hc, ht⟩ := hi i (by omega)
        obtain ⟨p, rfl, F⟩ := hr ht
        rw [hC] at hc
        obtain ⟨_, hlen, hat⟩ := World.cells?_some hc
        refine ⟨p, fun _ => ⟨hlen, fun j hj => ?_, F⟩⟩
        have := hat j (by omega)
        rw [add_of_add] at this
        exact this
      · exact ⟨default, fun h => absurd h hil⟩
    obtain ⟨Q, hQ⟩ := Classical.axiomOfChoice hex
    have hps : ∀ (k : Nat) (p : α), ((List.range len).map Q)[k]? = some p → k < len ∧ p = Q k := by
      intro k p hk
      have hkl := (List.getElem?_eq_some_iff.1 hk).1
      simp at hkl
      rw [List.getElem?_map, List.getElem?_range hkl] at hk
      simp at hk
      exact ⟨hkl, hk.symm⟩
    have hfl : ∀ p ∈ (List.range len).map Q, (f p).length = s := fun p hp => by
      obtain ⟨k, hk, rfl⟩ := List.getElem_of_mem hp
      obtain ⟨h1, e⟩ := hps k _ (List.getElem?_eq_getElem hk)
      rw [e]
      exact (hQ k h1).1
    refine ⟨some a, len, cap, (List.range len).map Q, hcs, hl, hm, ⟨by rw [flat_length hfl]; simp, fun h0 => ⟨a, rfl, ?_, fun j u hu => ?_⟩⟩, by simp, fun p hp => ?_⟩
    · have h1 := (hQ 0 h0).2.1 0 hs0
      have h2 : 0 < (f (Q 0)).length := by rw [(hQ 0 h0).1]; exact hs0
      rw [List.getElem?_eq_getElem h2] at h1
      have hb := cell_block h1
      rwa [block_of_add] at hb
    · have hj := (List.getElem?_eq_some_iff.1 hu).1
      rw [flat_length hfl] at hj
      simp at hj
      have hk : j / s < len := Nat.div_lt_of_lt_mul (by rw [Nat.mul_comm]; exact hj)
      have hgk : ((List.range len).map Q)[j / s]? = some (Q (j / s)) := by simp [hk]
      have hmod := Nat.mod_lt j hs0
      have e1 := flat_get hfl hgk (j % s) hmod
      have e2 : j / s * s + j % s = j := by rw [Nat.mul_comm]; exact Nat.div_add_mod j s
      rw [e2] at e1
      have e3 := (hQ (j / s) hk).2.1 (j % s) hmod
      rw [e2] at e3
      rw [e3, ← e1, hu]
    · obtain ⟨k, hk, rfl⟩ := List.getElem_of_mem hp
      obtain ⟨h1, e⟩ := hps k _ (List.getElem?_eq_getElem hk)
      rw [e]
      exact (hQ k h1).2.2
end
end Go.Proofs.Yteenodmkpdcbaaa
