/-
  Words for memory: slices of texts. No program.
-/
import Derived.Test.YtohiemdodffhoaaMem
import Derived.SliceStrings
namespace Go.Proofs.Ytohiemdodffhoaa
open Go.RowKit

/-- texts as cells -/
def sc (l : List (List UInt8)) : List Value := l.map fun s => Value.string ⟨s.toArray⟩
theorem sc_length (l : List (List UInt8)) : (sc l).length = l.length := by simp [sc]
theorem sc_append (l r : List (List UInt8)) : sc (l ++ r) = sc l ++ sc r := by simp [sc]
theorem sc_drop (l : List (List UInt8)) (k : Nat) : (sc l).drop k = sc (l.drop k) := by simp [sc]
theorem sc_take (l : List (List UInt8)) (k : Nat) : (sc l).take k = sc (l.take k) := by simp [sc]
theorem sc_one (l : List (List UInt8)) : ∀ u ∈ sc l, u.oneCell' = true := by
  intro u hu
  simp only [sc, List.mem_map] at hu
  obtain ⟨b, _, rfl⟩ := hu
  rfl
theorem sc_get (l : List (List UInt8)) (k : Nat) (h : k < l.length) : (sc l)[k]? = some (.string ⟨l[k].toArray⟩) := by simp [sc, h]

/-- A slice of texts that came in: nil, or a row of cap cells, the texts ss. -/
def IsTexts (w : World) (a : Option Addr) (len cap : Nat) (ss : List ByteArray) : Prop :=
  (a = none ∧ len = 0 ∧ cap = 0 ∧ ss = []) ∨
  ∃ x, a = some x ∧ len ≤ cap ∧ cap ≤ maxLen ∧ ss.length = cap ∧ (∀ i, i < ss.length → w.cell? (x.add i) = some (.string (ss.getD i ByteArray.empty))) ∧ ∀ s ∈ ss, s.size ≤ maxLen
/-- the texts, as lists of bytes -/
def textsOf (ss : List ByteArray) (len : Nat) : List (List UInt8) := (ss.take len).map fun s => s.data.toList
theorem IsTexts.len_le {w : World} {a : Option Addr} {len cap : Nat} {ss : List ByteArray} (h : IsTexts w a len cap ss) : len ≤ cap ∧ cap ≤ maxLen ∧ ss.length = cap := by
  rcases h with ⟨rfl, rfl, rfl, rfl⟩ | ⟨x, rfl, h1, h2, h3, _⟩
  · exact ⟨Nat.le_refl _, Nat.zero_le _, rfl⟩
  · exact ⟨h1, h2, h3⟩
theorem IsTexts.texts {w : World} {a : Option Addr} {len cap : Nat} {ss : List ByteArray} (h : IsTexts w a len cap ss) : Rd w a len (sc (textsOf ss len)) := by
  rcases h with ⟨rfl, rfl, rfl, rfl⟩ | ⟨x, rfl, h1, h2, h3, hc, _⟩
  · exact Rd.nil
  · refine ⟨by simp [sc, textsOf]; omega, fun hn => ⟨x, rfl, ?_, fun j u hu => ?_⟩⟩
    · have := cell_block (hc 0 (by omega)); rwa [block_of_add] at this
    · unfold sc textsOf at hu
      rw [List.map_map, List.getElem?_map, List.getElem?_take] at hu
      split at hu
      · rename_i hj
        have hjz : j < ss.length := by omega
        rw [hc j hjz]
        rw [List.getElem?_eq_getElem hjz] at hu
        simp at hu
        rw [← hu]
        simp [hjz]
      · simp at hu
theorem IsTexts.small {w : World} {a : Option Addr} {len cap : Nat} {ss : List ByteArray} (h : IsTexts w a len cap ss) : ∀ t ∈ textsOf ss len, t.length ≤ maxLen := by
  intro t ht
  simp only [textsOf, List.mem_map] at ht
  obtain ⟨s, hs, rfl⟩ := ht
  have hm := List.mem_of_mem_take hs
  rcases h with ⟨rfl, rfl, rfl, rfl⟩ | ⟨x, rfl, _, _, _, _, hw⟩
  · simp at hm
  · have := hw s hm
    rw [Array.length_toList]
    exact this
end Go.Proofs.Ytohiemdodffhoaa
