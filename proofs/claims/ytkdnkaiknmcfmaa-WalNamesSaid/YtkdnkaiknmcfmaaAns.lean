/-
  Answers in one form: a slice of bytes and an error, tied to the data by one predicate that the program's and the document's functions both meet. Conditions: as each theorem says.
-/
import Derived.Test.YtkdnkaiknmcfmaaNumF
namespace Go.Proofs.Ytkdnkaiknmcfmaa
open Go.RowKit
set_option linter.unusedVariables false

/-- an answer: a slice of the bytes r, and an error x -/
def Ans (r : List UInt8) (k : Nat) (x : Int) (w : World) (e : Ending) (w' : World) : Prop :=
  ∃ A c, e = .returned (.tuple #[.slice A k c, .int .i64 x]) ∧ Rd w' A k (bc r) ∧ k ≤ c ∧ c ≤ maxLen ∧ Below w.heap.size w w'
/-- what writing a text comes to -/
def TextIs (l r : List UInt8) (k : Nat) (x : Int) : Prop := r.length = k ∧ ((l.length ≤ 4096 ∧ r = NM.text l ∧ x = 0) ∨ (4096 < l.length ∧ r = [] ∧ x = 3))
theorem textIs_ex (l : List UInt8) : ∃ r k x, TextIs l r k x := by
  by_cases h : l.length ≤ 4096
  · exact ⟨_, _, _, rfl, .inl ⟨h, rfl, rfl⟩⟩
  · exact ⟨_, _, _, rfl, .inr ⟨by omega, rfl, rfl⟩⟩
theorem ans_of_own {r : List UInt8} {w w' : World} {v : Value} (ho : w'.ownsRow w.heap.size 5 1 v r.length (bc r)) (hb : Below w.heap.size w w') (x : Int) : Ans r r.length x w (.returned (.tuple #[v, .int .i64 x])) w' := by
  obtain ⟨A, c, rfl, h1, h2⟩ := own_slice ho
  exact ⟨A, c, rfl, Rd.of_own ho, h1, h2, hb⟩
theorem ans_nil {w w' : World} (hb : Below w.heap.size w w') (x : Int) : Ans [] 0 x w (.returned (.tuple #[.slice none 0 0, .int .i64 x])) w' :=
  ⟨none, 0, rfl, Rd.nil, Nat.le_refl _, Nat.zero_le _, hb⟩

theorem ans_text {l r : List UInt8} {k : Nat} {x : Int} {w w' : World} {v : Value} {y : Int} (h : TextIs l r k x) (hf : TextFact w' l v y) (hb : Below w.heap.size w w') : Ans r k x w (.returned (.tuple #[v, .int .i64 y])) w' := by
  obtain ⟨rfl, ⟨h1, rfl, rfl⟩ | ⟨h1, rfl, rfl⟩⟩ := h
  · rcases hf with ⟨_, rfl, A, c, rfl, hr, hc, hm⟩ | ⟨h2, _⟩
    · exact ⟨A, c, rfl, hr, hc, hm, hb⟩
    · omega
  · rcases hf with ⟨h2, _⟩ | ⟨_, rfl, rfl⟩
    · omega
    · exact ans_nil hb 3
theorem str_ans {w : World} {A : Option Addr} {n : Nat} {l : List UInt8} (h : Rd w A n (bc l)) (cap : Nat) : (convert 22 9 (.slice A n cap)).run Try.prog w = .ok (.string ⟨l.toArray⟩) w :=
  run_string_of _ _ _ 5 _ _ cap _ Try.underlying22 Try.underlying5 Try.underlying9 h
theorem str_drew {w : World} {A : Option Addr} {n : Nat} {l : List UInt8} (h : Rd w A n (bc l)) (q cap : Nat) : (convert 22 9 (.slice A n cap)).run Try.prog (w.drewN q) = .ok (.string ⟨l.toArray⟩) (w.drewN q) := str_ans (h.drewN q) cap
end Go.Proofs.Ytkdnkaiknmcfmaa
