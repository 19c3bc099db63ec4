/-
  What num.Text and num.GetText answer, in one form each (an error and what stands beside it), and at literals. Conditions: as each theorem says.
-/
import Derived.Test.YtohiemdodffhoaaNumA
import Derived.Test.YtohiemdodffhoaaNumG
import Derived.Test.YtohiemdodffhoaaNumT
import Derived.Deep.QuietTactic
import Derived.BigQuiet
import Derived.Deep.DeepCutAuto
namespace Go.Proofs.Ytohiemdodffhoaa
open Go.RowKit
set_option linter.unusedVariables false
set_option maxRecDepth 100000

/-- what Text answers -/
def TextFact (w' : World) (l : List UInt8) (v : Value) (x : Int) : Prop :=
  (l.length ≤ 4096 ∧ x = 0 ∧ ∃ A c, v = .slice A (NM.text l).length c ∧ Rd w' A (NM.text l).length (bc (NM.text l)) ∧ (NM.text l).length ≤ c ∧ c ≤ maxLen) ∨ (4096 < l.length ∧ x = 3 ∧ v = .slice none 0 0)
theorem text_all (l : List UInt8) (w : World) (hl : l.length ≤ 9223372036854775807) :
    Calls Try.prog 66 #[.string ⟨l.toArray⟩] w fun e w' => ∃ v x, e = .returned (.tuple #[v, .int .i64 x]) ∧ TextFact w' l v x ∧ Below w.heap.size w w' := by
  by_cases h : l.length ≤ 4096
  · refine (text_ok ⟨l.toArray⟩ w h).mono ?_
    rintro e w' ⟨v, rfl, ho, hb⟩
    obtain ⟨A, c, rfl, h1, h2⟩ := own_slice ho
    exact ⟨_, 0, rfl, .inl ⟨h, rfl, A, c, rfl, Rd.of_own ho, h1, h2⟩, hb⟩
  · refine (text_no ⟨l.toArray⟩ w (by show 4096 < l.toArray.size; simp; omega)).mono ?_
    rintro e w' ⟨rfl, rfl⟩
    exact ⟨_, 3, rfl, .inr ⟨by omega, rfl, rfl⟩, Below.refl _ _⟩

/-- what GetText answers -/
def GetTextFact (l t : List UInt8) (k : Nat) (x : Int) : Prop := (x = 8 ∧ NM.getText l = none ∧ t = [] ∧ k = 0) ∨ (x = 0 ∧ NM.getText l = some (t, k))
theorem getText_all (A : Option Addr) (n c : Nat) (l : List UInt8) (w : World) (hr : Rd w A n (bc l)) (hnc : n ≤ c) (hm : c ≤ maxLen) :
    Calls Try.prog 88 #[.slice A n c] w fun e w' => ∃ (t : List UInt8) (k : Nat) (x : Int), e = .returned (.tuple #[.string ⟨t.toArray⟩, .int .i64 k, .int .i64 x]) ∧ GetTextFact l t k x ∧ w = w' := by
  refine (getText_any A n c l w hr hnc hm).mono ?_
  rintro e w' ⟨rfl, rfl⟩
  rcases h : NM.getText l with _ | ⟨t, k⟩
  · exact ⟨[], 0, 8, rfl, .inl ⟨rfl, h, rfl, rfl⟩, rfl⟩
  · exact ⟨t, k, 0, rfl, .inr ⟨rfl, h⟩, rfl⟩

theorem str_at {w : World} {A : Option Addr} {n : Nat} {l : List UInt8} (h : Rd w A n (bc l)) (cap : Nat) : (convert 94 9 (.slice A n cap)).run Try.prog w = .ok (.string ⟨l.toArray⟩) w :=
  run_string_of _ _ _ 5 _ _ cap _ Try.underlying94 Try.underlying5 Try.underlying9 h

theorem text_lit (l r : List UInt8) (k : Nat) (w : World) (hl : l.length ≤ 4096) (hr : NM.text l = r) (hk : r.length = k) :
    Calls Try.prog 66 #[.string ⟨l.toArray⟩] w fun e w' => ∃ A c, e = .returned (.tuple #[.slice A k c, .int .i64 0]) ∧ Rd w' A k (bc r) ∧ Below w.heap.size w w' := by
  subst hr
  subst hk
  refine (text_all l w (by omega)).mono ?_
  rintro e w' ⟨v, x, rfl, ⟨_, rfl, A, c, rfl, h1, _⟩ | ⟨h, _, _⟩, hb⟩
  · exact ⟨A, c, rfl, h1, hb⟩
  · omega
end Go.Proofs.Ytohiemdodffhoaa
