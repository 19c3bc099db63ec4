/-
  What votes come to, in plain numbers and bytes: whether a vote may be, what Prepare and Accept answer. Conditions: as each theorem says.
-/
import Derived.Test.YtohiemdodffhoaaBallotMath
namespace VM
/-- what was promised may be -/
def okP (p : Int) : Prop := p = 0 ∨ BM.good p
/-- what was accepted may be -/
def okA (p b : Int) (s : ByteArray) : Prop := (b = 0 ∧ s = .empty) ∨ (b ≠ 0 ∧ BM.good b ∧ b ≤ p ∧ s.size ≤ 1024)
def may (p b : Int) (s : ByteArray) : Prop := okP p ∧ okA p b s
def zero (x y : Int) (t : ByteArray) : Prop := x = 0 ∧ y = 0 ∧ t = .empty
/-- what is wrong with what a vote is asked -/
def WrongIs (p b : Int) (s : ByteArray) (k : Int) (v : ByteArray) (e : Int) : Prop :=
  (¬ may p b s ∧ e = 8) ∨ (may p b s ∧ ¬ BM.good k ∧ e = 50) ∨ (may p b s ∧ BM.good k ∧ 1024 < v.size ∧ e = 3) ∨ (may p b s ∧ BM.good k ∧ v.size ≤ 1024 ∧ k < p ∧ e = 70) ∨ (may p b s ∧ BM.good k ∧ v.size ≤ 1024 ∧ p ≤ k ∧ e = 0)
def PrepIs (p b : Int) (s : ByteArray) (k x y : Int) (t : ByteArray) (e : Int) : Prop :=
  WrongIs p b s k .empty e ∧ ((e ≠ 0 ∧ zero x y t) ∨ (e = 0 ∧ x = k ∧ y = b ∧ t = s))
def AccIs (p b : Int) (s : ByteArray) (k : Int) (v : ByteArray) (x y : Int) (t : ByteArray) (e : Int) : Prop :=
  WrongIs p b s k v e ∧ ((e ≠ 0 ∧ zero x y t) ∨ (e = 0 ∧ x = k ∧ y = k ∧ t = v))
theorem wrongIs_ex (p b : Int) (s : ByteArray) (k : Int) (v : ByteArray) : ∃ e, WrongIs p b s k v e := by
  by_cases h : may p b s
  · by_cases h1 : BM.good k
    · by_cases h2 : v.size ≤ 1024
      · by_cases h3 : p ≤ k
        · exact ⟨_, .inr (.inr (.inr (.inr ⟨h, h1, h2, h3, rfl⟩)))⟩
        · exact ⟨_, .inr (.inr (.inr (.inl ⟨h, h1, h2, by omega, rfl⟩)))⟩
      · exact ⟨_, .inr (.inr (.inl ⟨h, h1, by omega, rfl⟩))⟩
    · exact ⟨_, .inr (.inl ⟨h, h1, rfl⟩)⟩
  · exact ⟨_, .inl ⟨h, rfl⟩⟩
theorem prepIs_ex (p b : Int) (s : ByteArray) (k : Int) : ∃ x y t e, PrepIs p b s k x y t e := by
  obtain ⟨e, h⟩ := wrongIs_ex p b s k .empty
  by_cases he : e = 0
  · exact ⟨_, _, _, _, h, .inr ⟨he, rfl, rfl, rfl⟩⟩
  · exact ⟨_, _, _, _, h, .inl ⟨he, rfl, rfl, rfl⟩⟩
theorem accIs_ex (p b : Int) (s : ByteArray) (k : Int) (v : ByteArray) : ∃ x y t e, AccIs p b s k v x y t e := by
  obtain ⟨e, h⟩ := wrongIs_ex p b s k v
  by_cases he : e = 0
  · exact ⟨_, _, _, _, h, .inr ⟨he, rfl, rfl, rfl⟩⟩
  · exact ⟨_, _, _, _, h, .inl ⟨he, rfl, rfl, rfl⟩⟩
/-- what is right with what is asked -/
theorem wrong_zero {p b : Int} {s : ByteArray} {k : Int} {v : ByteArray} : WrongIs p b s k v 0 ↔ may p b s ∧ BM.good k ∧ v.size ≤ 1024 ∧ p ≤ k := by
  unfold WrongIs; constructor
  · rintro (⟨_, h⟩ | ⟨_, _, h⟩ | ⟨_, _, _, h⟩ | ⟨_, _, _, _, h⟩ | ⟨h1, h2, h3, h4, _⟩)
    · exact absurd h (by decide)
    · exact absurd h (by decide)
    · exact absurd h (by decide)
    · exact absurd h (by decide)
    · exact ⟨h1, h2, h3, h4⟩
  · rintro ⟨h1, h2, h3, h4⟩; exact .inr (.inr (.inr (.inr ⟨h1, h2, h3, h4, rfl⟩)))
theorem may_prep {p b : Int} {s : ByteArray} {k : Int} (h : may p b s) (hk : BM.good k) (hp : p ≤ k) : may k b s := by
  obtain ⟨_, h⟩ := h
  refine ⟨.inr hk, ?_⟩
  rcases h with h | ⟨h1, h2, h3, h4⟩
  · exact .inl h
  · exact .inr ⟨h1, h2, by omega, h4⟩
theorem may_acc {k : Int} {v : ByteArray} (hk : BM.good k) (hv : v.size ≤ 1024) : may k k v :=
  ⟨.inr hk, .inr ⟨by unfold BM.good at hk; omega, hk, Int.le_refl _, hv⟩⟩
end VM
