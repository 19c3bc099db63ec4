/-
  How many votes there can be (no program): rising places of 4 groups and 200 slots. Conditions: one that may be.
-/
import Derived.Test.YtohiemdodffhoaaStGoes
namespace Go.Proofs.Ytohiemdodffhoaa.SM
set_option linter.unusedVariables false
set_option linter.unusedSimpArgs false
open RM (Rc)

theorem rises_len : ∀ (l : List Sn) (lo : Int), (∀ v ∈ l, lo ≤ v.g * 201 + v.s ∧ v.g * 201 + v.s ≤ 804 ∧ 0 ≤ v.s ∧ v.s ≤ 200) → Rises l → lo ≤ 805 → (l.length : Int) ≤ 805 - lo
  | [], lo, _, _, h => by simp; omega
  | x :: l, lo, h, hr, hlo => by
    have hx := h x (by simp)
    have hr2 := List.pairwise_cons.1 hr
    have ih := rises_len l (x.g * 201 + x.s + 1) (fun v hv => by
      have h1 := h v (List.mem_cons_of_mem _ hv)
      have h2 := hr2.1 v hv
      rw [lt_iff] at h2
      omega) hr2.2 (by omega)
    rw [List.length_cons]
    push_cast
    omega
theorem votes_le {x : Sb} (h : may x) : x.votes.length ≤ 805 := by
  have h4 := h.1.2
  have := rises_len x.votes 0 (fun v hv => by
    obtain ⟨h1, h2, h3, h5, _⟩ := h.2.2.1 v hv
    omega) ((rise_iff _).1 h.2.2.2) (by omega)
  omega
theorem find_mem : ∀ {l : List Sn} {g s : Int}, find l g s = vz ∨ ∃ y ∈ l, y.g = g ∧ y.s = s ∧ find l g s = y.o
  | [], _, _ => .inl rfl
  | y :: l, g, s => by
    rw [find]
    by_cases h : y.g = g ∧ y.s = s
    · rw [if_pos h]; exact .inr ⟨y, by simp, h.1, h.2, rfl⟩
    · rw [if_neg h]
      rcases find_mem (l := l) (g := g) (s := s) with h1 | ⟨z, hz, h1, h2, h3⟩
      · exact .inl h1
      · exact .inr ⟨z, List.mem_cons_of_mem _ hz, h1, h2, h3⟩
/-- a vote there may be -/
theorem find_may {x : Sb} (h : may x) (g s : Int) : VM.may (find x.votes g s).p (find x.votes g s).b (find x.votes g s).v ∧ (find x.votes g s).v.size ≤ 1024 := by
  rcases find_mem (l := x.votes) (g := g) (s := s) with h1 | ⟨y, hy, _, _, h1⟩
  · rw [h1]; exact ⟨⟨.inl rfl, .inl ⟨rfl, rfl⟩⟩, by decide⟩
  · rw [h1]
    have hm := (h.2.2.1 y hy).2.2.2.2.1
    refine ⟨hm, ?_⟩
    rcases hm.2 with ⟨_, h2⟩ | ⟨_, _, _, h2⟩
    · rw [h2]; decide
    · exact h2
/-- values are of lengths that Go has -/
theorem may_logs {x : Sb} (h : may x) : (∀ l ∈ x.logs, l.length ≤ 200) ∧ ∀ l ∈ x.logs, ∀ v ∈ l, v.size ≤ 1024 := ⟨fun l hl => (h.2.1 l hl).1, fun l hl => (h.2.1 l hl).2⟩
end Go.Proofs.Ytohiemdodffhoaa.SM
