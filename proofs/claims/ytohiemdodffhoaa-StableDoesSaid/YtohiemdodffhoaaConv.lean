/-
  '[]byte(s)' (bytes of their own), and what two Reads answer in one form. Conditions: as each theorem says.
-/
import Derived.Test.YtohiemdodffhoaaProg
import Derived.Test.YtohiemdodffhoaaBox
import Derived.Test.YtohiemdodffhoaaRecMath
namespace Go.Proofs.Ytohiemdodffhoaa
open Go.RowKit
set_option linter.unusedVariables false
set_option linter.unusedSimpArgs false

/-- '[]byte(s)': bytes of their own -/
theorem conv_ex (w : World) (s : ByteArray) (hs : s.size ≤ maxLen) : ∃ A c w', (convert 9 94 (.string s)).run Try.prog w = .ok (.slice A s.size c) w' ∧ Rd w' A s.size (bc (RM.bsz s)) ∧ s.size ≤ c ∧ c ≤ maxLen ∧ Below w.heap.size w w' := by
  refine ⟨_, _, _, run_bytes_of_string w 9 94 5 s Try.underlying9 Try.underlying94 Try.underlying5, ?_, grownCap_ge _ _ _ _, grownCap_le_maxLen _ _ _ _ hs, ((Below.refl _ _).drew).alloc (Nat.le_refl _) _⟩
  refine ⟨by rw [bc_length, RM.bsz_len], fun _ => ⟨_, rfl, by simp, fun j u hu => ?_⟩⟩
  have e : (⟨w.heap.size, 0, none⟩ : Addr).add j = ⟨w.heap.size, j, none⟩ := by unfold Addr.add; by_cases hj : j = 0 <;> simp [hj]
  rw [e]
  have h := World.cell?_alloc_mark w.drew (bytesRow s (grownCap w s.size 0 5)) 5 ((bytesRow s (grownCap w s.size 0 5)).size, (bytesRow s (grownCap w s.size 0 5)).size + 1) j
  rw [show w.drew.heap.size = w.heap.size from rfl] at h
  rw [h]
  have hj : j < s.data.size := by
    rcases Nat.lt_or_ge j s.data.size with h | h
    · exact h
    · rw [List.getElem?_eq_none (by rw [bc_length, RM.bsz_len]; exact h)] at hu; cases hu
  unfold bytesRow
  rw [Array.getElem?_append_left (by simpa using hj), ← hu]
  unfold bc RM.bsz
  simp

theorem str_ne {t s : ByteArray} (h : t ≠ s) : (t.toList == s.toList) = false := by
  rw [beq_eq_false_iff_ne]
  intro e
  rw [ByteArray.toList_eq, ByteArray.toList_eq] at e
  exact h (RM.bsz_eq e)
def RcAns (r : RM.Rc) (e : Int) (w : World) (e' : Ending) (w' : World) : Prop :=
  e' = .returned (.tuple #[.agg #[.int .u8 r.k, .int .i64 r.g, .int .i64 r.s, .int .i64 r.b, .string r.v], .int .i64 e]) ∧ Below w.heap.size w w'

end Go.Proofs.Ytohiemdodffhoaa
