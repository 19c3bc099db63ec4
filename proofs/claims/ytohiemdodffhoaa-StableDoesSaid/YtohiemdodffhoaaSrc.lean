/-
  Bytes that lie ahead of a variable's block. No program.
-/
import Derived.Test.YtohiemdodffhoaaBox
namespace Go.Proofs.Ytohiemdodffhoaa
open Go.RowKit
set_option linter.unusedVariables false

/-- bytes that lie ahead of block g -/
def Src (w : World) (g : Nat) (A : Option Addr) (n c : Nat) (l : List UInt8) : Prop := Rd w A n (bc l) ∧ n ≤ c ∧ c ≤ maxLen ∧ (∀ ad, A = some ad → 0 < n → ad.block < g)
theorem Src.below {w w' : World} {g : Nat} {A : Option Addr} {n c : Nat} {l : List UInt8} (h : Src w g A n c l) (hb : Below g w w') : Src w' g A n c l :=
  ⟨⟨h.1.1, fun hn => by
    obtain ⟨ad, e, hB, hc⟩ := h.1.2 hn
    exact ⟨ad, e, Nat.lt_of_lt_of_le hB hb.size, fun j u hu => (hb.cell (by rw [block_of_add]; exact h.2.2.2 ad e hn)).trans (hc j u hu)⟩⟩, h.2⟩
theorem Src.cut {w : World} {g : Nat} {A : Option Addr} {n c k : Nat} {l : List UInt8} (h : Src w g A n c l) (hk : k ≤ n) : Src w g (if c = k then A else A.map (fun x => x.add k)) (n - k) (c - k) (l.drop k) := by
  obtain ⟨h1, h2, h3, h4⟩ := h
  refine ⟨by rw [← bc_drop]; exact h1.cut hk h2, by omega, by omega, fun ad e hn => ?_⟩
  by_cases hck : c = k
  · omega
  · rw [if_neg hck] at e
    rcases A with _ | a
    · cases e
    · simp at e
      subst e
      rw [block_of_add]
      exact h4 a rfl (by omega)
theorem src_len {w : World} {g : Nat} {A : Option Addr} {n c : Nat} {l : List UInt8} (h : Src w g A n c l) : l.length = n := by have := h.1.1; rwa [bc_length] at this
theorem src_new {w : World} {A : Option Addr} {n c : Nat} {l : List UInt8} (h : Rd w A n (bc l)) (h1 : n ≤ c) (h2 : c ≤ maxLen) : Src w w.heap.size A n c l :=
  ⟨h, h1, h2, fun ad e hn => by obtain ⟨a, e2, hb, _⟩ := h.2 hn; rw [e] at e2; injection e2 with e2; rw [e2]; exact hb⟩

end Go.Proofs.Ytohiemdodffhoaa
