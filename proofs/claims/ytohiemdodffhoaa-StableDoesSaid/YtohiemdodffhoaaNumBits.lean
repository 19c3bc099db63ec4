/-
  Masks and shifts on ints that are not negative. No program.
-/
import Derived.WalkKit
import Derived.Laws.BitsLemmas
import Derived.IntWalk
namespace Go.Proofs.Ytohiemdodffhoaa.NB

theorem wraps63 (n : Int) (h₀ : 0 ≤ n) (h₁ : n < 2 ^ 63) : IntKind.i64.wrap n = n := by rw [IntKind.wrap_i64]; omega

theorem and127 (m : Nat) (h : m < 9223372036854775808) : bits .and .i64 (m : Int) 127 = ((m % 128 : Nat) : Int) := by
  have e := bits_mask .i64 63 (by decide) wraps63 7 (by decide) (m : Int) (by omega) (by omega)
  have e1 : ((2 : Int) ^ 7 - 1) = 127 := by decide
  have e2 : ((2 : Int) ^ 7) = 128 := by decide
  rw [e1, e2] at e
  rw [e]; omega
theorem or128 (x : Nat) (h : x < 128) : bits .or .i64 (x : Int) 128 = ((x + 128 : Nat) : Int) := by
  have e := (bits_nat .i64 63 (by decide) wraps63 x 128 (by omega) (by decide)).2
  rw [show ((128 : Nat) : Int) = 128 from rfl] at e
  rw [e]
  congr 1
  have := Nat.two_pow_add_eq_or_of_lt (i := 7) (b := x) (by omega) 1
  rw [Nat.or_comm]
  simp only [Nat.reducePow, Nat.mul_one] at this
  omega
theorem and128 (x : Nat) (h : x < 256) : bits .and .i64 (x : Int) 128 = if x < 128 then 0 else 128 := by
  have e := (bits_nat .i64 63 (by decide) wraps63 x 128 (by omega) (by decide)).1
  rw [show ((128 : Nat) : Int) = 128 from rfl] at e
  rw [e]
  have h2 : ∀ y : Fin 256, ((y.val &&& 128 : Nat) : Int) = if y.val < 128 then 0 else 128 := by decide +kernel
  exact h2 ⟨x, h⟩
/-- lower bits, and higher ones -/
theorem or_add (a b k : Nat) (ha : a < 128 ^ k) (hb : b < 128) (hk : k < 6) : bits .or .i64 (a : Int) ((128 ^ k * b : Nat) : Int) = ((a + 128 ^ k * b : Nat) : Int) := by
  have hp : 128 ^ k = 2 ^ (7 * k) := by rw [Nat.pow_mul]
  have hle : (128 : Nat) ^ k ≤ 128 ^ 5 := Nat.pow_le_pow_right (by omega) (by omega)
  have hm : 128 ^ k * b < 9223372036854775808 := by
    have : 128 ^ k * b ≤ 128 ^ 5 * 127 := Nat.mul_le_mul hle (by omega)
    omega
  have e := (bits_nat .i64 63 (by decide) wraps63 a (128 ^ k * b) (by omega) (by omega)).2
  rw [e]
  congr 1
  rw [hp] at ha ⊢
  rw [Nat.or_comm, ← Nat.two_pow_add_eq_or_of_lt ha]
  omega
theorem shl_wrap (x k : Nat) (hx : x < 128) (hk : k < 6) : RowKit.wrap64 ((x : Int) * 2 ^ (7 * k)) = ((128 ^ k * x : Nat) : Int) := by
  have hp : (128 : Nat) ^ k = 2 ^ (7 * k) := by rw [Nat.pow_mul]
  have hle : (128 : Nat) ^ k ≤ 128 ^ 5 := Nat.pow_le_pow_right (by omega) (by omega)
  have hm : 128 ^ k * x < 9223372036854775808 := by
    have : 128 ^ k * x ≤ 128 ^ 5 * 127 := Nat.mul_le_mul hle (by omega)
    omega
  have e : ((x : Int) * 2 ^ (7 * k)) = ((128 ^ k * x : Nat) : Int) := by
    rw [hp]; push_cast; exact Int.mul_comm _ _
  rw [e, IntWalk.wrap64_in _ ⟨by omega, by omega⟩]
theorem mul_wrap (x k : Nat) (hx : x < 128) (hk : k < 6) : RowKit.wrap64 ((x : Int) * ((128 ^ k : Nat) : Int)) = ((128 ^ k * x : Nat) : Int) := by
  have hle : (128 : Nat) ^ k ≤ 128 ^ 5 := Nat.pow_le_pow_right (by omega) (by omega)
  have hm : 128 ^ k * x < 9223372036854775808 := by
    have : 128 ^ k * x ≤ 128 ^ 5 * 127 := Nat.mul_le_mul hle (by omega)
    omega
  generalize 128 ^ k = U at hm
  have e : ((x : Int) * (U : Int)) = ((U * x : Nat) : Int) := by push_cast; exact Int.mul_comm _ _
  rw [e, IntWalk.wrap64_in _ ⟨by omega, by omega⟩]
theorem neq128 (p : Nat) (h : p < 256) : (bits .and .i64 (p : Int) 128 != 0) = decide (128 ≤ p) := by
  rw [and128 p h]
  by_cases hp : p < 128
  · rw [if_pos hp]; simp; omega
  · rw [if_neg hp]; simp; omega
end Go.Proofs.Ytohiemdodffhoaa.NB
