/-
  What follows of what votes come to: of PrepIs and AccIs. Conditions: as each theorem says.
-/
import Derived.Test.YtgdelnegameapaaVoteMath
namespace VM
theorem prep_bad {p b : Int} {s : ByteArray} {k x y : Int} {t : ByteArray} {e : Int} (h : PrepIs p b s k x y t e) (n : ¬ (may p b s ∧ BM.good k)) : e ≠ 0 ∧ zero x y t := by
  obtain ⟨hw, h⟩ := h
  have he : e ≠ 0 := by rintro rfl; have := wrong_zero.1 hw; exact n ⟨this.1, this.2.1⟩
  rcases h with h | h
  · exact h
  · exact absurd h.1 he
theorem acc_bad {p b : Int} {s : ByteArray} {k : Int} {v : ByteArray} {x y : Int} {t : ByteArray} {e : Int} (h : AccIs p b s k v x y t e) (n : ¬ (may p b s ∧ BM.good k)) : e ≠ 0 ∧ zero x y t := by
  obtain ⟨hw, h⟩ := h
  have he : e ≠ 0 := by rintro rfl; have := wrong_zero.1 hw; exact n ⟨this.1, this.2.1⟩
  rcases h with h | h
  · exact h
  · exact absurd h.1 he
theorem prep_good {p b : Int} {s : ByteArray} {k x y : Int} {t : ByteArray} {e : Int} (h : PrepIs p b s k x y t e) (hm : may p b s) (hk : BM.good k) (hp : p ≤ k) : x = k ∧ y = b ∧ t = s ∧ e = 0 := by
  obtain ⟨hw, h⟩ := h
  have he : e = 0 := by
    rcases hw with ⟨n, _⟩ | ⟨_, n, _⟩ | ⟨_, _, n, _⟩ | ⟨_, _, _, n, _⟩ | ⟨_, _, _, _, h⟩
    · exact absurd hm n
    · exact absurd hk n
    · exact absurd n (by decide)
    · omega
    · exact h
  rcases h with h | ⟨_, h1, h2, h3⟩
  · exact absurd he h.1
  · exact ⟨h1, h2, h3, he⟩
theorem prep_old {p b : Int} {s : ByteArray} {k x y : Int} {t : ByteArray} {e : Int} (h : PrepIs p b s k x y t e) (hm : may p b s) (hk : BM.good k) (hp : k < p) : e = 70 ∧ zero x y t := by
  obtain ⟨hw, h⟩ := h
  have he : e = 70 := by
    rcases hw with ⟨n, _⟩ | ⟨_, n, _⟩ | ⟨_, _, n, _⟩ | ⟨_, _, _, _, n⟩ | ⟨_, _, _, h, _⟩
    · exact absurd hm n
    · exact absurd hk n
    · exact absurd n (by decide)
    · exact n
    · omega
  rcases h with h | h
  · exact ⟨he, h.2⟩
  · omega
theorem acc_good {p b : Int} {s : ByteArray} {k : Int} {v : ByteArray} {x y : Int} {t : ByteArray} {e : Int} (h : AccIs p b s k v x y t e) (hm : may p b s) (hk : BM.good k) (hv : v.size ≤ 1024) (hp : p ≤ k) : k = x ∧ x = y ∧ v = t ∧ e = 0 := by
  obtain ⟨hw, h⟩ := h
  have he : e = 0 := by
    rcases hw with ⟨n, _⟩ | ⟨_, n, _⟩ | ⟨_, _, n, _⟩ | ⟨_, _, _, n, _⟩ | ⟨_, _, _, _, h⟩
    · exact absurd hm n
    · exact absurd hk n
    · omega
    · omega
    · exact h
  rcases h with h | ⟨_, h1, h2, h3⟩
  · exact absurd he h.1
  · exact ⟨h1.symm, by rw [h1, h2], h3.symm, he⟩
theorem acc_long {p b : Int} {s : ByteArray} {k : Int} {v : ByteArray} {x y : Int} {t : ByteArray} {e : Int} (h : AccIs p b s k v x y t e) (hm : may p b s) (hk : BM.good k) (hv : 1024 < v.size) : e = 3 ∧ zero x y t := by
  obtain ⟨hw, h⟩ := h
  have he : e = 3 := by
    rcases hw with ⟨n, _⟩ | ⟨_, n, _⟩ | ⟨_, _, _, n⟩ | ⟨_, _, n, _⟩ | ⟨_, _, n, _⟩
    · exact absurd hm n
    · exact absurd hk n
    · exact n
    · omega
    · omega
  rcases h with h | h
  · exact ⟨he, h.2⟩
  · omega
theorem acc_old {p b : Int} {s : ByteArray} {k : Int} {v : ByteArray} {x y : Int} {t : ByteArray} {e : Int} (h : AccIs p b s k v x y t e) (_ : may p b s) (_ : BM.good k) (hp : k < p) : e ≠ 0 ∧ zero x y t := by
  obtain ⟨hw, h⟩ := h
  have he : e ≠ 0 := by rintro rfl; have := (wrong_zero.1 hw).2.2.2; omega
  rcases h with h | h
  · exact ⟨he, h.2⟩
  · omega
theorem may_le {p b k : Int} {s : ByteArray} (h : may p b s) (hp : p ≤ k) (hk : 8 ≤ k) : b ≤ k := by
  rcases h.2 with h | h
  · omega
  · have := h.2.2.1; omega
theorem prep_again {b : Int} {s : ByteArray} {k : Int} (h : may k b s) (hk : BM.good k) : PrepIs k b s k k b s 0 :=
  ⟨wrong_zero.2 ⟨h, hk, by decide, Int.le_refl _⟩, .inr ⟨rfl, rfl, rfl, rfl⟩⟩
theorem acc_again {k : Int} {v : ByteArray} (hk : BM.good k) (hv : v.size ≤ 1024) : AccIs k k v k v k k v 0 :=
  ⟨wrong_zero.2 ⟨may_acc hk hv, hk, hv, Int.le_refl _⟩, .inr ⟨rfl, rfl, rfl, rfl⟩⟩
end VM
