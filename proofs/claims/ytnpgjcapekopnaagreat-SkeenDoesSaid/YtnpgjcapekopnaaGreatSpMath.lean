/-
  Stamps: which may be, their order, what rises; ids and whose they are. No program.
-/
import Derived.WalkKit
namespace Go.Proofs.YtnpgjcapekopnaaGreat.TM
structure Sp where
  t : Int
  i : Int
deriving DecidableEq
instance : Inhabited Sp := ⟨⟨0, 0⟩⟩
/-- a stamp may be -/
def ok (a : Sp) : Prop := 0 ≤ a.t ∧ a.t ≤ 1073741824 ∧ 0 ≤ a.i ∧ a.i < 6291456
instance (a : Sp) : Decidable (ok a) := by unfold ok; exact inferInstance
def chk (a : Sp) : Int := if ok a then 0 else 8
def lt (a b : Sp) : Prop := a.t < b.t ∨ (a.t = b.t ∧ a.i < b.i)
instance (a b : Sp) : Decidable (lt a b) := by unfold lt; exact inferInstance
def less (a b : Sp) : Bool := decide (lt a b)
/-- each is ahead of the next one -/
def Up (l : List Sp) : Prop := ∀ k a b, l[k]? = some a → l[k + 1]? = some b → less a b = true
def rises : List Sp → Bool
  | a :: b :: r => less a b && rises (b :: r)
  | _ => true
theorem rises_iff : ∀ l : List Sp, rises l = true ↔ Up l
  | [] => by simp [rises, Up]
  | [a] => by
    simp only [rises, true_iff]
    intro k x y h1 h2
    have := (List.getElem?_eq_some_iff.1 h2).1
    simp at this
  | a :: b :: r => by
    have ih := rises_iff (b :: r)
    simp only [rises, Bool.and_eq_true, ih]
    constructor
    · rintro ⟨h0, h⟩ k x y h1 h2
      rcases k with _ | k
      · simp at h1 h2; subst h1 h2; exact h0
      · exact h k x y (by simpa using h1) (by simpa using h2)
    · intro h
      exact ⟨h 0 a b rfl rfl, fun k x y h1 h2 => h (k + 1) x y (by simpa using h1) (by simpa using h2)⟩
theorem less_trans {a b c : Sp} (h1 : less a b = true) (h2 : less b c = true) : less a c = true := by
  simp only [less, decide_eq_true_eq] at *
  unfold lt at *
  omega
theorem less_irrefl (a : Sp) : less a a = false := by simp [less, lt]
theorem less_swap {a b : Sp} (h : a ≠ b) : less b a = !less a b := by
  have h' : a.t ≠ b.t ∨ a.i ≠ b.i := by
    obtain ⟨at_, ai⟩ := a
    obtain ⟨bt, bi⟩ := b
    by_cases e : at_ = bt
    · right; intro e2; exact h (by simp only at e2; rw [e, e2])
    · exact .inl e
  by_cases k : lt a b
  · have : ¬ lt b a := by unfold lt at *; omega
    simp [less, k, this]
  · have : lt b a := by unfold lt at *; omega
    simp [less, k, this]
/-- of what rises each one is ahead of all behind it -/
theorem Up.far {l : List Sp} (h : Up l) {i : Nat} {a : Sp} (ha : l[i]? = some a) : ∀ (d : Nat) (b : Sp), l[i + d + 1]? = some b → less a b = true
  | 0, b, hb => h i a b ha hb
  | d + 1, b, hb => by
    have hl := (List.getElem?_eq_some_iff.1 hb).1
    have hc : l[i + d + 1]? = some l[i + d + 1] := List.getElem?_eq_getElem (by omega)
    exact less_trans (Up.far h ha d _ hc) (h (i + d + 1) _ b hc hb)
theorem Up.less {l : List Sp} (h : Up l) {i k : Nat} {a b : Sp} (ha : l[i]? = some a) (hb : l[k]? = some b) (hik : i < k) : less a b = true := by
  have := h.far ha (k - i - 1) b (by rw [show i + (k - i - 1) + 1 = k by omega]; exact hb)
  exact this
/-- a sender and a number may be -/
def may (s n : Int) : Prop := 0 ≤ s ∧ s < 6 ∧ 0 ≤ n ∧ n < 1048576
instance (s n : Int) : Decidable (may s n) := by unfold may; exact inferInstance
/-- what Id answers -/
def IdIs (s n x e : Int) : Prop := (may s n ∧ x = s * 1048576 + n ∧ e = 0) ∨ (¬ may s n ∧ x = 0 ∧ e = 2)
theorem idIs_ex (s n : Int) : ∃ x e, IdIs s n x e := by
  by_cases h : may s n
  · exact ⟨_, _, .inl ⟨h, rfl, rfl⟩⟩
  · exact ⟨_, _, .inr ⟨h, rfl, rfl⟩⟩
/-- what Of answers -/
def good (i : Int) : Prop := 0 ≤ i ∧ i < 6291456
instance (i : Int) : Decidable (good i) := by unfold good; exact inferInstance
def OfIs (i s n e : Int) : Prop := (good i ∧ s = i / 1048576 ∧ n = i % 1048576 ∧ e = 0) ∨ (¬ good i ∧ s = 0 ∧ n = 0 ∧ e = 2)
theorem ofIs_ex (i : Int) : ∃ s n e, OfIs i s n e := by
  by_cases h : good i
  · exact ⟨_, _, _, .inl ⟨h, rfl, rfl, rfl⟩⟩
  · exact ⟨_, _, _, .inr ⟨h, rfl, rfl, rfl⟩⟩
theorem good_iff (i : Int) (h : 0 ≤ i) : good i ↔ may (i / 1048576) (i % 1048576) := by unfold good may; omega
theorem of_id {s n : Int} (h : may s n) : OfIs (s * 1048576 + n) s n 0 := .inl (by unfold may at h; unfold good; omega)
theorem id_of {i : Int} (h : good i) : IdIs (i / 1048576) (i % 1048576) i 0 := .inl (by unfold good at h; unfold may; omega)
/-- how two numbers are compared -/
def cmpI (a b : Int) : Int := if a < b then -1 else if b < a then 1 else 0
/-- the first number of two that is not 0 -/
def orI (z y : Int) : Int := if z ≠ 0 then z else y
theorem less_cmp (a b : Sp) : decide (orI (cmpI a.t b.t) (cmpI a.i b.i) < 0) = less a b := by
  unfold less
  congr 1
  unfold orI cmpI lt
  apply propext
  split <;> split <;> (try split) <;> (try split) <;> omega
end Go.Proofs.YtnpgjcapekopnaaGreat.TM
