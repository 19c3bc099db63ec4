/-
  What ballots come to, in plain numbers: MakeIs, OfIs, NextIs. Conditions: as each theorem says.
-/
namespace BM
/-- round r and node n may be -/
def ok (r n : Int) : Prop := 1 ≤ r ∧ r ≤ 1048576 ∧ 0 ≤ n ∧ n < 6
def MakeIs (r n x e : Int) : Prop := (ok r n ∧ x = r * 8 + n ∧ e = 0) ∨ (¬ ok r n ∧ x = 0 ∧ e = 2)
def good (b : Int) : Prop := 8 ≤ b ∧ b ≤ 8388613 ∧ b % 8 < 6
def OfIs (b r n e : Int) : Prop := (good b ∧ r = b / 8 ∧ n = b % 8 ∧ e = 0) ∨ (¬ good b ∧ r = 0 ∧ n = 0 ∧ e = 50)
def asks (a n : Int) : Prop := 0 ≤ n ∧ n < 6 ∧ 0 ≤ a ∧ a ≤ 8388613
/-- the round of what comes next -/
def rnd (a n : Int) : Int := if a < 8 then 1 else if n ≤ a % 8 then a / 8 + 1 else a / 8
def NextIs (a n x e : Int) : Prop :=
  (asks a n ∧ rnd a n ≤ 1048576 ∧ x = rnd a n * 8 + n ∧ e = 0) ∨ (asks a n ∧ 1048576 < rnd a n ∧ x = 0 ∧ e = 9) ∨ (¬ asks a n ∧ x = 0 ∧ e = 2)

theorem rnd_pos (a n : Int) : 1 ≤ rnd a n := by
  unfold rnd; split
  · omega
  · split <;> omega
theorem makeIs_ex (r n : Int) : ∃ x e, MakeIs r n x e := by
  by_cases h : ok r n
  · exact ⟨_, _, .inl ⟨h, rfl, rfl⟩⟩
  · exact ⟨_, _, .inr ⟨h, rfl, rfl⟩⟩
theorem ofIs_ex (b : Int) : ∃ r n e, OfIs b r n e := by
  by_cases h : good b
  · exact ⟨_, _, _, .inl ⟨h, rfl, rfl, rfl⟩⟩
  · exact ⟨_, _, _, .inr ⟨h, rfl, rfl, rfl⟩⟩
theorem nextIs_ex (a n : Int) : ∃ x e, NextIs a n x e := by
  by_cases h : asks a n
  · by_cases h2 : rnd a n ≤ 1048576
    · exact ⟨_, _, .inl ⟨h, h2, rfl, rfl⟩⟩
    · exact ⟨_, _, .inr (.inl ⟨h, by omega, rfl, rfl⟩)⟩
  · exact ⟨_, _, .inr (.inr ⟨h, rfl, rfl⟩)⟩
theorem good_iff (b : Int) (h : 0 ≤ b) : good b ↔ ok (b / 8) (b % 8) := by unfold good ok; omega
theorem of_make {r n : Int} (h : ok r n) : OfIs (r * 8 + n) r n 0 := by
  unfold ok at h
  exact .inl ⟨⟨by omega, by omega, by omega⟩, by omega, by omega, rfl⟩
theorem ofIs_err {b r n e : Int} (h : OfIs b r n e) : e = 0 ∨ e = 50 := by
  rcases h with ⟨_, _, _, h⟩ | ⟨_, _, _, h⟩ <;> simp [h]
/-- what comes next: as the stage's theorem has it -/
theorem next_good {a n x : Int} (h : NextIs a n x 0) : OfIs x (rnd a n) n 0 ∧ a < x ∧ x ≤ a + 16 ∧ a ≤ 8388613 ∧ 0 ≤ a := by
  rcases h with ⟨⟨h1, h2, h3, h4⟩, h5, h6, _⟩ | ⟨_, _, _, h⟩ | ⟨_, _, h⟩
  · have hr : 1 ≤ rnd a n := rnd_pos a n
    subst h6
    refine ⟨of_make ⟨hr, h5, h1, h2⟩, ?_, ?_, h4, h3⟩ <;> (unfold rnd; (repeat' split) <;> omega)
  · omega
  · omega
theorem next_least {a n x b r m : Int} (h : NextIs a n x 0) (hb : OfIs b r m 0) (hm : m = n) (hab : a < b) : x ≤ b := by
  rcases h with ⟨⟨h1, h2, h3, h4⟩, h5, h6, _⟩ | ⟨_, _, _, h⟩ | ⟨_, _, h⟩
  · rcases hb with ⟨⟨g1, g2, g3⟩, g4, g5, _⟩ | ⟨_, _, _, h⟩
    · subst h6
      unfold rnd; split
      · omega
      · split <;> omega
    · omega
  · omega
  · omega
theorem make_next {a n x y : Int} (h : NextIs a n x y) (ha : asks a n) : ∃ z u, MakeIs (rnd a n) n z u ∧ ((u = 0 ∧ x = z ∧ y = 0) ∨ (u = 2 ∧ x = 0 ∧ y = 9)) := by
  have hr := rnd_pos a n
  have h1 := ha.1
  have h2 := ha.2.1
  rcases h with ⟨_, h5, h6, h7⟩ | ⟨_, h5, h6, h7⟩ | ⟨h, _⟩
  · exact ⟨_, _, .inl ⟨⟨hr, h5, h1, h2⟩, rfl, rfl⟩, .inl ⟨rfl, h6, h7⟩⟩
  · exact ⟨_, _, .inr ⟨fun g => by have := g.2.1; omega, rfl, rfl⟩, .inr ⟨rfl, h6, h7⟩⟩
  · exact absurd ha h
end BM
