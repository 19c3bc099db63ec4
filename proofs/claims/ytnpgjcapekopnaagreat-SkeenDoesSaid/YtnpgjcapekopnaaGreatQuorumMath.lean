/-
  Members, majorities, as mathematics: lists of ints that rise, sets of bits, how many of a list are in another one. No program.
-/
import Derived.WalkKit
import Derived.Lib.BitFns
namespace Go.Proofs.YtnpgjcapekopnaaGreat.QM
set_option linter.unusedVariables false

/-- each is above the one ahead, and below 6 -/
def rise : Int → List Int → Bool
  | _, [] => true
  | p, x :: l => decide (p < x) && (decide (x < 6) && rise x l)
def may (l : List Int) : Bool := decide (1 ≤ l.length) && (decide (l.length ≤ 6) && rise (-1) l)
/-- what Check answers -/
def ChkIs (l : List Int) (y : Int) : Prop := (6 < l.length ∧ y = 4) ∨ (l.length ≤ 6 ∧ may l = false ∧ y = 60) ∨ (may l = true ∧ y = 0)
theorem chkIs_ex (l : List Int) : ∃ y, ChkIs l y := by
  by_cases h : 6 < l.length
  · exact ⟨4, .inl ⟨h, rfl⟩⟩
  · by_cases hm : may l = true
    · exact ⟨0, .inr (.inr ⟨hm, rfl⟩)⟩
    · exact ⟨60, .inr (.inl ⟨by omega, by simpa using hm, rfl⟩)⟩
theorem may_len {l : List Int} (h : may l = true) : 1 ≤ l.length ∧ l.length ≤ 6 ∧ rise (-1) l = true := by
  unfold may at h
  simpa [Bool.and_eq_true] using h
theorem chkIs_cases {l : List Int} {y : Int} (h : ChkIs l y) : (y = 0 ∧ may l = true) ∨ (may l = false ∧ (y = 4 ∨ y = 60)) := by
  rcases h with ⟨h, rfl⟩ | ⟨_, h, rfl⟩ | ⟨h, rfl⟩
  · refine .inr ⟨?_, .inl rfl⟩
    rcases hm : may l with _ | _
    · rfl
    · have := (may_len hm).2.1; omega
  · exact .inr ⟨h, .inr rfl⟩
  · exact .inl ⟨rfl, h⟩
theorem chkIs_eq {l : List Int} {y z : Int} (h : ChkIs l y) (k : ChkIs l z) : y = z := by
  rcases h with ⟨h, rfl⟩ | ⟨h0, h, rfl⟩ | ⟨h, rfl⟩ <;> rcases k with ⟨k, rfl⟩ | ⟨k0, k, rfl⟩ | ⟨k, rfl⟩ <;> first | rfl | omega | (rw [h] at k; cases k) | (have := (may_len k).2.1; omega) | (have := (may_len h).2.1; omega)

/-- what Need answers -/
def NeedIs (l : List Int) (x y : Int) : Prop := ChkIs l y ∧ ((y = 0 ∧ x = l.length / 2 + 1) ∨ (y ≠ 0 ∧ x = 0))
theorem needIs_ex (l : List Int) : ∃ x y, NeedIs l x y := by
  obtain ⟨y, h⟩ := chkIs_ex l
  by_cases h0 : y = 0
  · exact ⟨_, y, h, .inl ⟨h0, rfl⟩⟩
  · exact ⟨0, y, h, .inr ⟨h0, rfl⟩⟩

/-- is a number one of a list? -/
def has (l : List Int) (x : Int) : Bool := decide (x ∈ l)
/-- how many of m are in n -/
def cnt (m n : List Int) : Nat := (m.filter (has n)).length
/-- what Most answers -/
def MostIs (m n : List Int) (b : Bool) (y : Int) : Prop :=
  (ChkIs m y ∧ y ≠ 0 ∧ b = false) ∨ (ChkIs m 0 ∧ 1000 < n.length ∧ b = false ∧ y = 4) ∨ (ChkIs m 0 ∧ n.length ≤ 1000 ∧ b = decide (m.length / 2 + 1 ≤ cnt m n) ∧ y = 0)
theorem mostIs_ex (m n : List Int) : ∃ b y, MostIs m n b y := by
  obtain ⟨y, h⟩ := chkIs_ex m
  by_cases h0 : y = 0
  · subst h0
    by_cases h1 : 1000 < n.length
    · exact ⟨false, 4, .inr (.inl ⟨h, h1, rfl, rfl⟩)⟩
    · exact ⟨_, 0, .inr (.inr ⟨h, by omega, rfl, rfl⟩)⟩
  · exact ⟨false, y, .inl ⟨h, h0, rfl⟩⟩
def within (m r : List Int) : Bool := m.all (has r)
/-- what CheckGroup answers of a roster and members -/
def GrpIs (r m : List Int) (y : Int) : Prop :=
  (ChkIs r y ∧ y ≠ 0) ∨ (ChkIs r 0 ∧ ChkIs m y ∧ y ≠ 0) ∨ (ChkIs r 0 ∧ ChkIs m 0 ∧ y = if within m r then 0 else 60)
theorem grpIs_ex (r m : List Int) : ∃ y, GrpIs r m y := by
  obtain ⟨y, h⟩ := chkIs_ex r
  by_cases h0 : y = 0
  · subst h0
    obtain ⟨z, k⟩ := chkIs_ex m
    by_cases k0 : z = 0
    · subst k0
      exact ⟨_, .inr (.inr ⟨h, k, rfl⟩)⟩
    · exact ⟨z, .inr (.inl ⟨h, k, k0⟩)⟩
  · exact ⟨y, .inl ⟨h, h0⟩⟩

-- the elements of a list that rises
theorem rise_lt : ∀ {p : Int} {l : List Int}, rise p l = true → ∀ x ∈ l, p < x ∧ x < 6
  | _, [], _, x, hx => by simp at hx
  | p, y :: l, h, x, hx => by
    simp only [rise, Bool.and_eq_true, decide_eq_true_eq] at h
    rcases List.mem_cons.1 hx with rfl | hx
    · exact ⟨h.1, h.2.1⟩
    · have := rise_lt h.2.2 x hx; omega
theorem rise_nodup : ∀ {p : Int} {l : List Int}, rise p l = true → l.Nodup
  | _, [], _ => List.nodup_nil
  | p, y :: l, h => by
    simp only [rise, Bool.and_eq_true, decide_eq_true_eq] at h
    refine List.nodup_cons.2 ⟨fun hm => ?_, rise_nodup h.2.2⟩
    have := (rise_lt h.2.2 y hm).1
    omega

-- a set of bits
def add (s : Nat) (x : Int) : Nat := if 0 ≤ x ∧ x < 6 then s ||| 2 ^ x.toNat else s
def setF (s : Nat) (l : List Int) : Nat := l.foldl add s
theorem two_lt {k : Nat} (h : k < 6) : 2 ^ k < 64 := by
  have : 2 ^ k < 2 ^ 6 := Nat.pow_lt_pow_right (by omega) h
  omega
theorem add_lt {s : Nat} {x : Int} (h : s < 64) : add s x < 64 := by
  unfold add
  split
  · exact Nat.or_lt_two_pow (n := 6) h (two_lt (by omega))
  · exact h
theorem setF_lt : ∀ {l : List Int} {s : Nat}, s < 64 → setF s l < 64
  | [], s, h => h
  | x :: l, s, h => setF_lt (l := l) (add_lt (x := x) h)
theorem add_bit (s : Nat) (x : Int) (k : Nat) (hk : k < 6) : (add s x).testBit k = (s.testBit k || decide ((k : Int) = x)) := by
  unfold add
  split
  · rename_i h
    rw [Nat.testBit_or, Nat.testBit_two_pow]
    congr 1
    rw [Bool.eq_iff_iff]
    simp
    omega
  · rename_i h
    have : ¬ (k : Int) = x := by omega
    simp [this]
theorem setF_bit : ∀ (l : List Int) (s k : Nat), k < 6 → (setF s l).testBit k = (s.testBit k || has l k)
  | [], s, k, _ => by simp [setF, has]
  | x :: l, s, k, hk => by
    have h := setF_bit l (add s x) k hk
    show (setF (add s x) l).testBit k = _
    rw [h, add_bit s x k hk]
    unfold has
    by_cases h1 : (k : Int) = x <;> by_cases h2 : (k : Int) ∈ l <;> simp [h1, h2]
def set (l : List Int) : Nat := setF 0 l
theorem set_lt (l : List Int) : set l < 64 := setF_lt (by omega)
theorem set_bit (l : List Int) (k : Nat) (hk : k < 6) : (set l).testBit k = has l k := by
  rw [set, setF_bit l 0 k hk]; simp
theorem setF_snoc (s : Nat) (l : List Int) (x : Int) : setF s (l ++ [x]) = add (setF s l) x := by simp [setF]

/-- six flags, counted -/
def six (f : Nat → Bool) : Nat := (f 0).toNat + (f 1).toNat + (f 2).toNat + (f 3).toNat + (f 4).toNat + (f 5).toNat
theorem ones_six (x : Nat) (h : x < 64) : Lib.onesCount x = six x.testBit := by
  have : ∀ y : Fin 64, Lib.onesCount y.val = six y.val.testBit := by decide +kernel
  exact this ⟨x, h⟩
theorem six_congr {f g : Nat → Bool} (h : ∀ k, k < 6 → f k = g k) : six f = six g := by
  unfold six
  rw [h 0 (by omega), h 1 (by omega), h 2 (by omega), h 3 (by omega), h 4 (by omega), h 5 (by omega)]
theorem count_six (f : Int → Bool) : ∀ (l : List Int) (p : Int), -1 ≤ p → rise p l = true → (l.filter f).length = six (fun k => has l k && f k)
  | [], p, _, _ => by simp [six, has]
  | x :: l, p, hp, h => by
    have h' := h
    simp only [rise, Bool.and_eq_true, decide_eq_true_eq] at h'
    obtain ⟨h1, h2, h3⟩ := h'
    have ih := count_six f l x (by omega) h3
    have hx : has l x = false := by
      unfold has
      rw [decide_eq_false_iff_not]
      intro hm
      have := (rise_lt h3 x hm).1
      omega
    have hc : ∀ k : Nat, has (x :: l) k = (decide ((k : Int) = x) || has l k) := by
      intro k
      unfold has
      by_cases e1 : (k : Int) = x <;> by_cases e2 : (k : Int) ∈ l <;> simp [e1, e2]
    have hlen : ((x :: l).filter f).length = (f x).toNat + (l.filter f).length := by
      rw [List.filter_cons]
      rcases f x with _ | _ <;> simp [Nat.add_comm]
    rw [hlen, ih]
    simp only [hc]
    obtain ⟨n, rfl⟩ : ∃ n : Nat, x = n := ⟨x.toNat, by omega⟩
    have hn : n < 6 := by omega
    unfold six
    rcases (show n = 0 ∨ n = 1 ∨ n = 2 ∨ n = 3 ∨ n = 4 ∨ n = 5 by omega) with rfl | rfl | rfl | rfl | rfl | rfl <;>
      (simp at hx ⊢; simp [hx]; omega)
theorem ones_cnt {m n : List Int} (h : rise (-1) m = true) : Lib.onesCount (set m &&& set n) = cnt m n := by
  have hlt : set m &&& set n < 64 := Nat.lt_of_le_of_lt Nat.and_le_left (set_lt m)
  rw [ones_six _ hlt, cnt, count_six (has n) m (-1) (by omega) h]
  refine six_congr fun k hk => ?_
  rw [Nat.testBit_and, set_bit m k hk, set_bit n k hk]
/-- all of m are in r: no bit of m's set is outside r's -/
theorem within_bits {m r : List Int} (h : rise (-1) m = true) : ((set m &&& (63 ^^^ set r)) = 0) ↔ within m r = true := by
  constructor
  · intro e
    unfold within
    rw [List.all_eq_true]
    intro x hx
    have hb := rise_lt h x hx
    obtain ⟨k, rfl⟩ : ∃ k : Nat, x = k := ⟨x.toNat, by omega⟩
    have hk : k < 6 := by omega
    have e2 : (set m &&& (63 ^^^ set r)).testBit k = false := by rw [e]; simp
    rw [Nat.testBit_and, Nat.testBit_xor, set_bit m k hk, set_bit r k hk] at e2
    have e3 : has m k = true := by unfold has; simpa using hx
    have e4 : Nat.testBit 63 k = true := by
      have : ∀ j : Fin 6, Nat.testBit 63 j.val = true := by decide
      exact this ⟨k, hk⟩
    rw [e3, e4] at e2
    simpa using e2
  · intro hw
    unfold within at hw
    rw [List.all_eq_true] at hw
    apply Nat.eq_of_testBit_eq
    intro k
    rw [Nat.zero_testBit, Nat.testBit_and, Nat.testBit_xor]
    rcases Nat.lt_or_ge k 6 with hk | hk
    · rw [set_bit m k hk, set_bit r k hk]
      have e4 : Nat.testBit 63 k = true := by
        have : ∀ j : Fin 6, Nat.testBit 63 j.val = true := by decide
        exact this ⟨k, hk⟩
      rw [e4]
      by_cases hm : (k : Int) ∈ m
      · rw [hw _ hm]; simp
      · have : has m k = false := by unfold has; simpa using hm
        rw [this]; simp
    · have : (set m).testBit k = false := Nat.testBit_lt_two_pow (Nat.lt_of_lt_of_le (set_lt m) (by
        have : 2 ^ 6 ≤ 2 ^ k := Nat.pow_le_pow_right (by omega) hk
        omega))
      rw [this]; simp
/-- two majorities have one in common -/
theorem meet {m a b : List Int} (ha : m.length / 2 + 1 ≤ cnt m a) (hb : m.length / 2 + 1 ≤ cnt m b) : ∃ x ∈ m, has a x = true ∧ has b x = true := by
  have key : ∀ l : List Int, (∀ x ∈ l, ¬ (has a x = true ∧ has b x = true)) → (l.filter (has a)).length + (l.filter (has b)).length ≤ l.length := by
    intro l
    induction l with
    | nil => intro _; simp
    | cons x l ih =>
      intro h
      have h1 := ih (fun y hy => h y (List.mem_cons_of_mem _ hy))
      have h2 := h x (List.mem_cons_self ..)
      rw [List.filter_cons, List.filter_cons, List.length_cons]
      split <;> split <;> simp_all <;> omega
  false_or_by_contra
  rename_i hn
  have := key m (fun x hx hxx => hn ⟨x, hx, hxx⟩)
  unfold cnt at ha hb
  omega
theorem cnt_le (m n : List Int) : cnt m n ≤ m.length := List.length_filter_le ..
theorem filter_mono {f g : Int → Bool} (l : List Int) (h : ∀ x ∈ l, f x = true → g x = true) : (l.filter f).length ≤ (l.filter g).length := by
  induction l with
  | nil => simp
  | cons x l ih =>
    have h1 := ih (fun y hy => h y (List.mem_cons_of_mem _ hy))
    have h2 := h x (List.mem_cons_self ..)
    rw [List.filter_cons, List.filter_cons]
    rcases hf : f x with _ | _
    · rcases g x with _ | _
      · simpa using h1
      · simp; omega
    · rw [h2 hf]; simp; omega
theorem cnt_more (m a b : List Int) : cnt m a ≤ cnt m (a ++ b) := filter_mono m fun x _ h => by
  unfold has at h ⊢
  simp at h ⊢
  exact .inl h
theorem cnt_all (m : List Int) : cnt m m = m.length := by
  unfold cnt
  rw [List.filter_eq_self.2]
  intro x hx
  unfold has
  simpa using hx
theorem cnt_none (m : List Int) : cnt m [] = 0 := by
  unfold cnt
  have : has [] = fun _ => false := by funext x; simp [has]
  rw [this]; simp
theorem cnt_parts {a b : List Int} (h : (a ++ b).Nodup) : cnt (a ++ b) a = a.length ∧ cnt (a ++ b) b = b.length := by
  have hd : ∀ x ∈ a, x ∉ b := by
    intro x hx hb
    exact (List.nodup_append.1 h).2.2 x hx x hb rfl
  unfold cnt
  rw [List.filter_append, List.filter_append, List.length_append, List.length_append]
  have e1 : a.filter (has a) = a := List.filter_eq_self.2 fun x hx => by unfold has; simpa using hx
  have e2 : b.filter (has b) = b := List.filter_eq_self.2 fun x hx => by unfold has; simpa using hx
  have e3 : b.filter (has a) = [] := List.filter_eq_nil_iff.2 fun x hx => by unfold has; simp; exact fun hm => hd x hm hx
  have e4 : a.filter (has b) = [] := List.filter_eq_nil_iff.2 fun x hx => by unfold has; simp; exact hd x hx
  rw [e1, e2, e3, e4]
  simp
theorem cnt_take {m : List Int} (h : m.Nodup) (k : Nat) (hk : k ≤ m.length) : cnt m (m.take k) = k := by
  have e := (cnt_parts (a := m.take k) (b := m.drop k) (by rw [List.take_append_drop]; exact h)).1
  rw [List.take_append_drop, List.length_take, Nat.min_eq_left hk] at e
  exact e
theorem cnt_drop {m : List Int} (h : m.Nodup) (k : Nat) (hk : k ≤ m.length) : cnt m (m.drop k) = m.length - k := by
  have e := (cnt_parts (a := m.take k) (b := m.drop k) (by rw [List.take_append_drop]; exact h)).2
  rw [List.take_append_drop, List.length_drop] at e
  exact e
/-- one more of m is looked at -/
theorem cnt_snoc (m n : List Int) (k : Nat) (h : k < m.length) : cnt (m.take (k + 1)) n = cnt (m.take k) n + if has n m[k] then 1 else 0 := by
  unfold cnt
  rw [List.take_succ_eq_append_getElem h, List.filter_append, List.length_append]
  congr 1
  rw [List.filter_cons]
  split <;> simp
end Go.Proofs.YtnpgjcapekopnaaGreat.QM
