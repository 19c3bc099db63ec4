/-
  The bytes of numbers, texts and lists, as plain lists (no program): what is written is read back, and what is read is written as just these bytes. Conditions: numbers from 0 to 2^40.
-/
namespace Go.Proofs.YtnpgjcapekopnaaGreat.NM

/-- the bytes of a number: seven bits each, the lowest first; f more bytes may follow -/
def encF : Nat → Nat → List UInt8
  | 0, n => [UInt8.ofNat n]
  | f + 1, n => if n < 128 then [UInt8.ofNat n] else UInt8.ofNat (n % 128 + 128) :: encF f (n / 128)
def enc (n : Nat) : List UInt8 := encF 5 n

/-- the number whose bytes a list begins with, and how many these are: by at most f bytes, as few as can be -/
def decR : Nat → List UInt8 → Option (Nat × Nat)
  | 0, _ => none
  | _ + 1, [] => none
  | f + 1, b :: r => if b.toNat < 128 then some (b.toNat, 1) else
    match decR f r with
    | none => none
    | some (m, k) => if m = 0 then none else some (b.toNat % 128 + 128 * m, k + 1)
/-- at most 2^40 -/
def cap : Option (Nat × Nat) → Option (Nat × Nat)
  | none => none
  | some (n, k) => if n ≤ 1099511627776 then some (n, k) else none
def dec (l : List UInt8) : Option (Nat × Nat) := cap (decR 6 l)

/-- what is left to read, behind k bytes that came to acc -/
def lift (acc k : Nat) : Option (Nat × Nat) → Option (Nat × Nat)
  | none => none
  | some (m, j) => if 0 < k ∧ m = 0 then none else some (acc + 128 ^ k * m, k + j)

theorem lift_zero (o : Option (Nat × Nat)) : lift 0 0 o = o := by
  match o with
  | none => rfl
  | some (m, j) => simp [lift]

theorem lift_more (acc k f : Nat) (b : UInt8) (r : List UInt8) (h : 128 ≤ b.toNat) :
    lift acc k (decR (f + 1) (b :: r)) = lift (acc + 128 ^ k * (b.toNat % 128)) (k + 1) (decR f r) := by
  rw [decR, if_neg (by omega)]
  match decR f r with
  | none => rfl
  | some (m, j) =>
    by_cases hm : m = 0
    · simp [lift, hm]
    · simp only [lift, hm, if_false, and_false]
      rw [if_neg (by omega)]
      congr 2
      · rw [Nat.pow_succ, Nat.mul_add, Nat.mul_assoc, Nat.add_assoc]
      · omega

theorem lift_last (acc k f : Nat) (b : UInt8) (r : List UInt8) (h : b.toNat < 128) :
    lift acc k (decR (f + 1) (b :: r)) = if 0 < k ∧ b.toNat = 0 then none else some (acc + 128 ^ k * b.toNat, k + 1) := by
  rw [decR, if_pos h]; rfl

theorem lift_nil (acc k f : Nat) : lift acc k (decR f []) = none := by cases f <;> rfl
theorem lift_out (acc k : Nat) (l : List UInt8) : lift acc k (decR 0 l) = none := rfl

/-- the steps of a loop over the bytes -/
theorem step_more (acc k : Nat) (l : List UInt8) (o : Option (Nat × Nat)) (hk : k < l.length) (h6 : k < 6) (h : lift acc k (decR (6 - k) (l.drop k)) = o) (hb : 128 ≤ l[k].toNat) :
    lift (acc + 128 ^ k * (l[k].toNat % 128)) (k + 1) (decR (6 - (k + 1)) (l.drop (k + 1))) = o := by
  rw [← h, List.drop_eq_getElem_cons hk, show 6 - k = (6 - (k + 1)) + 1 by omega, lift_more _ _ _ _ _ hb]
theorem step_last (acc k : Nat) (l : List UInt8) (hk : k < l.length) (h6 : k < 6) (h : lift acc k (decR (6 - k) (l.drop k)) = decR 6 l) (hb : l[k].toNat < 128) :
    dec l = if (0 < k ∧ l[k].toNat = 0) ∨ 1099511627776 < acc + 128 ^ k * l[k].toNat then none else some (acc + 128 ^ k * l[k].toNat, k + 1) := by
  unfold dec
  rw [← h, List.drop_eq_getElem_cons hk, show 6 - k = (6 - (k + 1)) + 1 by omega, lift_last _ _ _ _ _ hb]
  by_cases h0 : 0 < k ∧ l[k].toNat = 0
  · rw [if_pos h0, if_pos (Or.inl h0)]; rfl
  · rw [if_neg h0]
    by_cases h1 : 1099511627776 < acc + 128 ^ k * l[k].toNat
    · rw [if_pos (Or.inr h1)]; simp only [cap]; rw [if_neg (by omega)]
    · rw [if_neg (by intro h; rcases h with h | h; exact h0 h; exact h1 h)]; simp only [cap]; rw [if_pos (by omega)]
theorem step_end (acc k : Nat) (l : List UInt8) (hk : ¬ (k < l.length ∧ k < 6)) (h6 : k ≤ 6) (h : lift acc k (decR (6 - k) (l.drop k)) = decR 6 l) : dec l = none := by
  unfold dec
  rw [← h]
  by_cases e : k = 6
  · subst e; rfl
  · rw [List.drop_eq_nil_of_le (by omega), lift_nil]; rfl
theorem acc_lt (acc k x : Nat) (h : acc < 128 ^ k) (hx : x < 128) : acc + 128 ^ k * x < 128 ^ (k + 1) := by
  have : 128 ^ k * x ≤ 128 ^ k * 127 := Nat.mul_le_mul (Nat.le_refl _) (by omega)
  rw [Nat.pow_succ]; omega
theorem acc_small (acc k x : Nat) (h : acc < 128 ^ k) (hx : x < 128) (hk : k < 6) : acc + 128 ^ k * x < 4398046511104 := by
  have h1 := acc_lt acc k x h hx
  have h2 : (128 : Nat) ^ (k + 1) ≤ 128 ^ 6 := Nat.pow_le_pow_right (by omega) (by omega)
  omega

theorem toNat_ofNat (n : Nat) (h : n < 256) : (UInt8.ofNat n).toNat = n := by
  simp [Nat.mod_eq_of_lt h]

theorem encF_pos (f n : Nat) : 0 < (encF f n).length := by
  cases f with
  | zero => simp [encF]
  | succ f => rw [encF]; split <;> simp
theorem encF_le (f n : Nat) : (encF f n).length ≤ f + 1 := by
  induction f generalizing n with
  | zero => simp [encF]
  | succ f ih =>
    rw [encF]
    split
    · simp
    · have := ih (n / 128); simp; omega
theorem enc_pos (n : Nat) : 0 < (enc n).length := encF_pos 5 n
theorem enc_le (n : Nat) : (enc n).length ≤ 6 := encF_le 5 n

theorem decR_encF (f n : Nat) (r : List UInt8) (h : n < 128 ^ (f + 1)) : decR (f + 1) (encF f n ++ r) = some (n, (encF f n).length) := by
  induction f generalizing n with
  | zero =>
    have h' : n < 128 := by simpa using h
    have e := toNat_ofNat n (by omega)
    simp [encF, decR, Nat.mod_eq_of_lt (show n < 256 by omega), h']
  | succ f ih =>
    rw [encF]
    by_cases hn : n < 128
    · rw [if_pos hn]
      have e := toNat_ofNat n (by omega)
      simp [decR, Nat.mod_eq_of_lt (show n < 256 by omega), hn]
    · rw [if_neg hn, List.cons_append, decR]
      have e := toNat_ofNat (n % 128 + 128) (by omega)
      rw [e, if_neg (by omega), ih (n / 128) (by rw [Nat.pow_succ] at h; omega)]
      simp only [List.length_cons]
      rw [if_neg (by omega)]
      congr 2
      omega

theorem dec_enc (n : Nat) (r : List UInt8) (h : n ≤ 1099511627776) : dec (enc n ++ r) = some (n, (enc n).length) := by
  unfold dec enc
  rw [decR_encF 5 n r (by omega)]
  simp [cap, h]

theorem encF_decR (f : Nat) (l : List UInt8) (n k : Nat) (h : decR (f + 1) l = some (n, k)) : 1 ≤ k ∧ k ≤ l.length ∧ encF f n = l.take k ∧ n < 128 ^ (f + 1) := by
  induction f generalizing l n k with
  | zero =>
    cases l with
    | nil => simp [decR] at h
    | cons b r =>
      rw [decR] at h
      by_cases hb : b.toNat < 128
      · rw [if_pos hb] at h
        simp only [Option.some.injEq, Prod.mk.injEq] at h
        obtain ⟨rfl, rfl⟩ := h
        refine ⟨by omega, by simp, by simp [encF], by simpa using hb⟩
      · rw [if_neg hb] at h
        simp [decR] at h
  | succ f ih =>
    cases l with
    | nil => simp [decR] at h
    | cons b r =>
      rw [decR] at h
      by_cases hb : b.toNat < 128
      · rw [if_pos hb] at h
        simp only [Option.some.injEq, Prod.mk.injEq] at h
        obtain ⟨rfl, rfl⟩ := h
        refine ⟨by omega, by simp, by simp [encF, hb], Nat.lt_of_lt_of_le hb (by rw [Nat.pow_succ]; exact Nat.le_mul_of_pos_left _ (Nat.pow_pos (by omega)))⟩
      · rw [if_neg hb] at h
        match hd : decR (f + 1) r with
        | none => rw [hd] at h; simp at h
        | some (m, j) =>
          rw [hd] at h
          have g := ih r m j hd
          by_cases hm : m = 0
          · simp [hm] at h
          · simp only [hm, if_false, Option.some.injEq, Prod.mk.injEq] at h
            obtain ⟨rfl, rfl⟩ := h
            have hlt := b.toNat_lt
            refine ⟨by omega, by simp; omega, ?_, ?_⟩
            · rw [encF, if_neg (by omega), show (b.toNat % 128 + 128 * m) / 128 = m by omega, g.2.2.1, show (b.toNat % 128 + 128 * m) % 128 + 128 = b.toNat by omega]
              simp
            · have := g.2.2.2
              rw [Nat.pow_succ]; omega

theorem dec_bound (l : List UInt8) (n k : Nat) (h : dec l = some (n, k)) : n ≤ 1099511627776 ∧ 1 ≤ k ∧ k ≤ l.length ∧ k ≤ 6 ∧ enc n = l.take k := by
  unfold dec at h
  match hd : decR 6 l with
  | none => rw [hd] at h; simp [cap] at h
  | some (m, j) =>
    rw [hd] at h
    have g := encF_decR 5 l m j hd
    simp only [cap] at h
    by_cases hm : m ≤ 1099511627776
    · rw [if_pos hm] at h
      simp only [Option.some.injEq, Prod.mk.injEq] at h
      obtain ⟨rfl, rfl⟩ := h
      have hl := enc_le m
      have e : enc m = l.take j := g.2.2.1
      refine ⟨hm, g.1, g.2.1, ?_, e⟩
      rw [e, List.length_take] at hl
      omega
    · rw [if_neg hm] at h; simp at h

/-- of two numbers the bytes of neither begin the other's -/
theorem enc_apart (n m : Nat) (hn : n ≤ 1099511627776) (hm : m ≤ 1099511627776) (hne : n ≠ m) :
    (enc n).take (min (enc n).length (enc m).length) ≠ (enc m).take (min (enc n).length (enc m).length) := by
  intro e
  rcases Nat.le_total (enc n).length (enc m).length with h | h
  · rw [Nat.min_eq_left h, List.take_of_length_le (Nat.le_refl _)] at e
    have e2 : enc m = enc n ++ (enc m).drop (enc n).length := by
      conv => lhs; rw [← List.take_append_drop (enc n).length (enc m), ← e]
    have d1 := dec_enc m [] hm
    rw [List.append_nil, e2, dec_enc n _ hn] at d1
    simp only [Option.some.injEq, Prod.mk.injEq] at d1
    exact hne d1.1
  · rw [Nat.min_eq_right h, List.take_of_length_le (l := enc m) (Nat.le_refl _)] at e
    have e2 : enc n = enc m ++ (enc n).drop (enc m).length := by
      conv => lhs; rw [← List.take_append_drop (enc m).length (enc n), e]
    have d1 := dec_enc n [] hn
    rw [List.append_nil, e2, dec_enc m _ hm] at d1
    simp only [Option.some.injEq, Prod.mk.injEq] at d1
    exact hne d1.1.symm

/-! ### texts and lists -/
def text (s : List UInt8) : List UInt8 := enc s.length ++ s
/-- the text that a list begins with, and how many bytes it takes -/
def getText (l : List UInt8) : Option (List UInt8 × Nat) :=
  match dec l with
  | none => none
  | some (n, k) => if n ≤ 4096 ∧ n ≤ l.length - k then some ((l.drop k).take n, k + n) else none

def body (l : List Nat) : List UInt8 := l.flatMap enc
def ints (l : List Nat) : List UInt8 := enc l.length ++ body l
/-- n numbers that a list begins with, and how many bytes they take -/
def getBody : Nat → List UInt8 → Option (List Nat × Nat)
  | 0, _ => some ([], 0)
  | n + 1, l =>
    match dec l with
    | none => none
    | some (x, k) =>
      match getBody n (l.drop k) with
      | none => none
      | some (xs, j) => some (x :: xs, k + j)
def getInts (l : List UInt8) (most : Nat) : Option (List Nat × Nat) :=
  match dec l with
  | none => none
  | some (n, k) => if n ≤ most then
      match getBody n (l.drop k) with
      | none => none
      | some (xs, j) => some (xs, k + j)
    else none

theorem getText_text (s r : List UInt8) (h : s.length ≤ 4096) : getText (text s ++ r) = some (s, (text s).length) := by
  unfold getText text
  rw [List.append_assoc, dec_enc _ _ (by omega)]
  simp only [List.length_append]
  rw [if_pos (by omega)]
  simp

theorem text_getText (l s : List UInt8) (k : Nat) (h : getText l = some (s, k)) : s.length ≤ 4096 ∧ k ≤ l.length ∧ text s = l.take k := by
  unfold getText at h
  match hd : dec l with
  | none => rw [hd] at h; simp at h
  | some (n, j) =>
    have g := dec_bound l n j hd
    rw [hd] at h
    simp only at h
    by_cases hn : n ≤ 4096 ∧ n ≤ l.length - j
    · rw [if_pos hn] at h
      simp only [Option.some.injEq, Prod.mk.injEq] at h
      obtain ⟨rfl, rfl⟩ := h
      have hl : (List.take n (List.drop j l)).length = n := by simp; omega
      refine ⟨by omega, by omega, ?_⟩
      unfold text
      rw [hl, g.2.2.2.2, List.take_add]
    · rw [if_neg hn] at h; simp at h

theorem body_cons (x : Nat) (xs : List Nat) : body (x :: xs) = enc x ++ body xs := by simp [body]

theorem getBody_body (l : List Nat) (r : List UInt8) (h : ∀ x ∈ l, x ≤ 1099511627776) : getBody l.length (body l ++ r) = some (l, (body l).length) := by
  induction l with
  | nil => simp [getBody, body]
  | cons x xs ih =>
    rw [body_cons, List.length_cons, getBody, List.append_assoc, dec_enc _ _ (h x (by simp))]
    simp only [List.drop_left, ih fun y hy => h y (by simp [hy]), List.length_append]

theorem getInts_ints (l : List Nat) (r : List UInt8) (most : Nat) (h : ∀ x ∈ l, x ≤ 1099511627776) (hl : l.length ≤ 4096) (hm : l.length ≤ most) :
    getInts (ints l ++ r) most = some (l, (ints l).length) := by
  unfold getInts ints
  rw [List.append_assoc, dec_enc _ _ (by omega)]
  simp only [List.drop_left, getBody_body l r h, if_pos hm, List.length_append]

theorem body_getBody (n : Nat) (l : List UInt8) (xs : List Nat) (k : Nat) (h : getBody n l = some (xs, k)) :
    xs.length = n ∧ (∀ x ∈ xs, x ≤ 1099511627776) ∧ n ≤ k ∧ k ≤ l.length ∧ k ≤ 6 * n ∧ body xs = l.take k := by
  induction n generalizing l xs k with
  | zero =>
    simp only [getBody, Option.some.injEq, Prod.mk.injEq] at h
    obtain ⟨rfl, rfl⟩ := h
    simp [body]
  | succ n ih =>
    rw [getBody] at h
    match hd : dec l with
    | none => rw [hd] at h; simp at h
    | some (x, j) =>
      have g := dec_bound l x j hd
      rw [hd] at h
      simp only at h
      match hb : getBody n (l.drop j) with
      | none => rw [hb] at h; simp at h
      | some (ys, i) =>
        have q := ih _ _ _ hb
        rw [hb] at h
        simp only [Option.some.injEq, Prod.mk.injEq] at h
        obtain ⟨rfl, rfl⟩ := h
        have ql := q.2.2.2.1
        rw [List.length_drop] at ql
        refine ⟨by simp [q.1], ?_, by omega, by omega, by omega, ?_⟩
        · intro y hy
          rcases List.mem_cons.1 hy with rfl | hy
          · exact g.1
          · exact q.2.1 y hy
        · rw [body_cons, g.2.2.2.2, q.2.2.2.2.2, List.take_add]

theorem ints_getInts (l : List UInt8) (most : Nat) (xs : List Nat) (k : Nat) (h : getInts l most = some (xs, k)) :
    xs.length ≤ most ∧ (∀ x ∈ xs, x ≤ 1099511627776) ∧ k ≤ l.length ∧ ints xs = l.take k := by
  unfold getInts at h
  match hd : dec l with
  | none => rw [hd] at h; simp at h
  | some (n, j) =>
    have g := dec_bound l n j hd
    rw [hd] at h
    simp only at h
    by_cases hn : n ≤ most
    · rw [if_pos hn] at h
      match hb : getBody n (l.drop j) with
      | none => rw [hb] at h; simp at h
      | some (ys, i) =>
        have q := body_getBody n _ _ _ hb
        rw [hb] at h
        simp only [Option.some.injEq, Prod.mk.injEq] at h
        obtain ⟨rfl, rfl⟩ := h
        have ql := q.2.2.2.1
        rw [List.length_drop] at ql
        refine ⟨by rw [q.1]; exact hn, q.2.1, by omega, ?_⟩
        unfold ints
        rw [q.1, g.2.2.2.2, q.2.2.2.2.2, List.take_add]
    · rw [if_neg hn] at h; simp at h
theorem body_le (l : List Nat) : (body l).length ≤ 6 * l.length := by
  induction l with
  | nil => simp [body]
  | cons x xs ih => rw [body_cons, List.length_append, List.length_cons]; have := enc_le x; omega
theorem body_snoc (l : List Nat) (x : Nat) : body (l ++ [x]) = body l ++ enc x := by simp [body]

/-- what is left to read of a list, behind the numbers pre, which took j bytes -/
def liftB (pre : List Nat) (j : Nat) : Option (List Nat × Nat) → Option (List Nat × Nat)
  | none => none
  | some (xs, k) => some (pre ++ xs, j + k)
theorem liftB_start (o : Option (List Nat × Nat)) : liftB [] 0 o = o := by
  match o with
  | none => rfl
  | some (xs, k) => simp [liftB]
theorem liftB_none (pre : List Nat) (j r : Nat) (l : List UInt8) (h : dec l = none) : liftB pre j (getBody (r + 1) l) = none := by
  rw [getBody, h]; rfl
theorem liftB_some (pre : List Nat) (j r : Nat) (l : List UInt8) (x k : Nat) (h : dec l = some (x, k)) : liftB pre j (getBody (r + 1) l) = liftB (pre ++ [x]) (j + k) (getBody r (l.drop k)) := by
  rw [getBody, h]
  simp only
  match getBody r (l.drop k) with
  | none => rfl
  | some (xs, i) => simp [liftB, Nat.add_assoc]
theorem liftB_end (pre : List Nat) (j : Nat) (l : List UInt8) : liftB pre j (getBody 0 l) = some (pre, j) := by simp [getBody, liftB]
theorem getInts_of (l : List UInt8) (most n k : Nat) (h : dec l = some (n, k)) (hn : n ≤ most) : getInts l most = liftB [] k (getBody n (l.drop k)) := by
  unfold getInts
  rw [h]
  simp only [if_pos hn]
  match getBody n (l.drop k) with
  | none => rfl
  | some (xs, j) => simp [liftB]
end Go.Proofs.YtnpgjcapekopnaaGreat.NM
