/- Contracts of functions, L02: each as its theorem says. -/
import Derived.Test.YteebeiaokfenmaaGreatL01
set_option linter.unusedVariables false
set_option linter.unusedSimpArgs false
set_option maxRecDepth 100000
set_option maxHeartbeats 16000000
namespace Go.Proofs.YteebeiaokfenmaaGreat
namespace NM
def encF : Nat → Nat → List UInt8
 | 0, n => [UInt8.ofNat n]
 | f + 1, n => if n < 128 then [UInt8.ofNat n] else UInt8.ofNat (n % 128 + 128) :: encF f (n / 128)
def enc (n : Nat) : List UInt8 := encF 5 n
def decR : Nat → List UInt8 → Option (Nat × Nat)
 | 0, _ => none
 | _ + 1, [] => none
 | f + 1, b :: r => if b.toNat < 128 then some (b.toNat, 1) else
  match decR f r with
  | none => none
  | some (m, k) => if m = 0 then none else some (b.toNat % 128 + 128 * m, k + 1)
def cap : Option (Nat × Nat) → Option (Nat × Nat)
 | none => none
 | some (n, k) => if n ≤ 1099511627776 then some (n, k) else none
def dec (l : List UInt8) : Option (Nat × Nat) := cap (decR 6 l)
def lift (acc k : Nat) : Option (Nat × Nat) → Option (Nat × Nat)
 | none => none
 | some (m, j) => if 0 < k ∧ m = 0 then none else some (acc + 128 ^ k * m, k + j)
theorem lift_zero (o : Option (Nat × Nat)) : lift 0 0 o = o := by
 match o with
 | none => rfl
 | some (m, j) => simp [lift]
theorem lift_more (acc k f : Nat) (b : UInt8) (r : List UInt8) (h : 128 ≤ b.toNat) :
  lift acc k (decR (f + 1) (b :: r)) = lift (acc + 128 ^ k * (b.toNat % 128)) (k + 1) (decR f r) := by
 rw [decR, if_neg (by omega)]
 match decR f r with
 | none => rfl
 | some (m, j) =>
  by_cases hm : m = 0
  ·simp [lift, hm]
  ·simp only [lift, hm, if_false, and_false]
   rw [if_neg (by omega)]
   congr 2
   ·rw [Nat.pow_succ, Nat.mul_add, Nat.mul_assoc, Nat.add_assoc]
   ·omega
theorem lift_last (acc k f : Nat) (b : UInt8) (r : List UInt8) (h : b.toNat < 128) :
  lift acc k (decR (f + 1) (b :: r)) = if 0 < k ∧ b.toNat = 0 then none else some (acc + 128 ^ k * b.toNat, k + 1) := by
 rw [decR, if_pos h]; rfl
theorem lift_nil (acc k f : Nat) : lift acc k (decR f []) = none := by cases f <;> rfl
theorem step_more (acc k : Nat) (l : List UInt8) (o : Option (Nat × Nat)) (hk : k < l.length) (h6 : k < 6) (h : lift acc k (decR (6 - k) (l.drop k)) = o) (hb : 128 ≤ l[k].toNat) :
  lift (acc + 128 ^ k * (l[k].toNat % 128)) (k + 1) (decR (6 - (k + 1)) (l.drop (k + 1))) = o := by
 rw [← h, List.drop_eq_getElem_cons hk, show 6 - k = (6 - (k + 1)) + 1 by omega, lift_more _ _ _ _ _ hb]
theorem step_last (acc k : Nat) (l : List UInt8) (hk : k < l.length) (h6 : k < 6) (h : lift acc k (decR (6 - k) (l.drop k)) = decR 6 l) (hb : l[k].toNat < 128) :
  dec l = if (0 < k ∧ l[k].toNat = 0) ∨ 1099511627776 < acc + 128 ^ k * l[k].toNat then none else some (acc + 128 ^ k * l[k].toNat, k + 1) := by
 unfold dec
 rw [← h, List.drop_eq_getElem_cons hk, show 6 - k = (6 - (k + 1)) + 1 by omega, lift_last _ _ _ _ _ hb]
 by_cases h0 : 0 < k ∧ l[k].toNat = 0
 ·rw [if_pos h0, if_pos (Or.inl h0)]; rfl
 ·rw [if_neg h0]
  by_cases h1 : 1099511627776 < acc + 128 ^ k * l[k].toNat
  ·rw [if_pos (Or.inr h1)]; simp only [cap]; rw [if_neg (by omega)]
  ·rw [if_neg (by intro h; rcases h with h | h; exact h0 h; exact h1 h)]; simp only [cap]; rw [if_pos (by omega)]
theorem step_end (acc k : Nat) (l : List UInt8) (hk : ¬ (k < l.length ∧ k < 6)) (h6 : k ≤ 6) (h : lift acc k (decR (6 - k) (l.drop k)) = decR 6 l) : dec l = none := by
 unfold dec
 rw [← h]
 by_cases e : k = 6
 ·subst e; rfl
 ·rw [List.drop_eq_nil_of_le (by omega), lift_nil]; rfl
theorem acc_lt (acc k x : Nat) (h : acc < 128 ^ k) (hx : x < 128) : acc + 128 ^ k * x < 128 ^ (k + 1) := by
 have : 128 ^ k * x ≤ 128 ^ k * 127 := Nat.mul_le_mul n! (by omega)
 rw [Nat.pow_succ]; omega
theorem acc_small (acc k x : Nat) (h : acc < 128 ^ k) (hx : x < 128) (hk : k < 6) : acc + 128 ^ k * x < 4398046511104 := by
 have h1 := acc_lt acc k x h hx
 have h2 : (128 : Nat) ^ (k + 1) ≤ 128 ^ 6 := Nat.pow_le_pow_right (by omega) (by omega)
 omega
theorem toNat_ofNat (n : Nat) (h : n < 256) : (UInt8.ofNat n).toNat = n := by
 simp [Nat.mod_eq_of_lt h]
theorem encF_pos (f n : Nat) : 0 < (encF f n).length := by
 cases f with
 | zero => simp [encF]
 | succ f => rw [encF]; split <;> simp
theorem encF_le (f n : Nat) : (encF f n).length ≤ f + 1 := by
 induction f generalizing n with
 | zero => simp [encF]
 | succ f ih =>
  rw [encF]
  split
  ·simp
  ·have := ih (n / 128); simp; omega
theorem enc_pos (n : Nat) : 0 < (enc n).length := encF_pos 5 n
theorem enc_le (n : Nat) : (enc n).length ≤ 6 := encF_le 5 n
theorem decR_encF (f n : Nat) (r : List UInt8) (h : n < 128 ^ (f + 1)) : decR (f + 1) (encF f n ++ r) = some (n, (encF f n).length) := by
 induction f generalizing n with
 | zero =>
  have h' : n < 128 := by simpa using h
  have e := toNat_ofNat n (by omega)
  simp [encF, decR, Nat.mod_eq_of_lt (show n < 256 by omega), h']
 | succ f ih =>
  rw [encF]
  by_cases hn : n < 128
  ·rw [if_pos hn]
   have e := toNat_ofNat n (by omega)
   simp [decR, Nat.mod_eq_of_lt (show n < 256 by omega), hn]
  ·rw [if_neg hn, List.cons_append, decR]
   have e := toNat_ofNat (n % 128 + 128) (by omega)
   rw [e, if_neg (by omega), ih (n / 128) (by rw [Nat.pow_succ] at h; omega)]
   simp only [List.length_cons]
   rw [if_neg (by omega)]
   congr 2
   omega
theorem dec_enc (n : Nat) (r : List UInt8) (h : n ≤ 1099511627776) : dec (enc n ++ r) = some (n, (enc n).length) := by
 unfold dec enc
 rw [decR_encF 5 n r (by omega)]
 simp [cap, h]
theorem encF_decR (f : Nat) (l : List UInt8) (n k : Nat) (h : decR (f + 1) l = some (n, k)) : 1 ≤ k ∧ k ≤ l.length ∧ encF f n = l.take k ∧ n < 128 ^ (f + 1) := by
 induction f generalizing l n k with
 | zero =>
  cases l with
  | nil => simp [decR] at h
  | cons b r =>
   rw [decR] at h
   by_cases hb : b.toNat < 128
   ·rw [if_pos hb] at h
    simp only [Option.some.injEq, Prod.mk.injEq] at h
    obtain ⟨rfl, rfl⟩ := h
    refine ⟨by omega, by simp, by simp [encF], by simpa using hb⟩
   ·rw [if_neg hb] at h
    simp [decR] at h
 | succ f ih =>
  cases l with
  | nil => simp [decR] at h
  | cons b r =>
   rw [decR] at h
   by_cases hb : b.toNat < 128
   ·rw [if_pos hb] at h
    simp only [Option.some.injEq, Prod.mk.injEq] at h
    obtain ⟨rfl, rfl⟩ := h
    refine ⟨by omega, by simp, by simp [encF, hb], Nat.lt_of_lt_of_le hb (by rw [Nat.pow_succ]; exact Nat.le_mul_of_pos_left _ (Nat.pow_pos (by omega)))⟩
   ·rw [if_neg hb] at h
    match hd : decR (f + 1) r with
    | none => rw [hd] at h; simp at h
    | some (m, j) =>
     rw [hd] at h
     have g := ih r m j hd
     by_cases hm : m = 0
     ·simp [hm] at h
     ·simp only [hm, if_false, Option.some.injEq, Prod.mk.injEq] at h
      obtain ⟨rfl, rfl⟩ := h
      have hlt := b.toNat_lt
      refine ⟨by omega, by simp; omega, ?_, ?_⟩
      ·rw [encF, if_neg (by omega), show (b.toNat % 128 + 128 * m) / 128 = m by omega, g.2.2.1, show (b.toNat % 128 + 128 * m) % 128 + 128 = b.toNat by omega]
       simp
      ·have := g.2.2.2
       rw [Nat.pow_succ]; omega
theorem dec_bound (l : List UInt8) (n k : Nat) (h : dec l = some (n, k)) : n ≤ 1099511627776 ∧ 1 ≤ k ∧ k ≤ l.length ∧ k ≤ 6 ∧ enc n = l.take k := by
 unfold dec at h
 match hd : decR 6 l with
 | none => rw [hd] at h; simp [cap] at h
 | some (m, j) =>
  rw [hd] at h
  have g := encF_decR 5 l m j hd
  simp only [cap] at h
  by_cases hm : m ≤ 1099511627776
  ·rw [if_pos hm] at h
   simp only [Option.some.injEq, Prod.mk.injEq] at h
   obtain ⟨rfl, rfl⟩ := h
   have hl := enc_le m
   have e : enc m = l.take j := g.2.2.1
   refine ⟨hm, g.1, g.2.1, ?_, e⟩
   rw [e, List.length_take] at hl
   omega
  ·rw [if_neg hm] at h; simp at h
def text (s : List UInt8) : List UInt8 := enc s.length ++ s
def getText (l : List UInt8) : Option (List UInt8 × Nat) :=
 match dec l with
 | none => none
 | some (n, k) => if n ≤ 4096 ∧ n ≤ l.length - k then some ((l.drop k).take n, k + n) else none
def body (l : List Nat) : List UInt8 := l.flatMap enc
def ints (l : List Nat) : List UInt8 := enc l.length ++ body l
def getBody : Nat → List UInt8 → Option (List Nat × Nat)
 | 0, _ => some ([], 0)
 | n + 1, l =>
  match dec l with
  | none => none
  | some (x, k) =>
   match getBody n (l.drop k) with
   | none => none
   | some (xs, j) => some (x :: xs, k + j)
def getInts (l : List UInt8) (most : Nat) : Option (List Nat × Nat) :=
 match dec l with
 | none => none
 | some (n, k) => if n ≤ most then
   match getBody n (l.drop k) with
   | none => none
   | some (xs, j) => some (xs, k + j)
  else none
theorem getText_text (s r : List UInt8) (h : s.length ≤ 4096) : getText (text s ++ r) = some (s, (text s).length) := by
 unfold getText text
 rw [List.append_assoc, dec_enc _ _ (by omega)]
 simp only [List.length_append]
 rw [if_pos (by omega)]
 simp
theorem text_getText (l s : List UInt8) (k : Nat) (h : getText l = some (s, k)) : s.length ≤ 4096 ∧ k ≤ l.length ∧ text s = l.take k := by
 unfold getText at h
 match hd : dec l with
 | none => rw [hd] at h; simp at h
 | some (n, j) =>
  have g := dec_bound l n j hd
  rw [hd] at h
  simp only at h
  by_cases hn : n ≤ 4096 ∧ n ≤ l.length - j
  ·rw [if_pos hn] at h
   simp only [Option.some.injEq, Prod.mk.injEq] at h
   obtain ⟨rfl, rfl⟩ := h
   have hl : (List.take n (List.drop j l)).length = n := by simp; omega
   refine ⟨by omega, by omega, ?_⟩
   unfold text
   rw [hl, g.2.2.2.2, List.take_add]
  ·rw [if_neg hn] at h; simp at h
theorem body_cons (x : Nat) (xs : List Nat) : body (x :: xs) = enc x ++ body xs := by simp [body]
theorem getBody_body (l : List Nat) (r : List UInt8) (h : ∀ x ∈ l, x ≤ 1099511627776) : getBody l.length (body l ++ r) = some (l, (body l).length) := by
 induction l with
 | nil => simp [getBody, body]
 | cons x xs ih =>
  rw [body_cons, List.length_cons, getBody, List.append_assoc, dec_enc _ _ (h x (by simp))]
  simp only [List.drop_left, ih fun y hy => h y (by simp [hy]), List.length_append]
theorem getInts_ints (l : List Nat) (r : List UInt8) (most : Nat) (h : ∀ x ∈ l, x ≤ 1099511627776) (hl : l.length ≤ 4096) (hm : l.length ≤ most) :
  getInts (ints l ++ r) most = some (l, (ints l).length) := by
 unfold getInts ints
 rw [List.append_assoc, dec_enc _ _ (by omega)]
 simp only [List.drop_left, getBody_body l r h, if_pos hm, List.length_append]
theorem body_getBody (n : Nat) (l : List UInt8) (xs : List Nat) (k : Nat) (h : getBody n l = some (xs, k)) :
  xs.length = n ∧ (∀ x ∈ xs, x ≤ 1099511627776) ∧ n ≤ k ∧ k ≤ l.length ∧ k ≤ 6 * n ∧ body xs = l.take k := by
 induction n generalizing l xs k with
 | zero =>
  simp only [getBody, Option.some.injEq, Prod.mk.injEq] at h
  obtain ⟨rfl, rfl⟩ := h
  simp [body]
 | succ n ih =>
  rw [getBody] at h
  match hd : dec l with
  | none => rw [hd] at h; simp at h
  | some (x, j) =>
   have g := dec_bound l x j hd
   rw [hd] at h
   simp only at h
   match hb : getBody n (l.drop j) with
   | none => rw [hb] at h; simp at h
   | some (ys, i) =>
    have q := ih _ _ _ hb
    rw [hb] at h
    simp only [Option.some.injEq, Prod.mk.injEq] at h
    obtain ⟨rfl, rfl⟩ := h
    have ql := q.2.2.2.1
    rw [List.length_drop] at ql
    refine ⟨by simp [q.1], ?_, by omega, by omega, by omega, ?_⟩
    ·intro y hy
     rcases List.mem_cons.1 hy with rfl | hy
     ·exact g.1
     ·exact q.2.1 y hy
    ·rw [body_cons, g.2.2.2.2, q.2.2.2.2.2, List.take_add]
theorem ints_getInts (l : List UInt8) (most : Nat) (xs : List Nat) (k : Nat) (h : getInts l most = some (xs, k)) :
  xs.length ≤ most ∧ (∀ x ∈ xs, x ≤ 1099511627776) ∧ k ≤ l.length ∧ ints xs = l.take k := by
 unfold getInts at h
 match hd : dec l with
 | none => rw [hd] at h; simp at h
 | some (n, j) =>
  have g := dec_bound l n j hd
  rw [hd] at h
  simp only at h
  by_cases hn : n ≤ most
  ·rw [if_pos hn] at h
   match hb : getBody n (l.drop j) with
   | none => rw [hb] at h; simp at h
   | some (ys, i) =>
    have q := body_getBody n _ _ _ hb
    rw [hb] at h
    simp only [Option.some.injEq, Prod.mk.injEq] at h
    obtain ⟨rfl, rfl⟩ := h
    have ql := q.2.2.2.1
    rw [List.length_drop] at ql
    refine ⟨by rw [q.1]; exact hn, q.2.1, by omega, ?_⟩
    unfold ints
    rw [q.1, g.2.2.2.2, q.2.2.2.2.2, List.take_add]
  ·rw [if_neg hn] at h; simp at h
theorem body_le (l : List Nat) : (body l).length ≤ 6 * l.length := by
 induction l with
 | nil => simp [body]
 | cons x xs ih => rw [body_cons, List.length_append, List.length_cons]; have := enc_le x; omega
theorem body_snoc (l : List Nat) (x : Nat) : body (l ++ [x]) = body l ++ enc x := by simp [body]
def liftB (pre : List Nat) (j : Nat) : Option (List Nat × Nat) → Option (List Nat × Nat)
 | none => none
 | some (xs, k) => some (pre ++ xs, j + k)
theorem liftB_none (pre : List Nat) (j r : Nat) (l : List UInt8) (h : dec l = none) : liftB pre j (getBody (r + 1) l) = none := by
 rw [getBody, h]; rfl
theorem liftB_some (pre : List Nat) (j r : Nat) (l : List UInt8) (x k : Nat) (h : dec l = some (x, k)) : liftB pre j (getBody (r + 1) l) = liftB (pre ++ [x]) (j + k) (getBody r (l.drop k)) := by
 rw [getBody, h]
 simp only
 match getBody r (l.drop k) with
 | none => rfl
 | some (xs, i) => simp [liftB, Nat.add_assoc]
theorem liftB_end (pre : List Nat) (j : Nat) (l : List UInt8) : liftB pre j (getBody 0 l) = some (pre, j) := by simp [getBody, liftB]
theorem getInts_of (l : List UInt8) (most n k : Nat) (h : dec l = some (n, k)) (hn : n ≤ most) : getInts l most = liftB [] k (getBody n (l.drop k)) := by
 unfold getInts
 rw [h]
 simp only [if_pos hn]
 match getBody n (l.drop k) with
 | none => rfl
 | some (xs, j) => simp [liftB]
end NM
namespace RM
open NM
def bsz (v : ByteArray) : List UInt8 := v.data.toList
theorem bsz_len (v : ByteArray) : (bsz v).length = v.size := Array.length_toList ..
theorem bsz_eq {v u : ByteArray} (h : bsz v = bsz u) : v = u := by
 obtain ⟨⟨a⟩⟩ := v
 obtain ⟨⟨b⟩⟩ := u
 unfold bsz at h
 simp at h
 rw [h]
def num (hi : Nat) (l : List UInt8) : Option (Nat × List UInt8) :=
 match dec l with
 | some (n, z) => if n ≤ hi then some (n, l.drop z) else none
 | none => none
def txt (hi : Nat) (l : List UInt8) : Option (List UInt8 × List UInt8) :=
 match getText l with
 | some (s, z) => if s.length ≤ hi then some (s, l.drop z) else none
 | none => none
theorem num_enc (n hi : Nat) (r : List UInt8) (h : n ≤ hi) (h2 : n ≤ 1099511627776) : num hi (enc n ++ r) = some (n, r) := by
 unfold num
 rw [dec_enc n r h2]
 simp only
 rw [if_pos h, List.drop_left]
theorem enc_num {hi n : Nat} {l r : List UInt8} (h : num hi l = some (n, r)) : n ≤ hi ∧ n ≤ 1099511627776 ∧ l = enc n ++ r := by
 unfold num at h
 match hd : dec l with
 | none => rw [hd] at h; simp at h
 | some (m, z) =>
  rw [hd] at h
  simp only at h
  have hb := dec_bound l m z hd
  by_cases hm : m ≤ hi
  ·rw [if_pos hm] at h
   simp only [Option.some.injEq, Prod.mk.injEq] at h
   obtain ⟨rfl, rfl⟩ := h
   exact ⟨hm, hb.1, by rw [hb.2.2.2.2]; exact (List.take_append_drop z l).symm⟩
  ·rw [if_neg hm] at h; simp at h
theorem txt_text (s r : List UInt8) (hi : Nat) (h : s.length ≤ hi) (h2 : s.length ≤ 4096) : txt hi (text s ++ r) = some (s, r) := by
 unfold txt
 rw [getText_text s r h2]
 simp only
 rw [if_pos h, List.drop_left]
theorem text_txt {hi : Nat} {l s r : List UInt8} (h : txt hi l = some (s, r)) : s.length ≤ hi ∧ s.length ≤ 4096 ∧ l = text s ++ r := by
 unfold txt at h
 match hd : getText l with
 | none => rw [hd] at h; simp at h
 | some (m, z) =>
  rw [hd] at h
  simp only at h
  have hb := text_getText l m z hd
  by_cases hm : m.length ≤ hi
  ·rw [if_pos hm] at h
   simp only [Option.some.injEq, Prod.mk.injEq] at h
   obtain ⟨rfl, rfl⟩ := h
   exact ⟨hm, hb.1, by rw [hb.2.2]; exact (List.take_append_drop z l).symm⟩
  ·rw [if_neg hm] at h; simp at h
theorem bsz_mk (v : List UInt8) : bsz ⟨v.toArray⟩ = v := rfl
theorem mk_bsz (v : ByteArray) : (⟨(bsz v).toArray⟩ : ByteArray) = v := bsz_eq (bsz_mk _)
def gt (l : List UInt8) : Nat × List UInt8 :=
 match dec l with
 | some (n, z) => (n, l.drop z)
 | none => (0, l)
theorem gt_le (l : List UInt8) : (gt l).1 ≤ 1099511627776 := by
 unfold gt
 rcases hd : dec l with _ | ⟨n, z⟩
 ·simp
 ·exact (dec_bound l n z hd).1
def fk (l : List UInt8) : Nat := (gt l).1 % 256
def f1 (l : List UInt8) := (gt l).2
theorem fk_le (l : List UInt8) : fk l ≤ 255 := by unfold fk; omega
end RM
namespace CM
open NM RM
structure Mg where
 id : Int
 gs : List Int
 tp : Int
 key : ByteArray
 body : ByteArray
 deriving DecidableEq
structure Cm where
 k : Int
 m : Mg
 id : Int
 tm : Int
 ms : List Int
 tp : Int
 wh : Int
 n : Int
 deriving DecidableEq
def mz : Mg := ⟨0, [], 0, .empty, .empty⟩
def zero : Cm := ⟨0, mz, 0, 0, [], 0, 0, 0⟩
def idOk (n : Int) : Prop := 0 ≤ n ∧ n < 6291456
instance (n : Int) : Decidable (idOk n) := by unfold idOk; infer_instance
def riseG : Int → List Int → Bool
 | _, [] => true
 | p, x :: l => decide (p < x) && (decide (x < 4) && riseG x l)
theorem riseG_mem : ∀ {p : Int} {l : List Int}, riseG p l = true → ∀ x ∈ l, p < x ∧ x < 4
 | p, [], _, x, hx => by cases hx
 | p, y :: l, h, x, hx => by
  simp only [riseG, Bool.and_eq_true, decide_eq_true_eq] at h
  rcases List.mem_cons.1 hx with rfl | hx
  ·exact ⟨h.1, h.2.1⟩
  ·have := riseG_mem h.2.2 x hx
   omega
theorem riseG_len : ∀ {p : Int} {l : List Int}, riseG p l = true → p ≤ 3 → (l.length : Int) ≤ 3 - p
 | p, [], _, h => by simp; omega
 | p, y :: l, h, hp => by
  simp only [riseG, Bool.and_eq_true, decide_eq_true_eq] at h
  have := riseG_len h.2.2 (by omega)
  rw [List.length_cons]
  omega
def mgOk (m : Mg) : Prop := idOk m.id ∧ m.gs ≠ [] ∧ riseG (-1) m.gs = true ∧ (0 ≤ m.tp ∧ m.tp < 4) ∧ m.key.size ≤ 16 ∧ m.body.size ≤ 64
instance (m : Mg) : Decidable (mgOk m) := by unfold mgOk; infer_instance
def may (c : Cm) : Prop :=
 c = zero ∨
 (c.k = 1 ∧ mgOk c.m ∧ c.id = 0 ∧ c.tm = 0 ∧ c.ms = [] ∧ c.tp = 0 ∧ c.wh = 0 ∧ c.n = 0) ∨
 (c.k = 2 ∧ c.m = mz ∧ idOk c.id ∧ (1 ≤ c.tm ∧ c.tm ≤ 1073741824) ∧ c.ms = [] ∧ c.tp = 0 ∧ c.wh = 0 ∧ c.n = 0) ∨
 (c.k = 3 ∧ c.m = mz ∧ c.id = 0 ∧ c.tm = 0 ∧ QM.may c.ms = true ∧ c.tp = 0 ∧ c.wh = 0 ∧ c.n = 0) ∨
 (c.k = 4 ∧ c.m = mz ∧ idOk c.id ∧ c.tm = 0 ∧ c.ms = [] ∧ (0 ≤ c.tp ∧ c.tp < 4) ∧ (0 ≤ c.wh ∧ c.wh < 8) ∧ (0 ≤ c.n ∧ c.n ≤ 1073741824)) ∨
 ((c.k = 5 ∨ c.k = 6) ∧ c.m = mz ∧ idOk c.id ∧ c.tm = 0 ∧ c.ms = [] ∧ (0 ≤ c.tp ∧ c.tp < 4) ∧ c.wh = 0 ∧ (0 ≤ c.n ∧ c.n ≤ 1073741824))
instance (c : Cm) : Decidable (may c) := by unfold may; infer_instance
def nats (l : List Int) : List Nat := l.map Int.toNat
def zs (l : List Nat) : List Int := l.map fun (n : Nat) => (n : Int)
theorem nats_zs (l : List Nat) : nats (zs l) = l := by
 unfold nats zs
 rw [List.map_map]
 exact (List.map_congr_left (g := id) fun x _ => Int.toNat_natCast x).trans (List.map_id l)
theorem zs_nats {l : List Int} (h : ∀ x ∈ l, 0 ≤ x) : zs (nats l) = l := by
 unfold nats zs
 rw [List.map_map]
 refine (List.map_congr_left fun x hx => ?_).trans (List.map_id l)
 have := h x hx
 show ((x.toNat : Nat) : Int) = x
 omega
def bod (c : Cm) : List UInt8 :=
 if c.k = 1 then enc c.m.id.toNat ++ (ints (nats c.m.gs) ++ (enc c.m.tp.toNat ++ (text (bsz c.m.key) ++ text (bsz c.m.body))))
 else if c.k = 2 then enc c.id.toNat ++ enc c.tm.toNat
 else if c.k = 3 then ints (nats c.ms)
 else if c.k = 4 then enc c.id.toNat ++ (enc c.tp.toNat ++ (enc c.wh.toNat ++ enc c.n.toNat))
 else if c.k = 5 ∨ c.k = 6 then enc c.id.toNat ++ (enc c.tp.toNat ++ enc c.n.toNat)
 else []
def wr (c : Cm) : List UInt8 := enc c.k.toNat ++ bod c
def nm (l : List UInt8) : Option (Nat × List UInt8) := num 1099511627776 l
def tx (l : List UInt8) : Option (List UInt8 × List UInt8) := txt 4096 l
def lst (most : Nat) (l : List UInt8) : Option (List Nat × List UInt8) :=
 match getInts l most with
 | some (xs, z) => some (xs, l.drop z)
 | none => none
def q1 (r : List UInt8) : Option (Cm × List UInt8) :=
 (nm r).bind fun a => (lst 4 a.2).bind fun g => (nm g.2).bind fun t => (tx t.2).bind fun s => (tx s.2).bind fun b =>
  some (⟨1, ⟨a.1, zs g.1, t.1, ⟨s.1.toArray⟩, ⟨b.1.toArray⟩⟩, 0, 0, [], 0, 0, 0⟩, b.2)
def q2 (r : List UInt8) : Option (Cm × List UInt8) := (nm r).bind fun a => (nm a.2).bind fun b => some (⟨2, mz, a.1, b.1, [], 0, 0, 0⟩, b.2)
def q3 (r : List UInt8) : Option (Cm × List UInt8) := (lst 6 r).bind fun a => some (⟨3, mz, 0, 0, zs a.1, 0, 0, 0⟩, a.2)
def q4 (r : List UInt8) : Option (Cm × List UInt8) :=
 (nm r).bind fun a => (nm a.2).bind fun b => (nm b.2).bind fun w => (nm w.2).bind fun n => some (⟨4, mz, a.1, 0, [], b.1, w.1, n.1⟩, n.2)
def q5 (k : Int) (r : List UInt8) : Option (Cm × List UInt8) := (nm r).bind fun a => (nm a.2).bind fun b => (nm b.2).bind fun n => some (⟨k, mz, a.1, 0, [], b.1, 0, n.1⟩, n.2)
def parse (l : List UInt8) : Option (Cm × List UInt8) :=
 (nm l).bind fun a =>
  if a.1 = 0 then some (zero, a.2) else if a.1 = 1 then q1 a.2 else if a.1 = 2 then q2 a.2 else if a.1 = 3 then q3 a.2 else if a.1 = 4 then q4 a.2
  else if a.1 = 5 ∨ a.1 = 6 then q5 a.1 a.2 else none
theorem nm_enc (n : Nat) (r : List UInt8) (h : n ≤ 1099511627776) : nm (enc n ++ r) = some (n, r) := num_enc n _ r h h
theorem enc_nm {l r : List UInt8} {n : Nat} (h : nm l = some (n, r)) : n ≤ 1099511627776 ∧ l = enc n ++ r := by
 have := enc_num h
 exact ⟨this.1, this.2.2⟩
theorem tx_text (s r : List UInt8) (h : s.length ≤ 4096) : tx (text s ++ r) = some (s, r) := txt_text s r _ h h
theorem text_tx {l r s : List UInt8} (h : tx l = some (s, r)) : s.length ≤ 4096 ∧ l = text s ++ r := by
 have := text_txt h
 exact ⟨this.1, this.2.2⟩
theorem lst_ints (xs : List Nat) (most : Nat) (r : List UInt8) (h : ∀ x ∈ xs, x ≤ 1099511627776) (hm : xs.length ≤ most) (h4 : most ≤ 4096) : lst most (ints xs ++ r) = some (xs, r) := by
 unfold lst
 rw [getInts_ints xs r most h (by omega) hm]
 simp only
 rw [List.drop_left]
theorem ints_lst {l r : List UInt8} {xs : List Nat} {most : Nat} (h : lst most l = some (xs, r)) : l = ints xs ++ r ∧ xs.length ≤ most ∧ ∀ x ∈ xs, x ≤ 1099511627776 := by
 unfold lst at h
 match hd : getInts l most with
 | none => rw [hd] at h; simp at h
 | some (ys, z) =>
  rw [hd] at h
  simp only [Option.some.injEq, Prod.mk.injEq] at h
  obtain ⟨rfl, rfl⟩ := h
  have hb := ints_getInts l most ys z hd
  exact ⟨by rw [hb.2.2.2]; exact (List.take_append_drop z l).symm, hb.1, hb.2.1⟩
theorem gs_fit {m : Mg} (h : mgOk m) : (∀ x ∈ m.gs, 0 ≤ x) ∧ (nats m.gs).length ≤ 4 ∧ ∀ x ∈ nats m.gs, x ≤ 1099511627776 := by
 have h1 := riseG_mem h.2.2.1
 have h2 := riseG_len h.2.2.1 (by decide)
 refine ⟨fun x hx => by have := h1 x hx; omega, by unfold nats; rw [List.length_map]; omega, fun x hx => ?_⟩
 unfold nats at hx
 obtain ⟨y, hy, rfl⟩ := List.mem_map.1 hx
 have := h1 y hy
 omega
theorem ms_fit {l : List Int} (h : QM.may l = true) : (∀ x ∈ l, 0 ≤ x) ∧ (nats l).length ≤ 6 ∧ ∀ x ∈ nats l, x ≤ 1099511627776 := by
 obtain ⟨h1, h2, h3⟩ := QM.may_len h
 have h4 := QM.rise_lt h3
 refine ⟨fun x hx => by have := h4 x hx; omega, by unfold nats; rw [List.length_map]; omega, fun x hx => ?_⟩
 unfold nats at hx
 obtain ⟨y, hy, rfl⟩ := List.mem_map.1 hx
 have := h4 y hy
 omega
theorem parse_enc (k : Nat) (hk : k ≤ 6) (r : List UInt8) : parse (enc k ++ r) =
  if k = 0 then some (zero, r) else if k = 1 then q1 r else if k = 2 then q2 r else if k = 3 then q3 r else if k = 4 then q4 r else if k = 5 ∨ k = 6 then q5 k r else none := by
 unfold parse
 rw [nm_enc _ _ (by omega)]
 rfl
theorem parse_wr {c : Cm} (h : may c) (t : List UInt8) : parse (wr c ++ t) = some (c, t) := by
 obtain ⟨k, ⟨mi, mg, mt, mk, mb⟩, id, tm, ms, tp, wh, n⟩ := c
 rcases h with h | ⟨hk, hm, h1, h2, h3, h4, h5, h6⟩ | ⟨hk, hm, h1, h2, h3, h4, h5, h6⟩ | ⟨hk, hm, h1, h2, h3, h4, h5, h6⟩ | ⟨hk, hm, h1, h2, h3, h4, h5, h6⟩ | ⟨hk, hm, h1, h2, h3, h4, h5, h6⟩
 ·rw [h]
  exact parse_enc 0 (by decide) t
 ·simp only at hk hm h1 h2 h3 h4 h5 h6
  subst hk h1 h2 h3 h4 h5 h6
  obtain ⟨g1, g2, g3⟩ := gs_fit hm
  obtain ⟨m1, m2, m3, m4, m5, m6⟩ := hm
  unfold idOk at m1
  simp only at m1 m4 m5 m6 g1 g2 g3
  have hw : wr ⟨1, ⟨mi, mg, mt, mk, mb⟩, 0, 0, [], 0, 0, 0⟩ ++ t = enc 1 ++ (enc mi.toNat ++ (ints (nats mg) ++ (enc mt.toNat ++ (text (bsz mk) ++ (text (bsz mb) ++ t))))) := by unfold wr bod; simp [List.append_assoc]
  rw [hw, parse_enc 1 (by decide)]
  show q1 _ = _
  unfold q1
  rw [nm_enc _ _ (by omega), Option.bind_some, lst_ints _ _ _ g3 g2 (by decide), Option.bind_some, nm_enc _ _ (by omega), Option.bind_some, tx_text _ _ (by rw [bsz_len]; omega), Option.bind_some, tx_text _ _ (by rw [bsz_len]; omega), Option.bind_some]
  simp only [mk_bsz, zs_nats g1]
  rw [show ((mi.toNat : Nat) : Int) = mi by omega, show ((mt.toNat : Nat) : Int) = mt by omega]
 ·simp only at hk hm h1 h2 h3 h4 h5 h6
  subst hk h3 h4 h5 h6
  rw [hm]
  unfold idOk at h1
  have hw : wr ⟨2, mz, id, tm, [], 0, 0, 0⟩ ++ t = enc 2 ++ (enc id.toNat ++ (enc tm.toNat ++ t)) := by unfold wr bod; simp [List.append_assoc]
  rw [hw, parse_enc 2 (by decide)]
  show q2 _ = _
  unfold q2
  rw [nm_enc _ _ (by omega), Option.bind_some, nm_enc _ _ (by omega), Option.bind_some]
  simp only
  rw [show ((id.toNat : Nat) : Int) = id by omega, show ((tm.toNat : Nat) : Int) = tm by omega]
 ·simp only at hk hm h1 h2 h3 h4 h5 h6
  subst hk h1 h2 h4 h5 h6
  rw [hm]
  obtain ⟨g1, g2, g3⟩ := ms_fit h3
  have hw : wr ⟨3, mz, 0, 0, ms, 0, 0, 0⟩ ++ t = enc 3 ++ (ints (nats ms) ++ t) := by unfold wr bod; simp [List.append_assoc]
  rw [hw, parse_enc 3 (by decide)]
  show q3 _ = _
  unfold q3
  rw [lst_ints _ _ _ g3 g2 (by decide), Option.bind_some]
  simp only [zs_nats g1]
 ·simp only at hk hm h1 h2 h3 h4 h5 h6
  subst hk h2 h3
  rw [hm]
  unfold idOk at h1
  have hw : wr ⟨4, mz, id, 0, [], tp, wh, n⟩ ++ t = enc 4 ++ (enc id.toNat ++ (enc tp.toNat ++ (enc wh.toNat ++ (enc n.toNat ++ t)))) := by unfold wr bod; simp [List.append_assoc]
  rw [hw, parse_enc 4 (by decide)]
  show q4 _ = _
  unfold q4
  rw [nm_enc _ _ (by omega), Option.bind_some, nm_enc _ _ (by omega), Option.bind_some, nm_enc _ _ (by omega), Option.bind_some, nm_enc _ _ (by omega), Option.bind_some]
  simp only
  rw [show ((id.toNat : Nat) : Int) = id by omega, show ((tp.toNat : Nat) : Int) = tp by omega, show ((wh.toNat : Nat) : Int) = wh by omega, show ((n.toNat : Nat) : Int) = n by omega]
 ·simp only at hk hm h1 h2 h3 h4 h5 h6
  subst h2 h3 h5
  rw [hm]
  unfold idOk at h1
  have fin : ∀ j : Nat, q5 j (enc id.toNat ++ (enc tp.toNat ++ (enc n.toNat ++ t))) = some (⟨j, mz, id, 0, [], tp, 0, n⟩, t) := by
   intro j
   unfold q5
   rw [nm_enc _ _ (by omega), Option.bind_some, nm_enc _ _ (by omega), Option.bind_some, nm_enc _ _ (by omega), Option.bind_some]
   simp only
   rw [show ((id.toNat : Nat) : Int) = id by omega, show ((tp.toNat : Nat) : Int) = tp by omega, show ((n.toNat : Nat) : Int) = n by omega]
  rcases hk with rfl | rfl
  ·have hw : wr ⟨5, mz, id, 0, [], tp, 0, n⟩ ++ t = enc 5 ++ (enc id.toNat ++ (enc tp.toNat ++ (enc n.toNat ++ t))) := by unfold wr bod; simp [List.append_assoc]
   rw [hw, parse_enc 5 (by decide)]
   exact fin 5
  ·have hw : wr ⟨6, mz, id, 0, [], tp, 0, n⟩ ++ t = enc 6 ++ (enc id.toNat ++ (enc tp.toNat ++ (enc n.toNat ++ t))) := by unfold wr bod; simp [List.append_assoc]
   rw [hw, parse_enc 6 (by decide)]
   exact fin 6
theorem wr_parse {l t : List UInt8} {c : Cm} (h : parse l = some (c, t)) : wr c ++ t = l := by
 unfold parse at h
 obtain ⟨⟨k, r⟩, hk, h2⟩ := Option.bind_eq_some_iff.1 h
 clear h
 have h := h2
 clear h2
 obtain ⟨_, rfl⟩ := enc_nm hk
 try simp only at h
 by_cases k0 : k = 0
 ·rw [if_pos k0] at h
  simp only [Option.some.injEq, Prod.mk.injEq] at h
  obtain ⟨rfl, rfl⟩ := h
  subst k0
  rfl
 rw [if_neg k0] at h
 by_cases k1 : k = 1
 ·rw [if_pos k1] at h
  unfold q1 at h
  obtain ⟨⟨a, r1⟩, e1, h⟩ := Option.bind_eq_some_iff.1 h
  obtain ⟨⟨g, r2⟩, e2, h⟩ := Option.bind_eq_some_iff.1 h
  obtain ⟨⟨p, r3⟩, e3, h⟩ := Option.bind_eq_some_iff.1 h
  obtain ⟨⟨s, r4⟩, e4, h⟩ := Option.bind_eq_some_iff.1 h
  obtain ⟨⟨b, r5⟩, e5, h⟩ := Option.bind_eq_some_iff.1 h
  simp only [Option.some.injEq, Prod.mk.injEq] at h e1 e2 e3 e4 e5
  obtain ⟨rfl, rfl⟩ := h
  obtain ⟨_, rfl⟩ := enc_nm e1
  obtain ⟨rfl, _⟩ := ints_lst e2
  obtain ⟨_, rfl⟩ := enc_nm e3
  obtain ⟨_, rfl⟩ := text_tx e4
  obtain ⟨_, rfl⟩ := text_tx e5
  subst k1
  unfold wr bod
  simp [nats_zs, bsz_mk, List.append_assoc]
 rw [if_neg k1] at h
 by_cases k2 : k = 2
 ·rw [if_pos k2] at h
  unfold q2 at h
  obtain ⟨⟨a, r1⟩, e1, h⟩ := Option.bind_eq_some_iff.1 h
  obtain ⟨⟨b, r2⟩, e2, h⟩ := Option.bind_eq_some_iff.1 h
  simp only [Option.some.injEq, Prod.mk.injEq] at h e1 e2
  obtain ⟨rfl, rfl⟩ := h
  obtain ⟨_, rfl⟩ := enc_nm e1
  obtain ⟨_, rfl⟩ := enc_nm e2
  subst k2
  unfold wr bod
  simp [List.append_assoc]
 rw [if_neg k2] at h
 by_cases k3 : k = 3
 ·rw [if_pos k3] at h
  unfold q3 at h
  obtain ⟨⟨a, r1⟩, e1, h⟩ := Option.bind_eq_some_iff.1 h
  simp only [Option.some.injEq, Prod.mk.injEq] at h e1
  obtain ⟨rfl, rfl⟩ := h
  obtain ⟨rfl, _⟩ := ints_lst e1
  subst k3
  unfold wr bod
  simp [nats_zs, List.append_assoc]
 rw [if_neg k3] at h
 by_cases k4 : k = 4
 ·rw [if_pos k4] at h
  unfold q4 at h
  obtain ⟨⟨a, r1⟩, e1, h⟩ := Option.bind_eq_some_iff.1 h
  obtain ⟨⟨b, r2⟩, e2, h⟩ := Option.bind_eq_some_iff.1 h
  obtain ⟨⟨w, r3⟩, e3, h⟩ := Option.bind_eq_some_iff.1 h
  obtain ⟨⟨n, r4⟩, e4, h⟩ := Option.bind_eq_some_iff.1 h
  simp only [Option.some.injEq, Prod.mk.injEq] at h e1 e2 e3 e4
  obtain ⟨rfl, rfl⟩ := h
  obtain ⟨_, rfl⟩ := enc_nm e1
  obtain ⟨_, rfl⟩ := enc_nm e2
  obtain ⟨_, rfl⟩ := enc_nm e3
  obtain ⟨_, rfl⟩ := enc_nm e4
  subst k4
  unfold wr bod
  simp [List.append_assoc]
 rw [if_neg k4] at h
 by_cases k5 : k = 5 ∨ k = 6
 ·rw [if_pos k5] at h
  unfold q5 at h
  obtain ⟨⟨a, r1⟩, e1, h⟩ := Option.bind_eq_some_iff.1 h
  obtain ⟨⟨b, r2⟩, e2, h⟩ := Option.bind_eq_some_iff.1 h
  obtain ⟨⟨n, r3⟩, e3, h⟩ := Option.bind_eq_some_iff.1 h
  simp only [Option.some.injEq, Prod.mk.injEq] at h e1 e2 e3
  obtain ⟨rfl, rfl⟩ := h
  obtain ⟨_, rfl⟩ := enc_nm e1
  obtain ⟨_, rfl⟩ := enc_nm e2
  obtain ⟨_, rfl⟩ := enc_nm e3
  rcases k5 with rfl | rfl <;> (unfold wr bod; simp [List.append_assoc])
 ·rw [if_neg k5] at h; cases h
theorem wr_eq {c q : Cm} {t u : List UInt8} (hc : may c) (hq : may q) (h : wr c ++ t = wr q ++ u) : c = q ∧ t = u := by
 have h1 := parse_wr hc t
 rw [h, parse_wr hq u] at h1
 simp only [Option.some.injEq, Prod.mk.injEq] at h1
 exact ⟨h1.1.symm, h1.2.symm⟩
theorem wr_len {c : Cm} (h : may c) : 1 ≤ (wr c).length ∧ (wr c).length ≤ 1024 := by
 have hp := enc_pos c.k.toNat
 refine ⟨by unfold wr; rw [List.length_append]; omega, ?_⟩
 have hk := enc_le c.k.toNat
 unfold wr
 rw [List.length_append]
 suffices hb : (bod c).length ≤ 500 by omega
 unfold bod
 by_cases k1 : c.k = 1
 ·rw [if_pos k1]
  have hm : mgOk c.m := by
   rcases h with h | ⟨_, h, _⟩ | ⟨h, _⟩ | ⟨h, _⟩ | ⟨h, _⟩ | ⟨h, _⟩
   ·rw [h] at k1; exact absurd k1 (by decide)
   ·exact h
   all_goals omega
  obtain ⟨g1, g2, g3⟩ := gs_fit hm
  obtain ⟨_, _, _, _, m5, m6⟩ := hm
  unfold ints text
  simp only [List.length_append, bsz_len]
  have e1 := enc_le c.m.id.toNat
  have e2 := enc_le (nats c.m.gs).length
  have e3 := body_le (nats c.m.gs)
  have e4 := enc_le c.m.tp.toNat
  have e5 := enc_le c.m.key.size
  have e6 := enc_le c.m.body.size
  omega
 rw [if_neg k1]
 have e1 := enc_le c.id.toNat
 have e2 := enc_le c.tm.toNat
 have e3 := enc_le c.tp.toNat
 have e4 := enc_le c.wh.toNat
 have e5 := enc_le c.n.toNat
 by_cases k3 : c.k = 3
 ·have hm : QM.may c.ms = true := by
   rcases h with h | ⟨h, _⟩ | ⟨h, _⟩ | ⟨_, _, _, _, h, _⟩ | ⟨h, _⟩ | ⟨h, _⟩
   ·rw [h] at k3; exact absurd k3 (by decide)
   ·omega
   ·omega
   ·exact h
   all_goals omega
  obtain ⟨g1, g2, g3⟩ := ms_fit hm
  rw [if_neg (by omega), if_pos k3]
  unfold ints
  rw [List.length_append]
  have e6 := enc_le (nats c.ms).length
  have e7 := body_le (nats c.ms)
  omega
 ·split <;> (try rw [if_neg k3]) <;> (try split) <;> (try split) <;> simp only [List.length_append, List.length_nil] <;> omega
def ReadIs (l : List UInt8) (c : Cm) (e : Int) : Prop := (e = 0 ∧ may c ∧ wr c = l) ∨ (e = 3 ∧ c = zero ∧ 1024 < l.length) ∨ (e = 8 ∧ c = zero ∧ l.length ≤ 1024 ∧ ∀ q, may q → wr q ≠ l)
def readF (l : List UInt8) : Cm × Int :=
 if 1024 < l.length then (zero, 3) else
 match parse l with
 | some (c, []) => if may c then (c, 0) else (zero, 8)
 | _ => (zero, 8)
theorem readIs_read (l : List UInt8) : ReadIs l (readF l).1 (readF l).2 := by
 unfold readF
 by_cases h1 : 1024 < l.length
 ·rw [if_pos h1]; exact .inr (.inl ⟨rfl, rfl, h1⟩)
 rw [if_neg h1]
 have no : (∀ c, may c → parse l ≠ some (c, [])) → ReadIs l zero 8 := fun h => .inr (.inr ⟨rfl, rfl, by omega, fun q hq hw => h q hq (by
  have := parse_wr hq []
  rw [List.append_nil, hw] at this
  exact this)⟩)
 rcases hp : parse l with _ | ⟨c, t⟩
 ·exact no (fun c _ h => by rw [hp] at h; cases h)
 ·rcases t with _ | ⟨b, t⟩
  ·simp only
   by_cases hm : may c
   ·rw [if_pos hm]
    have := wr_parse hp
    rw [List.append_nil] at this
    exact .inl ⟨rfl, hm, this⟩
   ·rw [if_neg hm]
    exact no (fun q hq h => by rw [hp] at h; simp only [Option.some.injEq, Prod.mk.injEq] at h; rw [h.1] at hm; exact hm hq)
  ·exact no (fun q hq h => by rw [hp] at h; simp at h)
theorem readIs_eq {l : List UInt8} {c q : Cm} {e f : Int} (h : ReadIs l c e) (k : ReadIs l q f) : c = q ∧ e = f := by
 rcases h with ⟨rfl, h1, h2⟩ | ⟨rfl, rfl, h2⟩ | ⟨rfl, rfl, h2, h3⟩ <;> rcases k with ⟨rfl, k1, k2⟩ | ⟨rfl, rfl, k2⟩ | ⟨rfl, rfl, k2, k3⟩
 ·exact ⟨(wr_eq (t := []) (u := []) h1 k1 (by rw [h2, k2])).1, rfl⟩
 ·have := (wr_len h1).2; rw [h2] at this; omega
 ·exact absurd h2 (k3 _ h1)
 ·have := (wr_len k1).2; rw [k2] at this; omega
 ·exact ⟨rfl, rfl⟩
 ·omega
 ·exact absurd k2 (h3 _ k1)
 ·omega
 ·exact ⟨rfl, rfl⟩
end CM
end Go.Proofs.YteebeiaokfenmaaGreat
