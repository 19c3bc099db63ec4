/-
  Records as bytes (no program): the text of one that may be, what a text is read as, and what follows. Conditions: as each theorem says.
-/
import Derived.Test.YtnpgjcapekopnaaGreatNumMath
import Derived.Test.YtnpgjcapekopnaaGreatBallotMath
namespace Go.Proofs.YtnpgjcapekopnaaGreat.RM
set_option linter.unusedVariables false
set_option linter.unusedSimpArgs false
open NM

structure Rc where
  k : Int
  g : Int
  s : Int
  b : Int
  v : ByteArray
  deriving DecidableEq
def zero : Rc := ⟨0, 0, 0, 0, .empty⟩
/-- may a record be? -/
def may (r : Rc) : Prop := (0 ≤ r.g ∧ r.g ≤ 3) ∧ (1 ≤ r.s ∧ r.s ≤ 200) ∧
  ((r.k = 1 ∧ BM.good r.b ∧ r.v = .empty) ∨ (r.k = 2 ∧ BM.good r.b ∧ r.v.size ≤ 1024) ∨ (r.k = 3 ∧ r.b = 0 ∧ r.v.size ≤ 1024))
instance (r : Rc) : Decidable (may r) := by unfold may BM.good; infer_instance
def bsz (v : ByteArray) : List UInt8 := v.data.toList
theorem bsz_len (v : ByteArray) : (bsz v).length = v.size := Array.length_toList ..
theorem bsz_eq {v u : ByteArray} (h : bsz v = bsz u) : v = u := by
  obtain ⟨⟨a⟩⟩ := v
  obtain ⟨⟨b⟩⟩ := u
  unfold bsz at h
  simp at h
  rw [h]
/-- its text -/
def wr (r : Rc) : List UInt8 := enc r.k.toNat ++ (enc r.g.toNat ++ (enc r.s.toNat ++ ((if r.k = 3 then [] else enc r.b.toNat) ++ (if r.k = 1 then [] else text (bsz r.v)))))
/-- what it begins with, number by number: the number, and what is left -/
def num (hi : Nat) (l : List UInt8) : Option (Nat × List UInt8) :=
  match dec l with
  | some (n, z) => if n ≤ hi then some (n, l.drop z) else none
  | none => none
def txt (hi : Nat) (l : List UInt8) : Option (List UInt8 × List UInt8) :=
  match getText l with
  | some (s, z) => if s.length ≤ hi then some (s, l.drop z) else none
  | none => none
theorem num_enc (n hi : Nat) (r : List UInt8) (h : n ≤ hi) (h2 : n ≤ 1099511627776) : num hi (enc n ++ r) = some (n, r) := by
  unfold num
  rw [dec_enc n r h2]
  simp only
  rw [if_pos h, List.drop_left]
theorem enc_num {hi n : Nat} {l r : List UInt8} (h : num hi l = some (n, r)) : n ≤ hi ∧ n ≤ 1099511627776 ∧ l = enc n ++ r := by
  unfold num at h
  match hd : dec l with
  | none => rw [hd] at h; simp at h
  | some (m, z) =>
    rw [hd] at h
    simp only at h
    have hb := dec_bound l m z hd
    by_cases hm : m ≤ hi
    · rw [if_pos hm] at h
      simp only [Option.some.injEq, Prod.mk.injEq] at h
      obtain ⟨rfl, rfl⟩ := h
      exact ⟨hm, hb.1, by rw [hb.2.2.2.2]; exact (List.take_append_drop z l).symm⟩
    · rw [if_neg hm] at h; simp at h
theorem txt_text (s r : List UInt8) (hi : Nat) (h : s.length ≤ hi) (h2 : s.length ≤ 4096) : txt hi (text s ++ r) = some (s, r) := by
  unfold txt
  rw [getText_text s r h2]
  simp only
  rw [if_pos h, List.drop_left]
theorem text_txt {hi : Nat} {l s r : List UInt8} (h : txt hi l = some (s, r)) : s.length ≤ hi ∧ s.length ≤ 4096 ∧ l = text s ++ r := by
  unfold txt at h
  match hd : getText l with
  | none => rw [hd] at h; simp at h
  | some (m, z) =>
    rw [hd] at h
    simp only at h
    have hb := text_getText l m z hd
    by_cases hm : m.length ≤ hi
    · rw [if_pos hm] at h
      simp only [Option.some.injEq, Prod.mk.injEq] at h
      obtain ⟨rfl, rfl⟩ := h
      exact ⟨hm, hb.1, by rw [hb.2.2]; exact (List.take_append_drop z l).symm⟩
    · rw [if_neg hm] at h; simp at h
/-- two texts, one of which begins with the other's bytes, are one: numbers -/
theorem enc_eq {n m : Nat} {r t : List UInt8} (hn : n ≤ 1099511627776) (hm : m ≤ 1099511627776) (h : enc n ++ r = enc m ++ t) : n = m ∧ r = t := by
  have h1 := dec_enc n r hn
  rw [h, dec_enc m t hm] at h1
  simp only [Option.some.injEq, Prod.mk.injEq] at h1
  obtain ⟨rfl, _⟩ := h1
  exact ⟨rfl, List.append_cancel_left h⟩
theorem text_eq {s u r t : List UInt8} (hs : s.length ≤ 4096) (hu : u.length ≤ 4096) (h : text s ++ r = text u ++ t) : s = u ∧ r = t := by
  have h1 := getText_text s r hs
  rw [h, getText_text u t hu] at h1
  simp only [Option.some.injEq, Prod.mk.injEq] at h1
  obtain ⟨rfl, _⟩ := h1
  exact ⟨rfl, List.append_cancel_left h⟩
theorem may_k {r : Rc} (h : may r) : 1 ≤ r.k ∧ r.k ≤ 3 := by rcases h.2.2 with ⟨h, _⟩ | ⟨h, _⟩ | ⟨h, _⟩ <;> omega
theorem may_b {r : Rc} (h : may r) : 0 ≤ r.b ∧ r.b ≤ 8388613 := by rcases h.2.2 with ⟨_, h, _⟩ | ⟨_, h, _⟩ | ⟨_, h, _⟩ <;> (try unfold BM.good at h) <;> omega
theorem may_v {r : Rc} (h : may r) : r.v.size ≤ 1024 := by
  rcases h.2.2 with ⟨_, _, h⟩ | ⟨_, _, h⟩ | ⟨_, _, h⟩
  · rw [h]; decide
  · exact h
  · exact h
/-- no beginning of a text is another one's -/
theorem wr_eq {r q : Rc} {t u : List UInt8} (hr : may r) (hq : may q) (h : wr r ++ t = wr q ++ u) : r = q ∧ t = u := by
  have k1 := may_k hr
  have k2 := may_k hq
  have b1 := may_b hr
  have b2 := may_b hq
  have v1 := may_v hr
  have v2 := may_v hq
  have g1 := hr.1
  have g2 := hq.1
  have s1 := hr.2.1
  have s2 := hq.2.1
  unfold wr at h
  simp only [List.append_assoc] at h
  obtain ⟨e1, h⟩ := enc_eq (by omega) (by omega) h
  obtain ⟨e2, h⟩ := enc_eq (by omega) (by omega) h
  obtain ⟨e3, h⟩ := enc_eq (by omega) (by omega) h
  have ek : r.k = q.k := by omega
  have hb : r.b = q.b ∧ (if r.k = 1 then [] else text (bsz r.v)) ++ t = (if q.k = 1 then [] else text (bsz q.v)) ++ u := by
    by_cases h3 : r.k = 3
    · have q3 : q.k = 3 := by omega
      rw [if_pos h3, if_pos q3] at h
      refine ⟨?_, h⟩
      rcases hr.2.2 with ⟨e, _⟩ | ⟨e, _⟩ | ⟨_, e, _⟩
      · omega
      · omega
      rcases hq.2.2 with ⟨e', _⟩ | ⟨e', _⟩ | ⟨_, e', _⟩
      · omega
      · omega
      · omega
    · have q3 : ¬ q.k = 3 := by omega
      rw [if_neg h3, if_neg q3] at h
      obtain ⟨e4, h⟩ := enc_eq (by omega) (by omega) h
      exact ⟨by omega, h⟩
  obtain ⟨eb, h⟩ := hb
  have hv : r.v = q.v ∧ t = u := by
    by_cases h1 : r.k = 1
    · have q1 : q.k = 1 := by omega
      rw [if_pos h1, if_pos q1] at h
      refine ⟨?_, h⟩
      rcases hr.2.2 with ⟨_, _, e⟩ | ⟨e, _⟩ | ⟨e, _⟩
      · rcases hq.2.2 with ⟨_, _, e'⟩ | ⟨e', _⟩ | ⟨e', _⟩
        · rw [e, e']
        · omega
        · omega
      · omega
      · omega
    · have q1 : ¬ q.k = 1 := by omega
      rw [if_neg h1, if_neg q1] at h
      obtain ⟨e5, h⟩ := text_eq (by rw [bsz_len]; omega) (by rw [bsz_len]; omega) h
      exact ⟨bsz_eq e5, h⟩
  obtain ⟨ev, et⟩ := hv
  refine ⟨?_, et⟩
  obtain ⟨k, g, s, b, v⟩ := r
  obtain ⟨k', g', s', b', v'⟩ := q
  simp only at ek e2 e3 eb ev g1 g2 s1 s2
  have : g = g' := by omega
  have : s = s' := by omega
  subst ek eb ev
  subst g' s'
  rfl
/-- what a text is read as -/
def ReadIs (l : List UInt8) (r : Rc) (e : Int) : Prop := (e = 0 ∧ may r ∧ wr r = l) ∨ (e = 8 ∧ r = zero ∧ ∀ q, may q → wr q ≠ l)
theorem readIs_eq {l : List UInt8} {r q : Rc} {e f : Int} (h : ReadIs l r e) (k : ReadIs l q f) : r = q ∧ e = f := by
  rcases h with ⟨rfl, h1, h2⟩ | ⟨rfl, rfl, h2⟩ <;> rcases k with ⟨rfl, k1, k2⟩ | ⟨rfl, rfl, k2⟩
  · exact ⟨(wr_eq (t := []) (u := []) h1 k1 (by rw [h2, k2])).1, rfl⟩
  · exact absurd h2 (k2 _ h1)
  · exact absurd k2 (h2 _ k1)
  · exact ⟨rfl, rfl⟩
theorem readIs_wr {r q : Rc} {e : Int} (hr : may r) (h : ReadIs (wr r) q e) : q = r ∧ e = 0 := by
  have := readIs_eq h (.inl ⟨rfl, hr, rfl⟩)
  exact this
/-- a beginning of a text is no text -/
theorem readIs_cut {r q : Rc} {e : Int} {n : Nat} (hr : may r) (hn : n < (wr r).length) (h : ReadIs ((wr r).take n) q e) : e = 8 := by
  rcases h with ⟨_, hq, hw⟩ | ⟨h, _⟩
  · exfalso
    have := (wr_eq (t := (wr r).drop n) (u := []) hq hr (by rw [hw, List.take_append_drop, List.append_nil])).2
    have h2 := congrArg List.length this
    rw [List.length_drop] at h2
    simp at h2
    omega
  · exact h
theorem encF_small {f n : Nat} (h : n < 128) : (encF f n).length = 1 := by
  cases f with
  | zero => rfl
  | succ f => unfold encF; rw [if_pos h]; rfl
theorem encF_two {f n : Nat} (h : n < 16384) : (encF f n).length ≤ 2 := by
  cases f with
  | zero => exact Nat.le_succ_of_le (Nat.le_refl 1)
  | succ f =>
    unfold encF
    split
    · exact Nat.le_succ_of_le (Nat.le_refl 1)
    · rw [List.length_cons, encF_small (by omega)]; exact Nat.le_refl _
theorem encF_four {f n : Nat} (h : n < 268435456) : (encF f n).length ≤ 4 := by
  cases f with
  | zero => show 1 ≤ 4; decide
  | succ f =>
    unfold encF
    split
    · show 1 ≤ 4; decide
    · cases f with
      | zero => show 2 ≤ 4; decide
      | succ f =>
        rw [List.length_cons]
        unfold encF
        split
        · show 2 ≤ 4; decide
        · rw [List.length_cons]
          have := encF_two (f := f) (n := n / 128 / 128) (by omega)
          omega
theorem wr_len {r : Rc} (h : may r) : (wr r).length ≤ 1040 := by
  have k1 := may_k h
  have b1 := may_b h
  have v1 := may_v h
  have g1 := h.1
  have s1 := h.2.1
  have e1 : (enc r.k.toNat).length = 1 := encF_small (by omega)
  have e2 : (enc r.g.toNat).length = 1 := encF_small (by omega)
  have e3 : (enc r.s.toNat).length ≤ 2 := encF_two (by omega)
  have e4 : (enc r.b.toNat).length ≤ 4 := encF_four (by omega)
  have e5 : (text (bsz r.v)).length ≤ 1026 := by
    unfold text
    rw [List.length_append, bsz_len]
    have : (enc r.v.size).length ≤ 2 := encF_two (by omega)
    omega
  unfold wr
  simp only [List.length_append]
  split <;> split <;> (try simp only [List.length_nil]) <;> omega

/-- what is read, step by step: the record, and what is left -/
def parse (l : List UInt8) : Option (Rc × List UInt8) :=
  match num 3 l with
  | none => none
  | some (k, l) =>
    match num 3 l with
    | none => none
    | some (g, l) =>
      match num 200 l with
      | none => none
      | some (s, l) =>
        match (if k = 3 then some (0, l) else num 8388613 l) with
        | none => none
        | some (b, l) =>
          match (if k = 1 then some ([], l) else txt 1024 l) with
          | none => none
          | some (v, l) => some (⟨k, g, s, b, ⟨v.toArray⟩⟩, l)
def read (l : List UInt8) : Option Rc :=
  match parse l with
  | some (r, []) => if may r then some r else none
  | _ => none
theorem bsz_mk (v : List UInt8) : bsz ⟨v.toArray⟩ = v := rfl
theorem mk_bsz (v : ByteArray) : (⟨(bsz v).toArray⟩ : ByteArray) = v := bsz_eq (bsz_mk _)
theorem parse_wr {r : Rc} (h : may r) (t : List UInt8) : parse (wr r ++ t) = some (r, t) := by
  have k1 := may_k h
  have b1 := may_b h
  have v1 := may_v h
  have g1 := h.1
  have s1 := h.2.1
  unfold parse wr
  simp only [List.append_assoc]
  rw [num_enc _ _ _ (by omega) (by omega)]
  simp only
  rw [num_enc _ _ _ (by omega) (by omega)]
  simp only
  rw [num_enc _ _ _ (by omega) (by omega)]
  simp only
  have hb : (if r.k.toNat = 3 then some (0, (if r.k = 3 then [] else enc r.b.toNat) ++ ((if r.k = 1 then [] else text (bsz r.v)) ++ t)) else num 8388613 ((if r.k = 3 then [] else enc r.b.toNat) ++ ((if r.k = 1 then [] else text (bsz r.v)) ++ t))) = some (r.b.toNat, (if r.k = 1 then [] else text (bsz r.v)) ++ t) := by
    by_cases h3 : r.k = 3
    · have n3 : r.k.toNat = 3 := by omega
      rw [if_pos n3, if_pos h3]
      have : r.b = 0 := by rcases h.2.2 with ⟨e, _⟩ | ⟨e, _⟩ | ⟨_, e, _⟩ <;> omega
      rw [this]; rfl
    · have n3 : ¬ r.k.toNat = 3 := by omega
      rw [if_neg n3, if_neg h3, num_enc _ _ _ (by omega) (by omega)]
  rw [hb]
  simp only
  have hv : (if r.k.toNat = 1 then some ([], (if r.k = 1 then [] else text (bsz r.v)) ++ t) else txt 1024 ((if r.k = 1 then [] else text (bsz r.v)) ++ t)) = some (bsz r.v, t) := by
    by_cases h1 : r.k = 1
    · have n1 : r.k.toNat = 1 := by omega
      rw [if_pos n1, if_pos h1]
      have : r.v = .empty := by
        rcases h.2.2 with ⟨_, _, e⟩ | ⟨e, _⟩ | ⟨e, _⟩
        · exact e
        · omega
        · omega
      rw [this]; rfl
    · have n1 : ¬ r.k.toNat = 1 := by omega
      rw [if_neg n1, if_neg h1, txt_text _ _ _ (by rw [bsz_len]; omega) (by rw [bsz_len]; omega)]
  rw [hv]
  simp only
  rw [mk_bsz]
  obtain ⟨k, g, s, b, v⟩ := r
  simp only at k1 b1 g1 s1 ⊢
  rw [Int.toNat_of_nonneg (by omega), Int.toNat_of_nonneg (by omega), Int.toNat_of_nonneg (by omega), Int.toNat_of_nonneg (by omega)]
theorem wr_parse {l t : List UInt8} {r : Rc} (h : parse l = some (r, t)) : wr r ++ t = l := by
  unfold parse at h
  match h1 : num 3 l with
  | none => rw [h1] at h; simp at h
  | some (k, l1) =>
    rw [h1] at h
    simp only at h
    match h2 : num 3 l1 with
    | none => rw [h2] at h; simp at h
    | some (g, l2) =>
      rw [h2] at h
      simp only at h
      match h3 : num 200 l2 with
      | none => rw [h3] at h; simp at h
      | some (s, l3) =>
        rw [h3] at h
        simp only at h
        obtain ⟨_, _, e1⟩ := enc_num h1
        obtain ⟨_, _, e2⟩ := enc_num h2
        obtain ⟨_, _, e3⟩ := enc_num h3
        match h4 : (if k = 3 then some (0, l3) else num 8388613 l3) with
        | none => rw [h4] at h; simp at h
        | some (b, l4) =>
          rw [h4] at h
          simp only at h
          have e4 : (if (k : Int) = 3 then [] else enc b) ++ l4 = l3 := by
            by_cases k3 : k = 3
            · rw [if_pos k3] at h4
              simp only [Option.some.injEq, Prod.mk.injEq] at h4
              rw [if_pos (show (k : Int) = 3 by omega), h4.2]; rfl
            · rw [if_neg k3] at h4
              obtain ⟨_, _, e⟩ := enc_num h4
              rw [if_neg (show ¬ (k : Int) = 3 by omega), e]
          match h5 : (if k = 1 then some ([], l4) else txt 1024 l4) with
          | none => rw [h5] at h; simp at h
          | some (v, l5) =>
            rw [h5] at h
            simp only [Option.some.injEq, Prod.mk.injEq] at h
            obtain ⟨rfl, rfl⟩ := h
            have e5 : (if (k : Int) = 1 then [] else text v) ++ l5 = l4 := by
              by_cases k3 : k = 1
              · rw [if_pos k3] at h5
                simp only [Option.some.injEq, Prod.mk.injEq] at h5
                rw [if_pos (show (k : Int) = 1 by omega), h5.2]; rfl
              · rw [if_neg k3] at h5
                obtain ⟨_, _, e⟩ := text_txt h5
                rw [if_neg (show ¬ (k : Int) = 1 by omega), e]
            unfold wr
            simp only [Int.toNat_natCast, bsz_mk, List.append_assoc]
            rw [e5, e4, ← e3, ← e2, ← e1]
theorem readIs_read (l : List UInt8) : ReadIs l ((read l).getD zero) (if (read l).isSome then 0 else 8) := by
  match h : read l with
  | some r =>
    refine .inl ⟨rfl, ?_⟩
    unfold read at h
    split at h
    · rename_i q hp
      by_cases hm : may q
      · rw [if_pos hm] at h
        simp only [Option.some.injEq] at h
        subst h
        have := wr_parse hp
        rw [List.append_nil] at this
        exact ⟨hm, this⟩
      · rw [if_neg hm] at h; simp at h
    · simp at h
  | none =>
    refine .inr ⟨rfl, rfl, fun q hq e => ?_⟩
    have hp := parse_wr hq []
    rw [List.append_nil, e] at hp
    unfold read at h
    rw [hp] at h
    simp only at h
    rw [if_pos hq] at h
    simp at h
/-! ### a reader: what is left, or nothing once something was wrong -/
def nx (hi : Nat) : Option (List UInt8) → Option (List UInt8)
  | some l => (num hi l).map (·.2)
  | none => none
def nv (hi : Nat) : Option (List UInt8) → Nat
  | some l => ((num hi l).map (·.1)).getD 0
  | none => 0
def tx (hi : Nat) : Option (List UInt8) → Option (List UInt8)
  | some l => (txt hi l).map (·.2)
  | none => none
def tv (hi : Nat) : Option (List UInt8) → List UInt8
  | some l => ((txt hi l).map (·.1)).getD []
  | none => []
def o1 (l : List UInt8) := nx 3 (some l)
def o2 (l : List UInt8) := nx 3 (o1 l)
def o3 (l : List UInt8) := nx 200 (o2 l)
def kk (l : List UInt8) := nv 3 (some l)
def gg (l : List UInt8) := nv 3 (o1 l)
def ss (l : List UInt8) := nv 200 (o2 l)
def o4 (l : List UInt8) := if kk l = 3 then o3 l else nx 8388613 (o3 l)
def bb (l : List UInt8) := if kk l = 3 then 0 else nv 8388613 (o3 l)
def o5 (l : List UInt8) := if kk l = 1 then o4 l else tx 1024 (o4 l)
def vv (l : List UInt8) := if kk l = 1 then [] else tv 1024 (o4 l)
def out (l : List UInt8) : Rc := ⟨kk l, gg l, ss l, bb l, ⟨(vv l).toArray⟩⟩
theorem chain_parse (l t : List UInt8) : o5 l = some t ↔ parse l = some (out l, t) := by
  rcases h1 : num 3 l with _ | ⟨k, l1⟩
  · simp [o5, o4, o3, o2, o1, kk, gg, ss, bb, vv, out, parse, nx, nv, tx, tv, h1]
  rcases h2 : num 3 l1 with _ | ⟨g, l2⟩
  · simp [o5, o4, o3, o2, o1, kk, gg, ss, bb, vv, out, parse, nx, nv, tx, tv, h1, h2]
  rcases h3 : num 200 l2 with _ | ⟨s, l3⟩
  · simp [o5, o4, o3, o2, o1, kk, gg, ss, bb, vv, out, parse, nx, nv, tx, tv, h1, h2, h3]
  by_cases k3 : k = 3
  · subst k3
    rcases h5 : txt 1024 l3 with _ | ⟨v, l5⟩
    · simp [o5, o4, o3, o2, o1, kk, gg, ss, bb, vv, out, parse, nx, nv, tx, tv, h1, h2, h3, h5]
    · simp [o5, o4, o3, o2, o1, kk, gg, ss, bb, vv, out, parse, nx, nv, tx, tv, h1, h2, h3, h5]
  rcases h4 : num 8388613 l3 with _ | ⟨b, l4⟩
  · simp [o5, o4, o3, o2, o1, kk, gg, ss, bb, vv, out, parse, nx, nv, tx, tv, h1, h2, h3, h4, k3]
  by_cases k1 : k = 1
  · subst k1
    simp [o5, o4, o3, o2, o1, kk, gg, ss, bb, vv, out, parse, nx, nv, tx, tv, h1, h2, h3, h4]
  rcases h5 : txt 1024 l4 with _ | ⟨v, l5⟩
  · simp [o5, o4, o3, o2, o1, kk, gg, ss, bb, vv, out, parse, nx, nv, tx, tv, h1, h2, h3, h4, h5, k3, k1]
  · simp [o5, o4, o3, o2, o1, kk, gg, ss, bb, vv, out, parse, nx, nv, tx, tv, h1, h2, h3, h4, h5, k3, k1]
theorem out_of {l t : List UInt8} {r : Rc} (h : parse l = some (r, t)) : o5 l = some t ∧ out l = r := by
  rcases h1 : num 3 l with _ | ⟨k, l1⟩
  · simp [parse, h1] at h
  rcases h2 : num 3 l1 with _ | ⟨g, l2⟩
  · simp [parse, h1, h2] at h
  rcases h3 : num 200 l2 with _ | ⟨s, l3⟩
  · simp [parse, h1, h2, h3] at h
  by_cases k3 : k = 3
  · subst k3
    rcases h5 : txt 1024 l3 with _ | ⟨v, l5⟩
    · simp [parse, h1, h2, h3, h5] at h
    · simp [parse, h1, h2, h3, h5] at h
      obtain ⟨rfl, rfl⟩ := h
      simp [o5, o4, o3, o2, o1, kk, gg, ss, bb, vv, out, nx, nv, tx, tv, h1, h2, h3, h5]
  rcases h4 : num 8388613 l3 with _ | ⟨b, l4⟩
  · simp [parse, h1, h2, h3, h4, k3] at h
  by_cases k1 : k = 1
  · subst k1
    simp [parse, h1, h2, h3, h4] at h
    obtain ⟨rfl, rfl⟩ := h
    simp [o5, o4, o3, o2, o1, kk, gg, ss, bb, vv, out, nx, nv, tx, tv, h1, h2, h3, h4]
  rcases h5 : txt 1024 l4 with _ | ⟨v, l5⟩
  · simp [parse, h1, h2, h3, h4, h5, k3, k1] at h
  · simp [parse, h1, h2, h3, h4, h5, k3, k1] at h
    obtain ⟨rfl, rfl⟩ := h
    simp [o5, o4, o3, o2, o1, kk, gg, ss, bb, vv, out, nx, nv, tx, tv, h1, h2, h3, h4, h5, k3, k1]
/-- what a reader makes of a text is what it is read as -/
theorem readIs_chain (l : List UInt8) (r : Rc) (e : Int) (h : (o5 l = some [] ∧ may (out l) ∧ r = out l ∧ e = 0) ∨ (¬ (o5 l = some [] ∧ may (out l)) ∧ r = zero ∧ e = 8)) : ReadIs l r e := by
  rcases h with ⟨h1, h2, rfl, rfl⟩ | ⟨h, rfl, rfl⟩
  · have := wr_parse ((chain_parse l []).1 h1)
    rw [List.append_nil] at this
    exact .inl ⟨rfl, h2, this⟩
  · refine .inr ⟨rfl, rfl, fun q hq e => h ?_⟩
    have hp := parse_wr hq []
    rw [List.append_nil, e] at hp
    obtain ⟨a, b⟩ := out_of hp
    exact ⟨a, by rw [b]; exact hq⟩
end Go.Proofs.YtnpgjcapekopnaaGreat.RM
