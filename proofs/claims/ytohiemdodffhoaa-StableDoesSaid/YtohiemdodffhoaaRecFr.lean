/-
  The record that a text begins with, read without a look at errors (no program): of a record's text it is that record. Conditions: as each theorem says.
-/
import Derived.Test.YtohiemdodffhoaaRecMath
namespace Go.Proofs.Ytohiemdodffhoaa.RM
set_option linter.unusedVariables false
set_option linter.unusedSimpArgs false
open NM

def gt (l : List UInt8) : Nat × List UInt8 :=
  match dec l with
  | some (n, z) => (n, l.drop z)
  | none => (0, l)
def gs (l : List UInt8) : List UInt8 :=
  match getText l with
  | some (s, _) => s
  | none => []
theorem gt_enc (n : Nat) (r : List UInt8) (h : n ≤ 1099511627776) : gt (enc n ++ r) = (n, r) := by
  unfold gt
  rw [dec_enc n r h]
  simp only
  rw [List.drop_left]
theorem gs_text (s r : List UInt8) (h : s.length ≤ 4096) : gs (text s ++ r) = s := by
  unfold gs
  rw [getText_text s r h]
theorem gt_le (l : List UInt8) : (gt l).1 ≤ 1099511627776 := by
  unfold gt
  rcases hd : dec l with _ | ⟨n, z⟩
  · simp
  · exact (dec_bound l n z hd).1
theorem gs_le (l : List UInt8) : (gs l).length ≤ 4096 := by
  unfold gs
  rcases hd : getText l with _ | ⟨s, z⟩
  · simp
  · exact (text_getText l s z hd).1
def fk (l : List UInt8) : Nat := (gt l).1 % 256
def f1 (l : List UInt8) := (gt l).2
def fg (l : List UInt8) := (gt (f1 l)).1
def f2 (l : List UInt8) := (gt (f1 l)).2
def fs (l : List UInt8) := (gt (f2 l)).1
def f3 (l : List UInt8) := (gt (f2 l)).2
def fb (l : List UInt8) : Nat := if fk l = 1 ∨ fk l = 2 then (gt (f3 l)).1 else 0
def f4 (l : List UInt8) := if fk l = 1 ∨ fk l = 2 then (gt (f3 l)).2 else f3 l
def fv (l : List UInt8) : List UInt8 := if fk l = 2 ∨ fk l = 3 then gs (f4 l) else []
def fr (l : List UInt8) : Rc := ⟨fk l, fg l, fs l, fb l, ⟨(fv l).toArray⟩⟩
theorem fr_wr {r : Rc} (h : may r) : fr (wr r) = r := by
  have k1 := may_k h
  have b1 := may_b h
  have v1 := may_v h
  have g1 := h.1
  have s1 := h.2.1
  have e1 : gt (wr r) = (r.k.toNat, enc r.g.toNat ++ (enc r.s.toNat ++ ((if r.k = 3 then [] else enc r.b.toNat) ++ (if r.k = 1 then [] else text (bsz r.v))))) := gt_enc _ _ (by omega)
  have ek : fk (wr r) = r.k.toNat := by unfold fk; rw [e1]; simp only; omega
  have e2 : gt (f1 (wr r)) = (r.g.toNat, enc r.s.toNat ++ ((if r.k = 3 then [] else enc r.b.toNat) ++ (if r.k = 1 then [] else text (bsz r.v)))) := by
    unfold f1; rw [e1]; exact gt_enc _ _ (by omega)
  have e3 : gt (f2 (wr r)) = (r.s.toNat, (if r.k = 3 then [] else enc r.b.toNat) ++ (if r.k = 1 then [] else text (bsz r.v))) := by
    unfold f2; rw [e2]; exact gt_enc _ _ (by omega)
  have eg : fg (wr r) = r.g.toNat := by unfold fg; rw [e2]
  have es : fs (wr r) = r.s.toNat := by unfold fs; rw [e3]
  have e4 : f3 (wr r) = (if r.k = 3 then [] else enc r.b.toNat) ++ (if r.k = 1 then [] else text (bsz r.v)) := by unfold f3; rw [e3]
  have eb : fb (wr r) = r.b.toNat ∧ f4 (wr r) = if r.k = 1 then [] else text (bsz r.v) := by
    unfold fb f4
    rw [ek]
    by_cases h3 : r.k = 3
    · rw [if_neg (by omega), if_neg (by omega), e4, if_pos h3]
      have : r.b = 0 := by rcases h.2.2 with ⟨e, _⟩ | ⟨e, _⟩ | ⟨_, e, _⟩ <;> omega
      rw [this]
      exact ⟨rfl, rfl⟩
    · have e5 : gt (f3 (wr r)) = (r.b.toNat, if r.k = 1 then [] else text (bsz r.v)) := by
        rw [e4, if_neg h3]; exact gt_enc _ _ (by omega)
      rw [if_pos (by omega), if_pos (by omega), e5]
      exact ⟨rfl, rfl⟩
  have ev : fv (wr r) = bsz r.v := by
    unfold fv
    rw [ek, eb.2]
    by_cases h1 : r.k = 1
    · rw [if_neg (by omega)]
      have : r.v = .empty := by
        rcases h.2.2 with ⟨_, _, e⟩ | ⟨e, _⟩ | ⟨e, _⟩
        · exact e
        · omega
        · omega
      rw [this]; rfl
    · rw [if_pos (by omega), if_neg h1]
      have := gs_text (bsz r.v) [] (by rw [bsz_len]; omega)
      rwa [List.append_nil] at this
  unfold fr
  rw [ek, eg, es, eb.1, ev, mk_bsz]
  obtain ⟨k, g, s, b, v⟩ := r
  simp only at k1 b1 g1 s1 ⊢
  rw [Int.toNat_of_nonneg (by omega), Int.toNat_of_nonneg (by omega), Int.toNat_of_nonneg (by omega), Int.toNat_of_nonneg (by omega)]
theorem fk_le (l : List UInt8) : fk l ≤ 255 := by unfold fk; omega
theorem fg_le (l : List UInt8) : fg l ≤ 1099511627776 := gt_le _
theorem fs_le (l : List UInt8) : fs l ≤ 1099511627776 := gt_le _
theorem fb_le (l : List UInt8) : fb l ≤ 1099511627776 := by
  unfold fb
  split
  · exact gt_le _
  · omega
theorem fv_le (l : List UInt8) : (fv l).length ≤ 4096 := by
  unfold fv
  split
  · exact gs_le _
  · simp

/-- what Write answers -/
def WrIs (r : Rc) (t : ByteArray) (e : Int) : Prop := (may r ∧ t = ⟨(wr r).toArray⟩ ∧ e = 0) ∨ (¬ may r ∧ t = .empty ∧ e = 8)
theorem wrIs_ex (r : Rc) : ∃ t e, WrIs r t e := by
  by_cases h : may r
  · exact ⟨_, _, .inl ⟨h, rfl, rfl⟩⟩
  · exact ⟨_, _, .inr ⟨h, rfl, rfl⟩⟩
theorem wrIs_eq {r : Rc} {t u : ByteArray} {e f : Int} (h : WrIs r t e) (k : WrIs r u f) : t = u ∧ e = f := by
  rcases h with ⟨h, rfl, rfl⟩ | ⟨h, rfl, rfl⟩ <;> rcases k with ⟨k, rfl, rfl⟩ | ⟨k, rfl, rfl⟩
  · exact ⟨rfl, rfl⟩
  · exact absurd h k
  · exact absurd k h
  · exact ⟨rfl, rfl⟩
/-- a text that is too long is no record's -/
theorem readIs_long {l : List UInt8} (h : 1040 < l.length) : ReadIs l zero 8 :=
  .inr ⟨rfl, rfl, fun q hq e => by have := wr_len hq; rw [e] at this; omega⟩
/-- a record that is written as the text that it was read from -/
theorem readIs_fr {s t : ByteArray} {e : Int} (h : WrIs (fr (bsz s)) t e) : (e = 0 ∧ t = s ∧ ReadIs (bsz s) (fr (bsz s)) 0) ∨ (¬ (e = 0 ∧ t = s) ∧ ReadIs (bsz s) zero 8) := by
  by_cases hc : e = 0 ∧ t = s
  · obtain ⟨rfl, rfl⟩ := hc
    refine .inl ⟨rfl, rfl, ?_⟩
    rcases h with ⟨hm, ht, _⟩ | ⟨_, _, h⟩
    · exact .inl ⟨rfl, hm, by conv => rhs; rw [ht, bsz_mk]⟩
    · cases h
  · refine .inr ⟨hc, .inr ⟨rfl, rfl, fun q hq e2 => hc ?_⟩⟩
    have hf := fr_wr hq
    rw [e2] at hf
    rw [hf] at h
    rcases h with ⟨_, ht, he⟩ | ⟨h, _⟩
    · exact ⟨he, by rw [ht, e2, mk_bsz]⟩
    · exact absurd hq h
end Go.Proofs.Ytohiemdodffhoaa.RM
