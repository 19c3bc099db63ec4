/-
  Frames, as plain lists (no program): texts joined one behind the other, and cut off again. Conditions: texts of at most 4096 bytes.
-/
import Derived.Test.YtkdnkaiknmcfmaaNumMath
namespace Go.Proofs.Ytkdnkaiknmcfmaa.NM

def join (l : List (List UInt8)) : List UInt8 := l.flatMap text
theorem join_nil : join [] = [] := rfl
theorem join_cons (s : List UInt8) (l : List (List UInt8)) : join (s :: l) = text s ++ join l := by simp [join]
theorem join_append (l r : List (List UInt8)) : join (l ++ r) = join l ++ join r := by simp [join]
theorem join_snoc (l : List (List UInt8)) (s : List UInt8) : join (l ++ [s]) = join l ++ text s := by rw [join_append, join_cons, join_nil, List.append_nil]
theorem text_pos (s : List UInt8) : 0 < (text s).length := by unfold text; rw [List.length_append]; have := enc_pos s.length; omega
theorem text_le (s : List UInt8) : (text s).length ≤ s.length + 6 := by unfold text; rw [List.length_append]; have := enc_le s.length; omega

/-- the frames with which bytes begin (at most f), and how many bytes these are -/
def cutF : Nat → List UInt8 → List (List UInt8) × Nat
  | 0, _ => ([], 0)
  | f + 1, l =>
    match getText l with
    | none => ([], 0)
    | some (s, k) => (s :: (cutF f (l.drop k)).1, k + (cutF f (l.drop k)).2)
def cut (l : List UInt8) : List (List UInt8) × Nat := cutF (l.length + 1) l

theorem getText_bound (l s : List UInt8) (k : Nat) (h : getText l = some (s, k)) : 1 ≤ k ∧ k ≤ l.length ∧ s.length ≤ 4096 ∧ text s = l.take k := by
  have g := text_getText l s k h
  refine ⟨?_, g.2.1, g.1, g.2.2⟩
  have h1 := text_pos s
  rw [g.2.2, List.length_take] at h1
  omega
theorem cutF_more (f g : Nat) (l : List UInt8) (hf : l.length < f) (hg : l.length < g) : cutF f l = cutF g l := by
  induction f generalizing g l with
  | zero => omega
  | succ f ih =>
    cases g with
    | zero => omega
    | succ g =>
      rw [cutF, cutF]
      match hd : getText l with
      | none => rfl
      | some (s, k) =>
        have b := getText_bound l s k hd
        have e := ih g (l.drop k) (by rw [List.length_drop]; omega) (by rw [List.length_drop]; omega)
        simp only [e]
theorem cut_none (l : List UInt8) (h : getText l = none) : cut l = ([], 0) := by
  unfold cut; rw [cutF, h]
theorem cut_some (l s : List UInt8) (k : Nat) (h : getText l = some (s, k)) : cut l = (s :: (cut (l.drop k)).1, k + (cut (l.drop k)).2) := by
  have b := getText_bound l s k h
  have e := cutF_more l.length ((l.drop k).length + 1) (l.drop k) (by rw [List.length_drop]; omega) (by omega)
  have e2 : cut l = (s :: (cutF l.length (l.drop k)).1, k + (cutF l.length (l.drop k)).2) := by unfold cut; rw [cutF, h]
  rw [e2, e]; rfl
/-- a text and what stands behind it -/
theorem cut_text (s r : List UInt8) (h : s.length ≤ 4096) : cut (text s ++ r) = (s :: (cut r).1, (text s).length + (cut r).2) := by
  rw [cut_some _ s _ (getText_text s r h), List.drop_left]
/-- a part of a frame, ahead of its end, is none -/
theorem getText_torn (s : List UInt8) (r : Nat) (h : s.length ≤ 4096) (hr : r < (text s).length) : getText ((text s).take r) = none := by
  match hd : getText ((text s).take r) with
  | none => rfl
  | some (t, k) =>
    exfalso
    have b := getText_bound _ t k hd
    have hk : k ≤ r := by have := b.2.1; rw [List.length_take] at this; omega
    have e1 : text t = (text s).take k := by rw [b.2.2.2, List.take_take, Nat.min_eq_left hk]
    have e2 : text s = text t ++ (text s).drop k := by rw [e1, List.take_append_drop]
    have g1 := getText_text s [] h
    rw [List.append_nil, e2, getText_text t _ b.2.2.1] at g1
    simp only [Option.some.injEq, Prod.mk.injEq] at g1
    have e3 := g1.2
    rw [List.length_append] at e3
    have e4 : (text t).length = k := by rw [e1, List.length_take]; omega
    have e5 : ((text s).drop k).length = (text s).length - k := by rw [List.length_drop]
    omega
/-- cut of texts that are joined is all of them -/
theorem cut_join (l : List (List UInt8)) (r : List UInt8) (h : ∀ s ∈ l, s.length ≤ 4096) : cut (join l ++ r) = (l ++ (cut r).1, (join l).length + (cut r).2) := by
  induction l with
  | nil => simp [join_nil]
  | cons s l ih =>
    rw [join_cons, List.append_assoc, cut_text s _ (h s (by simp)), ih fun t ht => h t (by simp [ht])]
    simp [List.length_append, Nat.add_assoc]
/-- where frames are broken off anywhere, just those are told that are whole -/
theorem cut_torn (l : List (List UInt8)) (left : Nat) (h : ∀ s ∈ l, s.length ≤ 4096) (hl : left ≤ (join l).length) :
    ∃ j, j ≤ l.length ∧ cut ((join l).take left) = (l.take j, (join (l.take j)).length) ∧ (join (l.take j)).length ≤ left ∧ ∀ hj : j < l.length, left < (join (l.take j)).length + (text l[j]).length := by
  induction l generalizing left with
  | nil =>
    have e : left = 0 := by simpa [join_nil] using hl
    subst e
    exact ⟨0, by omega, by rw [cut_none _ (by decide)]; rfl, by simp [join_nil], fun hj => by simp at hj⟩
  | cons s l ih =>
    rw [join_cons] at hl ⊢
    have hs := h s (by simp)
    by_cases hlt : left < (text s).length
    · refine ⟨0, by omega, ?_, by simp [join_nil], fun _ => by simpa [join_nil] using hlt⟩
      rw [List.take_append_of_le_length (by omega), cut_none _ (getText_torn s left hs hlt)]
      rfl
    · rw [List.length_append] at hl
      obtain ⟨j, hj1, hj2, hj3, hj4⟩ := ih (left - (text s).length) (fun t ht => h t (by simp [ht])) (by omega)
      refine ⟨j + 1, by simp; omega, ?_, ?_, ?_⟩
      · rw [List.take_append, List.take_of_length_le (by omega), cut_text s _ hs, hj2]
        simp [join_cons, List.length_append]
      · simp only [List.take_succ_cons, join_cons, List.length_append]; omega
      · intro hj
        have := hj4 (by simpa using hj)
        simp only [List.take_succ_cons, join_cons, List.length_append, List.getElem_cons_succ]
        omega
/-- what is cut off is joined as just these bytes -/
theorem join_cut (f : Nat) (l : List UInt8) : join (cutF f l).1 = l.take (cutF f l).2 ∧ (cutF f l).2 ≤ l.length ∧ (∀ s ∈ (cutF f l).1, s.length ≤ 4096) ∧ (cutF f l).1.length ≤ (cutF f l).2 := by
  induction f generalizing l with
  | zero => simp [cutF, join_nil]
  | succ f ih =>
    rw [cutF]
    match hd : getText l with
    | none => simp [join_nil]
    | some (s, k) =>
      have b := getText_bound l s k hd
      obtain ⟨h1, h2, h3, h4⟩ := ih (l.drop k)
      rw [List.length_drop] at h2
      refine ⟨?_, by simp only; omega, ?_, by simp only [List.length_cons]; omega⟩
      · simp only [join_cons, h1, b.2.2.2, List.take_add]
      · intro t ht
        rcases List.mem_cons.1 ht with rfl | ht
        · exact b.2.2.1
        · exact h3 t ht
end Go.Proofs.Ytkdnkaiknmcfmaa.NM
