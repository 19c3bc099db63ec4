/- Contracts of functions of towncrier, layers 5 to 9, and of the document's own ones, part 3; each as its theorem says. -/
import Derived.Test.YtiiobafcgdelmaaGreatL02
import Derived.Test.YtiiobafcgdelmaaGreatL01
import Derived.Laws.OwnMore
set_option linter.unusedVariables false
set_option linter.unusedSimpArgs false
namespace Go.Proofs.YtiiobafcgdelmaaGreat.AM
def Srt {α : Type} (key : α → Int) (l : List α) : Prop := l.Pairwise fun a b => key a < key b
def insK {α : Type} (key : α → Int) (l : List α) (p : α) : List α := l.takeWhile (fun q => decide (key q < key p)) ++ p :: l.dropWhile (fun q => decide (key q < key p))
theorem insK_cons {α : Type} (key : α → Int) (q : α) (l : List α) (p : α) : insK key (q :: l) p = if key q < key p then q :: insK key l p else p :: q :: l := by
 unfold insK
 rw [List.takeWhile_cons, List.dropWhile_cons]
 by_cases h : key q < key p <;> simp [h]
theorem mem_insK {α : Type} (key : α → Int) (l : List α) (p x : α) : x ∈ insK key l p ↔ x = p ∨ x ∈ l := by
 induction l with
 | nil => simp [insK]
 | cons q l ih =>
  rw [insK_cons]
  split
  ·rw [List.mem_cons, ih, List.mem_cons]
   constructor
   ·rintro (h | h | h)
    ·exact .inr (.inl h)
    ·exact .inl h
    ·exact .inr (.inr h)
   ·rintro (h | h | h)
    ·exact .inr (.inl h)
    ·exact .inl h
    ·exact .inr (.inr h)
  ·rw [List.mem_cons]
theorem srt_insK {α : Type} (key : α → Int) {l : List α} {p : α} (h : Srt key l) (hp : ∀ q ∈ l, key q ≠ key p) : Srt key (insK key l p) := by
 induction l with
 | nil => simp [insK, Srt]
 | cons q l ih =>
  have g := List.pairwise_cons.1 h
  rw [insK_cons]
  split
  ·rename_i hlt
   refine List.pairwise_cons.2 ⟨fun x hx => ?_, ih g.2 (fun r hr => hp r (List.mem_cons_of_mem _ hr))⟩
   rcases (mem_insK key l p x).1 hx with rfl | hx
   ·exact hlt
   ·exact g.1 x hx
  ·rename_i hlt
   have hne := hp q (List.mem_cons_self ..)
   refine List.pairwise_cons.2 ⟨fun x hx => ?_, h⟩
   rcases List.mem_cons.1 hx with rfl | hx
   ·omega
   ·have := g.1 x hx; omega
theorem insI_K (l : List Int) (x : Int) : insI l x = insK (fun y => y) l x := rfl
theorem insP_K (l : List Pr) (p : Pr) : insP l p = insK (·.n) l p := rfl
theorem nodes_insP (l : List Pr) (p : Pr) : nodes (insP l p) = insI (nodes l) p.n := by
 rw [insI_K, insP_K]
 induction l with
 | nil => rfl
 | cons q l ih =>
  rw [insK_cons, show nodes (q :: l) = q.n :: nodes l from rfl, insK_cons]
  split
  ·rw [show nodes (q :: insK (·.n) l p) = q.n :: nodes (insK (·.n) l p) from rfl, ih]
  ·rfl
theorem rise_iff {p : Int} {l : List Int} : QM.rise p l = true ↔ Srt (fun y : Int => y) l ∧ ∀ x ∈ l, p < x ∧ x < 6 := by
 induction l generalizing p with
 | nil => simp [QM.rise, Srt]
 | cons x l ih =>
  simp only [QM.rise, Bool.and_eq_true, decide_eq_true_eq]
  rw [ih]
  unfold Srt
  rw [List.pairwise_cons]
  constructor
  ·rintro ⟨h1, h2, h3, h4⟩
   refine ⟨⟨fun y hy => (h4 y hy).1, h3⟩, fun y hy => ?_⟩
   rcases List.mem_cons.1 hy with rfl | hy
   ·exact ⟨h1, h2⟩
   ·have := h4 y hy; omega
  ·rintro ⟨⟨h1, h2⟩, h3⟩
   have := h3 x (List.mem_cons_self ..)
   exact ⟨this.1, this.2, h2, fun y hy => ⟨h1 y hy, (h3 y (List.mem_cons_of_mem _ hy)).2⟩⟩
theorem some_iff {ms ns : List Int} (h : QM.may ms = true) : some ms ns = true ↔ Srt (fun y : Int => y) ns ∧ ∀ x ∈ ns, x ∈ ms := by
 constructor
 ·intro hs
  exact ⟨(rise_iff.1 (some_rise hs)).1, some_within hs⟩
 ·rintro ⟨h1, h2⟩
  rcases ns with _ | ⟨x, l⟩
  ·rfl
  ·have hr : QM.rise (-1) (x :: l) = true := rise_iff.2 ⟨h1, fun y hy => may_mem h y (h2 y hy)⟩
   simp only [some, List.isEmpty_cons, Bool.false_or, Bool.and_eq_true]
   refine ⟨?_, within_iff.2 h2⟩
   unfold QM.may
   simp only [Bool.and_eq_true, decide_eq_true_eq]
   exact ⟨by simp, rise_le hr, hr⟩
def addIs (l : List Int) (x : Int) : List Int := if QM.has l x then l else insI l x
def addPs (l : List Pr) (p : Pr) : List Pr := if QM.has (nodes l) p.n then l else insP l p
theorem has_iff {l : List Int} {x : Int} : QM.has l x = true ↔ x ∈ l := by simp [QM.has]
theorem mem_addIs (l : List Int) (x y : Int) : y ∈ addIs l x ↔ y = x ∨ y ∈ l := by
 unfold addIs
 split
 ·rename_i h
  have := has_iff.1 h
  constructor
  ·exact .inr
  ·rintro (rfl | h) <;> assumption
 ·rw [insI_K]; exact mem_insK _ _ _ _
theorem srt_addIs {l : List Int} {x : Int} (h : Srt (fun y : Int => y) l) : Srt (fun y : Int => y) (addIs l x) := by
 unfold addIs
 split
 ·exact h
 ·rename_i hn
  rw [insI_K]
  refine srt_insK _ h fun q hq e => hn (has_iff.2 ?_)
  rw [← e]; exact hq
theorem nodes_addPs (l : List Pr) (p : Pr) : nodes (addPs l p) = addIs (nodes l) p.n := by
 unfold addPs addIs
 split
 ·rfl
 ·exact nodes_insP l p
theorem mem_addPs {l : List Pr} {p q : Pr} : q ∈ addPs l p ↔ (q ∈ l ∨ (q = p ∧ ¬ p.n ∈ nodes l)) := by
 unfold addPs
 split
 ·rename_i h
  have := has_iff.1 h
  constructor
  ·exact .inl
  ·rintro (h | ⟨_, h⟩)
   ·exact h
   ·exact absurd this h
 ·rename_i h
  have hn : ¬ p.n ∈ nodes l := fun e => h (has_iff.2 e)
  rw [insP_K, mem_insK]
  constructor
  ·rintro (h | h)
   ·exact .inr ⟨h, hn⟩
   ·exact .inl h
  ·rintro (h | ⟨h, _⟩)
   ·exact .inr h
   ·exact .inl h
theorem cnt_sub (ms : List Int) {a b : List Int} (h : ∀ x, x ∈ a → x ∈ b) : QM.cnt ms a ≤ QM.cnt ms b := QM.filter_mono ms fun x _ hx => has_iff.2 (h x (has_iff.1 hx))
theorem most_sub {ms a b : List Int} (h : ∀ x, x ∈ a → x ∈ b) (hm : most ms a = true) : most ms b = true := by
 unfold most at hm ⊢
 have := cnt_sub ms h
 simp only [decide_eq_true_eq] at hm ⊢
 omega
theorem may_pos {a : At} (h : may a = true) (h0 : ¬ a.ph = 0) : 1 ≤ a.ph ∧ a.ph ≤ 3 ∧ okL a = true ∧ (if a.ph = 1 then most a.ms (nodes a.ps) = false ∧ a.va = .empty ∧ a.ac = [] else most a.ms (nodes a.ps) = true ∧ a.va = best a.ps a.wi ∧ most a.ms a.ac = decide (a.ph = 3)) := by
 unfold may at h
 rw [if_neg h0] at h
 simp only [Bool.and_eq_true, decide_eq_true_eq] at h
 obtain ⟨⟨h1, h2⟩, h3, h4⟩ := h
 refine ⟨h1, h2, h3, ?_⟩
 split
 ·rename_i e
  rw [if_pos e] at h4
  simp only [Bool.and_eq_true, Bool.not_eq_true', decide_eq_true_eq, List.isEmpty_iff] at h4
  exact ⟨h4.1, h4.2.1, h4.2.2⟩
 ·rename_i e
  rw [if_neg e] at h4
  simp only [Bool.and_eq_true, decide_eq_true_eq, beq_iff_eq] at h4
  exact ⟨h4.1, h4.2.1, h4.2.2⟩
theorem may_mk {a : At} (h1 : 1 ≤ a.ph) (h2 : a.ph ≤ 3) (h3 : okL a = true) (h4 : if a.ph = 1 then most a.ms (nodes a.ps) = false ∧ a.va = .empty ∧ a.ac = [] else most a.ms (nodes a.ps) = true ∧ a.va = best a.ps a.wi ∧ most a.ms a.ac = decide (a.ph = 3)) : may a = true := by
 unfold may
 rw [if_neg (by omega), h3]
 simp only [Bool.and_eq_true, decide_eq_true_eq, Bool.true_and]
 refine ⟨⟨h1, h2⟩, ?_⟩
 split
 ·rename_i e
  rw [if_pos e] at h4
  simp [h4.1, h4.2.1, h4.2.2]
 ·rename_i e
  rw [if_neg e] at h4
  rw [h4.1, h4.2.2]
  simp [h4.2.1]
theorem errP_zero {a : At} {b : Int} {p : Pr} (h : errP a b p = 0) : may a = true ∧ a.ph = 1 ∧ b = a.ba ∧ QM.has a.ms p.n = true ∧ okP b p = true := by
 unfold errP at h
 split at h
 ·cases h
 ·rename_i h1
  split at h
  ·cases h
  ·rename_i h2
   split at h
   ·cases h
   ·rename_i h3
    have h2' := Decidable.of_not_not h2
    exact ⟨by simpa using h1, h2'.1, h2'.2.1, h2'.2.2, by simpa using h3⟩
theorem errP_mk {a : At} {b : Int} {p : Pr} (h1 : may a = true) (h2 : a.ph = 1) (h3 : b = a.ba) (h4 : QM.has a.ms p.n = true) (h5 : okP b p = true) : errP a b p = 0 := by
 unfold errP
 rw [if_neg (by rw [h1]; decide), if_neg (not_not_intro ⟨h2, h3, h4⟩), if_neg (by rw [h5]; decide)]
theorem errA_zero {a : At} {b n : Int} (h : errA a b n = 0) : may a = true ∧ 2 ≤ a.ph ∧ b = a.ba ∧ QM.has a.ms n = true := by
 unfold errA at h
 split at h
 ·cases h
 ·rename_i h1
  split at h
  ·cases h
  ·rename_i h2
   have h2' := Decidable.of_not_not h2
   exact ⟨by simpa using h1, h2'.1, h2'.2.1, h2'.2.2⟩
theorem errA_mk {a : At} {b n : Int} (h1 : may a = true) (h2 : 2 ≤ a.ph) (h3 : b = a.ba) (h4 : QM.has a.ms n = true) : errA a b n = 0 := by
 unfold errA
 rw [if_neg (by rw [h1]; decide), if_neg (not_not_intro ⟨h2, h3, h4⟩)]
theorem okL_parts' {a : At} : okL a = true ↔ okB a.ms a.ba a.wi = true ∧ a.ps.all (okP a.ba) = true ∧ some a.ms (nodes a.ps) = true ∧ some a.ms a.ac = true := by
 unfold okL
 simp only [Bool.and_eq_true]
theorem okL_addP {a : At} {p : Pr} (h : okL a = true) (h1 : QM.has a.ms p.n = true) (h2 : okP a.ba p = true) : okL (addP a p) = true := by
 have hm := okL_may h
 obtain ⟨g1, g2, g3, g4⟩ := okL_parts'.1 h
 refine okL_parts'.2 ⟨g1, ?_, ?_, g4⟩
 ·show (addPs a.ps p).all (okP a.ba) = true
  rw [List.all_eq_true] at g2 ⊢
  intro q hq
  rcases mem_addPs.1 hq with h | ⟨rfl, _⟩
  ·exact g2 q h
  ·exact h2
 ·show some a.ms (nodes (addPs a.ps p)) = true
  rw [nodes_addPs]
  obtain ⟨k1, k2⟩ := (some_iff hm).1 g3
  refine (some_iff hm).2 ⟨srt_addIs k1, fun x hx => ?_⟩
  rcases (mem_addIs _ _ _).1 hx with rfl | hx
  ·exact has_iff.1 h1
  ·exact k2 x hx
theorem okL_addA {a : At} {n : Int} (h : okL a = true) (h1 : QM.has a.ms n = true) : okL (addA a n) = true := by
 have hm := okL_may h
 obtain ⟨g1, g2, g3, g4⟩ := okL_parts'.1 h
 refine okL_parts'.2 ⟨g1, g2, g3, ?_⟩
 show some a.ms (addIs a.ac n) = true
 obtain ⟨k1, k2⟩ := (some_iff hm).1 g4
 refine (some_iff hm).2 ⟨srt_addIs k1, fun x hx => ?_⟩
 rcases (mem_addIs _ _ _).1 hx with rfl | hx
 ·exact has_iff.1 h1
 ·exact k2 x hx
theorem prom_eq {a : At} {b : Int} {p : Pr} (h : errP a b p = 0) : prom a b p = if most a.ms (nodes (addPs a.ps p)) = true then ⟨2, a.ba, a.ms, a.wi, best (addPs a.ps p) a.wi, addPs a.ps p, []⟩ else ⟨1, a.ba, a.ms, a.wi, .empty, addPs a.ps p, []⟩ := by
 obtain ⟨h1, h2, h3, h4, h5⟩ := errP_zero h
 obtain ⟨_, _, _, k⟩ := may_pos h1 (by omega)
 rw [if_pos h2] at k
 unfold prom
 rw [if_pos h]
 unfold onward
 have e : (addP a p).ph = 1 := h2
 rw [if_pos e]
 show (if most a.ms (nodes (addPs a.ps p)) = true then _ else addP a p) = _
 split
 ·show (⟨if most a.ms a.ac = true then 3 else 2, _, _, _, _, _, _⟩ : At) = _
  rw [k.2.2, most_none]
  show (⟨2, a.ba, a.ms, a.wi, best (addPs a.ps p) a.wi, addPs a.ps p, a.ac⟩ : At) = _
  rw [k.2.2]
 ·show (⟨a.ph, a.ba, a.ms, a.wi, a.va, addPs a.ps p, a.ac⟩ : At) = _
  rw [h2, k.2.1, k.2.2]
theorem may_prom {a : At} {b : Int} {p : Pr} (h : errP a b p = 0) : may (prom a b p) = true := by
 obtain ⟨h1, h2, h3, h4, h5⟩ := errP_zero h
 obtain ⟨_, _, k0, k⟩ := may_pos h1 (by omega)
 rw [if_pos h2] at k
 have hok := okL_addP k0 h4 (by rw [← h3]; exact h5)
 have hok2 := okL_parts'.1 hok
 have hac : some a.ms [] = true := rfl
 rw [prom_eq h]
 split
 ·rename_i hm
  refine may_mk (by simp) (by simp) (okL_parts'.2 ⟨hok2.1, hok2.2.1, hok2.2.2.1, hac⟩) ?_
  simp [hm, most_none]
 ·rename_i hm
  refine may_mk (by simp) (by simp) (okL_parts'.2 ⟨hok2.1, hok2.2.1, hok2.2.2.1, hac⟩) ?_
  simp at hm
  simp [hm]
theorem acc_eq {a : At} {b n : Int} (h : errA a b n = 0) : acc a b n = ⟨if most a.ms (addIs a.ac n) = true then 3 else 2, a.ba, a.ms, a.wi, a.va, a.ps, addIs a.ac n⟩ := by
 obtain ⟨h1, h2, h3, h4⟩ := errA_zero h
 obtain ⟨_, k1, k0, k⟩ := may_pos h1 (by omega)
 rw [if_neg (by omega)] at k
 unfold acc
 rw [if_pos h]
 unfold onward
 have e1 : ¬ (addA a n).ph = 1 := by show ¬ a.ph = 1; omega
 rw [if_neg e1]
 by_cases e2 : a.ph = 2
 ·rw [if_pos (show (addA a n).ph = 2 from e2)]
  show (if most a.ms (addIs a.ac n) = true then (⟨3, a.ba, a.ms, a.wi, a.va, a.ps, addIs a.ac n⟩ : At) else ⟨a.ph, a.ba, a.ms, a.wi, a.va, a.ps, addIs a.ac n⟩) = _
  split
  ·rfl
  ·rw [e2]
 ·have e3 : a.ph = 3 := by omega
  rw [if_neg (show ¬ (addA a n).ph = 2 from e2)]
  have hm : most a.ms (addIs a.ac n) = true := most_sub (fun x hx => (mem_addIs _ _ _).2 (.inr hx)) (by rw [k.2.2, e3]; rfl)
  rw [if_pos hm]
  show (⟨a.ph, a.ba, a.ms, a.wi, a.va, a.ps, addIs a.ac n⟩ : At) = _
  rw [e3]
theorem may_acc {a : At} {b n : Int} (h : errA a b n = 0) : may (acc a b n) = true := by
 obtain ⟨h1, h2, h3, h4⟩ := errA_zero h
 obtain ⟨_, k1, k0, k⟩ := may_pos h1 (by omega)
 rw [if_neg (by omega)] at k
 have hok := okL_parts'.1 (okL_addA k0 h4)
 rw [acc_eq h]
 refine may_mk (by show 1 ≤ (if _ then (3 : Int) else 2); split <;> omega) (by show (if _ then (3 : Int) else 2) ≤ 3; split <;> omega) (okL_parts'.2 ⟨hok.1, hok.2.1, hok.2.2.1, hok.2.2.2⟩) ?_
 show if (if most a.ms (addIs a.ac n) = true then (3 : Int) else 2) = 1 then _ else _
 rw [if_neg (by split <;> omega)]
 refine ⟨k.1, k.2.1, ?_⟩
 show most a.ms (addIs a.ac n) = decide ((if most a.ms (addIs a.ac n) = true then (3 : Int) else 2) = 3)
 rcases most a.ms (addIs a.ac n) <;> rfl
end Go.Proofs.YtiiobafcgdelmaaGreat.AM
namespace VM
def okP (p : Int) : Prop := p = 0 ∨ BM.good p
def okA (p b : Int) (s : ByteArray) : Prop := (b = 0 ∧ s = .empty) ∨ (b ≠ 0 ∧ BM.good b ∧ b ≤ p ∧ s.size ≤ 1024)
def may (p b : Int) (s : ByteArray) : Prop := okP p ∧ okA p b s
def zero (x y : Int) (t : ByteArray) : Prop := x = 0 ∧ y = 0 ∧ t = .empty
def WrongIs (p b : Int) (s : ByteArray) (k : Int) (v : ByteArray) (e : Int) : Prop :=
 (¬ may p b s ∧ e = 8) ∨ (may p b s ∧ ¬ BM.good k ∧ e = 50) ∨ (may p b s ∧ BM.good k ∧ 1024 < v.size ∧ e = 3) ∨ (may p b s ∧ BM.good k ∧ v.size ≤ 1024 ∧ k < p ∧ e = 70) ∨ (may p b s ∧ BM.good k ∧ v.size ≤ 1024 ∧ p ≤ k ∧ e = 0)
def PrepIs (p b : Int) (s : ByteArray) (k x y : Int) (t : ByteArray) (e : Int) : Prop :=
 WrongIs p b s k .empty e ∧ ((e ≠ 0 ∧ zero x y t) ∨ (e = 0 ∧ x = k ∧ y = b ∧ t = s))
def AccIs (p b : Int) (s : ByteArray) (k : Int) (v : ByteArray) (x y : Int) (t : ByteArray) (e : Int) : Prop :=
 WrongIs p b s k v e ∧ ((e ≠ 0 ∧ zero x y t) ∨ (e = 0 ∧ x = k ∧ y = k ∧ t = v))
theorem wrongIs_ex (p b : Int) (s : ByteArray) (k : Int) (v : ByteArray) : ∃ e, WrongIs p b s k v e := by
 by_cases h : may p b s
 ·by_cases h1 : BM.good k
  ·by_cases h2 : v.size ≤ 1024
   ·by_cases h3 : p ≤ k
    ·exact ⟨_, .inr (.inr (.inr (.inr ⟨h, h1, h2, h3, rfl⟩)))⟩
    ·exact ⟨_, .inr (.inr (.inr (.inl ⟨h, h1, h2, by omega, rfl⟩)))⟩
   ·exact ⟨_, .inr (.inr (.inl ⟨h, h1, by omega, rfl⟩))⟩
  ·exact ⟨_, .inr (.inl ⟨h, h1, rfl⟩)⟩
 ·exact ⟨_, .inl ⟨h, rfl⟩⟩
theorem prepIs_ex (p b : Int) (s : ByteArray) (k : Int) : ∃ x y t e, PrepIs p b s k x y t e := by
 obtain ⟨e, h⟩ := wrongIs_ex p b s k .empty
 by_cases he : e = 0
 ·exact ⟨_, _, _, _, h, .inr ⟨he, rfl, rfl, rfl⟩⟩
 ·exact ⟨_, _, _, _, h, .inl ⟨he, rfl, rfl, rfl⟩⟩
theorem accIs_ex (p b : Int) (s : ByteArray) (k : Int) (v : ByteArray) : ∃ x y t e, AccIs p b s k v x y t e := by
 obtain ⟨e, h⟩ := wrongIs_ex p b s k v
 by_cases he : e = 0
 ·exact ⟨_, _, _, _, h, .inr ⟨he, rfl, rfl, rfl⟩⟩
 ·exact ⟨_, _, _, _, h, .inl ⟨he, rfl, rfl, rfl⟩⟩
theorem wrong_zero {p b : Int} {s : ByteArray} {k : Int} {v : ByteArray} : WrongIs p b s k v 0 ↔ may p b s ∧ BM.good k ∧ v.size ≤ 1024 ∧ p ≤ k := by
 unfold WrongIs; constructor
 ·rintro (⟨_, h⟩ | ⟨_, _, h⟩ | ⟨_, _, _, h⟩ | ⟨_, _, _, _, h⟩ | ⟨h1, h2, h3, h4, _⟩)
  ·exact absurd h (by decide)
  ·exact absurd h (by decide)
  ·exact absurd h (by decide)
  ·exact absurd h (by decide)
  ·exact ⟨h1, h2, h3, h4⟩
 ·rintro ⟨h1, h2, h3, h4⟩; exact .inr (.inr (.inr (.inr ⟨h1, h2, h3, h4, rfl⟩)))
theorem may_prep {p b : Int} {s : ByteArray} {k : Int} (h : may p b s) (hk : BM.good k) (hp : p ≤ k) : may k b s := by
 obtain ⟨_, h⟩ := h
 refine ⟨.inr hk, ?_⟩
 rcases h with h | ⟨h1, h2, h3, h4⟩
 ·exact .inl h
 ·exact .inr ⟨h1, h2, by omega, h4⟩
theorem may_acc {k : Int} {v : ByteArray} (hk : BM.good k) (hv : v.size ≤ 1024) : may k k v :=
 ⟨.inr hk, .inr ⟨by unfold BM.good at hk; omega, hk, Int.le_refl _, hv⟩⟩
end VM
namespace Go.Proofs.YtiiobafcgdelmaaGreat.DC
structure Vt where
 p : Int
 b : Int
 v : ByteArray
 deriving DecidableEq
structure Ml where
 f : Int
 t : Int
 k : Int
 g : Int
 s : Int
 b : Int
 p : Int
 v : ByteArray
 i : Int
 m : Int
 deriving DecidableEq
structure Ch where
 n : Int
 v : ByteArray
 deriving DecidableEq
structure Wd where
 ms : List Int
 vs : List Vt
 ts : List AM.At
 ml : List Ml
 ch : List Ch
 deriving DecidableEq
structure Mv where
 k : Int
 n : Int
 at_ : Int
 v : ByteArray
 deriving DecidableEq
def vt0 : Vt := ⟨0, 0, .empty⟩
def zero : Wd := ⟨[], [], [], [], []⟩
def mk (f t k b p : Int) (v : ByteArray) : Ml := ⟨f, t, k, 0, 0, b, p, v, 0, 0⟩
def isNode (n : Int) : Prop := 0 ≤ n ∧ n < 6
instance (n : Int) : Decidable (isNode n) := by unfold isNode; infer_instance
def MayM (m : Ml) : Prop := m = mk m.f m.t m.k m.b m.p m.v ∧ isNode m.f ∧ isNode m.t ∧ 1 ≤ m.k ∧ m.k ≤ 5 ∧ BM.good m.b ∧ 0 ≤ m.p ∧ m.v.size ≤ 1024
def MayT (ms : List Int) (i : Int) (t : AM.At) : Prop := AM.may t = true ∧ (t.ph = 0 ∨ (t.ba % 8 = i ∧ t.ms = ms))
def MayC (c : Ch) : Prop := isNode c.n ∧ c.v.size ≤ 1024
structure May (w : Wd) : Prop where
 ms : QM.may w.ms = true
 vl : w.vs.length = 6
 tl : w.ts.length = 6
 ml : w.ml.length ≤ 1000
 cl : w.ch.length ≤ 1000
 vs : ∀ v ∈ w.vs, VM.may v.p v.b v.v
 ts : ∀ (i : Nat) t, w.ts[i]? = some t → MayT w.ms i t
 mm : ∀ m ∈ w.ml, MayM m
 cc : ∀ c ∈ w.ch, MayC c
def others (ms : List Int) (m : Ml) : List Ml := (ms.filter (fun x => decide (x ≠ m.f))).map (fun x => { m with t := x })
def found (n was : Int) (t : AM.At) : List Ch := if was ≠ 3 ∧ t.ph = 3 then [⟨n, t.va⟩] else []
def getV (w : Wd) (n : Int) : Vt := (w.vs[n.toNat]?).getD vt0
def getT (w : Wd) (n : Int) : AM.At := (w.ts[n.toNat]?).getD AM.zero
def tell1 (w : Wd) (n : Int) (a : AM.At) : Wd := ⟨w.ms, w.vs, w.ts.set n.toNat a, w.ml ++ others w.ms (mk n 0 3 a.ba 0 a.va), w.ch⟩
def tell2 (w : Wd) (n : Int) (a : AM.At) : Wd := ⟨w.ms, w.vs.set n.toNat ⟨a.ba, a.ba, a.va⟩, w.ts.set n.toNat (AM.acc a a.ba n), w.ml, w.ch ++ found n a.ph (AM.acc a a.ba n)⟩
def tells (w : Wd) (n : Int) (a : AM.At) : Wd :=
 if QM.has w.ms n = true ∧ (getV w n).p ≤ a.ba then tell2 (tell1 w n a) n a else tell1 w n a
def takes (w : Wd) (n k : Int) (p : AM.Pr) : Wd :=
 if AM.errP (getT w n) k p = 0 then
  if (AM.prom (getT w n) k p).ph = 2 then tells w n (AM.prom (getT w n) k p) else ⟨w.ms, w.vs, w.ts.set n.toNat (AM.prom (getT w n) k p), w.ml, w.ch⟩
 else w
def nextB (p n : Int) : Int := BM.rnd p n * 8 + n
def begin1 (w : Wd) (n : Int) (s : ByteArray) : Wd :=
 ⟨w.ms, w.vs.set n.toNat ⟨nextB (getV w n).p n, (getV w n).b, (getV w n).v⟩, w.ts.set n.toNat (AM.start w.ms (nextB (getV w n).p n) s), w.ml ++ others w.ms (mk n 0 1 (nextB (getV w n).p n) 0 .empty), w.ch⟩
def begins (w : Wd) (n : Int) (s : ByteArray) : Wd := takes (begin1 w n s) n (nextB (getV w n).p n) ⟨n, (getV w n).b, (getV w n).v⟩
def comes (w : Wd) (m : Ml) : Wd :=
 if m.k = 1 then
  if (getV w m.t).p ≤ m.b then ⟨w.ms, w.vs.set m.t.toNat ⟨m.b, (getV w m.t).b, (getV w m.t).v⟩, w.ts, w.ml ++ [mk m.t m.f 2 m.b (getV w m.t).b (getV w m.t).v], w.ch⟩
  else ⟨w.ms, w.vs, w.ts, w.ml ++ [mk m.t m.f 5 m.b (getV w m.t).p .empty], w.ch⟩
 else if m.k = 3 then
  if (getV w m.t).p ≤ m.b then ⟨w.ms, w.vs.set m.t.toNat ⟨m.b, m.b, m.v⟩, w.ts, w.ml ++ [mk m.t m.f 4 m.b 0 .empty], w.ch⟩
  else ⟨w.ms, w.vs, w.ts, w.ml ++ [mk m.t m.f 5 m.b (getV w m.t).p .empty], w.ch⟩
 else if m.k = 2 then takes w m.t m.b ⟨m.f, m.p, m.v⟩
 else if m.k = 4 then
  if AM.errA (getT w m.t) m.b m.f = 0 then ⟨w.ms, w.vs, w.ts.set m.t.toNat (AM.acc (getT w m.t) m.b m.f), w.ml, w.ch ++ found m.t (getT w m.t).ph (AM.acc (getT w m.t) m.b m.f)⟩ else w
 else w
def pre (w : Wd) (m : Mv) : Int :=
 if ¬ (1 ≤ m.k ∧ m.k ≤ 5) then 2
 else if m.k = 1 ∨ m.k = 5 then
  if ¬ isNode m.n then 2 else if m.k = 5 then 0 else if 1024 < m.v.size then 3 else if 1048576 < BM.rnd (getV w m.n).p m.n then 9 else 0
 else if m.at_ < 0 ∨ (w.ml.length : Int) ≤ m.at_ then 6 else 0
def gone (w : Wd) (j : Nat) : Wd := ⟨w.ms, w.vs, w.ts, w.ml.eraseIdx j, w.ch⟩
def mailAt (w : Wd) (j : Int) : Ml := (w.ml[j.toNat]?).getD (mk 0 0 0 0 0 .empty)
def aft (w : Wd) (m : Mv) : Wd :=
 if m.k = 1 then begins w m.n m.v
 else if m.k = 5 then ⟨w.ms, w.vs, w.ts.set m.n.toNat AM.zero, w.ml, w.ch⟩
 else if m.k = 2 then comes (gone w m.at_.toNat) (mailAt w m.at_)
 else if m.k = 3 then comes w (mailAt w m.at_)
 else gone w m.at_.toNat
def errD (w : Wd) (m : Mv) : Int :=
 if pre w m ≠ 0 then pre w m else if 1000 < (aft w m).ml.length ∨ 1000 < (aft w m).ch.length then 9 else 0
theorem mem_others {ms : List Int} {m x : Ml} (h : x ∈ others ms m) : ∃ y ∈ ms, y ≠ m.f ∧ x = { m with t := y } := by
 unfold others at h
 obtain ⟨y, hy, rfl⟩ := List.mem_map.1 h
 obtain ⟨h1, h2⟩ := List.mem_filter.1 hy
 exact ⟨y, h1, by simpa using h2, rfl⟩
theorem others_len (ms : List Int) (m : Ml) : (others ms m).length ≤ ms.length := by
 unfold others
 rw [List.length_map]
 exact List.length_filter_le _ _
theorem next_gt {p n : Int} (hp : VM.okP p) (hn : isNode n) : p < nextB p n ∧ nextB p n % 8 = n ∧ (BM.rnd p n ≤ 1048576 → BM.good (nextB p n)) := by
 unfold isNode at hn
 have hr := BM.rnd_pos p n
 unfold nextB BM.good
 refine ⟨?_, by omega, fun h => ⟨by omega, by omega, by omega⟩⟩
 have h0 : 0 ≤ p := by
  rcases hp with h | h
  ·omega
  ·unfold BM.good at h; omega
 unfold BM.rnd
 split
 ·omega
 ·split <;> omega
end Go.Proofs.YtiiobafcgdelmaaGreat.DC
namespace Go.Proofs.YtiiobafcgdelmaaGreat
open Go.RowKit
def flat {α : Type} (f : α → List Value) (l : List α) : List Value := l.flatMap f
section
variable {α : Type} {f : α → List Value} {s : Nat}
theorem flat_cons (a : α) (l : List α) : flat f (a :: l) = f a ++ flat f l := rfl
theorem flat_append (l r : List α) : flat f (l ++ r) = flat f l ++ flat f r := by simp [flat]
theorem flat_one (a : α) : flat f [a] = f a := by simp [flat]
theorem flat_length : ∀ {l : List α}, (∀ a ∈ l, (f a).length = s) → (flat f l).length = l.length * s
 | [], _ => by simp [flat]
 | a :: l, h => by
  rw [flat_cons, List.length_append, h a (List.mem_cons_self ..), flat_length (fun b hb => h b (List.mem_cons_of_mem _ hb)), List.length_cons, Nat.add_mul, Nat.one_mul, Nat.add_comm]
theorem flat_get : ∀ {l : List α} {k : Nat} {a : α}, (∀ a ∈ l, (f a).length = s) → l[k]? = some a → ∀ j, j < s → (flat f l)[k * s + j]? = (f a)[j]?
 | [], k, a, _, h, j, _ => by simp at h
 | b :: l, 0, a, hf, h, j, hj => by
  simp at h; subst h
  have := hf b (List.mem_cons_self ..)
  rw [flat_cons, Nat.zero_mul, Nat.zero_add, List.getElem?_append_left (by omega)]
 | b :: l, k + 1, a, hf, h, j, hj => by
  have hb := hf b (List.mem_cons_self ..)
  have ih := flat_get (l := l) (k := k) (a := a) (fun b hb => hf b (List.mem_cons_of_mem _ hb)) (by simpa using h) j hj
  rw [flat_cons, Nat.add_mul, Nat.one_mul, List.getElem?_append_right (by omega), hb, ← ih]
  congr 1; omega
def puts : List Value → Nat → List Value → List Value
 | xs, _, [] => xs
 | xs, i, c :: cs => puts (xs.set i c) (i + 1) cs
theorem puts_front : ∀ (p xs cs : List Value) (i : Nat), puts (p ++ xs) (p.length + i) cs = p ++ puts xs i cs
 | p, xs, [], i => rfl
 | p, xs, c :: cs, i => by
  show puts ((p ++ xs).set (p.length + i) c) (p.length + i + 1) cs = p ++ puts (xs.set i c) (i + 1) cs
  rw [← puts_front p (xs.set i c) cs (i + 1), List.set_append_right _ _ (Nat.le_add_right _ _), Nat.add_sub_cancel_left]
  rfl
theorem puts_all : ∀ (xs ys cs : List Value), xs.length = cs.length → puts (xs ++ ys) 0 cs = cs ++ ys
 | [], ys, [], _ => rfl
 | x :: xs, ys, c :: cs, h => by
  show puts ((x :: (xs ++ ys)).set 0 c) 1 cs = c :: (cs ++ ys)
  rw [List.set_cons_zero]
  have := puts_front [c] (xs ++ ys) cs 0
  simp only [List.length_cons, List.length_nil, Nat.zero_add, Nat.add_zero, List.cons_append, List.nil_append] at this
  rw [this, puts_all xs ys cs (by simpa using h)]
theorem flat_set : ∀ {l : List α} {k : Nat} {a : α}, (∀ a ∈ l, (f a).length = s) → (f a).length = s → k < l.length → flat f (l.set k a) = puts (flat f l) (k * s) (f a)
 | [], k, a, _, _, h => by simp at h
 | b :: l, 0, a, hf, ha, h => by
  have hb := hf b (List.mem_cons_self ..)
  rw [List.set_cons_zero, flat_cons, flat_cons, Nat.zero_mul, puts_all _ _ _ (by omega)]
 | b :: l, k + 1, a, hf, ha, h => by
  have hb := hf b (List.mem_cons_self ..)
  have ih := flat_set (l := l) (k := k) (a := a) (fun b hb => hf b (List.mem_cons_of_mem _ hb)) ha (by simpa using h)
  rw [List.set_cons_succ, flat_cons, flat_cons, ih, ← puts_front, hb, Nat.add_mul, Nat.one_mul]
  congr 1; omega
end
def vcell (v : DC.Vt) : List Value := [.int .i64 v.p, .int .i64 v.b, .string v.v]
def mcell (m : DC.Ml) : List Value := [.int .i64 m.f, .int .i64 m.t, .int .u8 m.k, .int .i64 m.g, .int .i64 m.s, .int .i64 m.b, .int .i64 m.p, .string m.v, .int .i64 m.i, .int .i64 m.m]
def ccell (c : DC.Ch) : List Value := [.int .i64 c.n, .string c.v]
def tcell (v : Value) : List Value := (fs v).toList
theorem one_flat {α : Type} {f : α → List Value} (h : ∀ a, ∀ u ∈ f a, u.oneCell' = true) (l : List α) : ∀ u ∈ flat f l, u.oneCell' = true := by
 intro u hu
 unfold flat at hu
 obtain ⟨a, _, hu⟩ := List.mem_flatMap.1 hu
 exact h a u hu
theorem v_one (v : DC.Vt) : ∀ u ∈ vcell v, u.oneCell' = true := by intro u hu; simp [vcell] at hu; rcases hu with rfl | rfl | rfl <;> rfl
theorem c_one (v : DC.Ch) : ∀ u ∈ ccell v, u.oneCell' = true := by intro u hu; simp [ccell] at hu; rcases hu with rfl | rfl <;> rfl
theorem m_one (v : DC.Ml) : ∀ u ∈ mcell v, u.oneCell' = true := by intro u hu; simp [mcell] at hu; rcases hu with rfl | rfl | rfl | rfl | rfl | rfl | rfl | rfl | rfl | rfl <;> rfl
structure Kept (S : TypeId → Prop) (a b : World) : Prop where
 os : b.os = a.os
 tape : b.tape = a.tape
 output : b.output = a.output
 size : a.heap.size ≤ b.heap.size
 box : ∀ (g : Nat) (e : TypeId) (cs : Array Value), ¬ S e → Box a g e cs → Box b g e cs
section
variable {S : TypeId → Prop} {a b c : World}
theorem Kept.refl (S : TypeId → Prop) (a : World) : Kept S a a := ⟨rfl, rfl, rfl, Nat.le_refl _, fun _ _ _ _ h => h⟩
theorem Kept.trans (h : Kept S a b) (k : Kept S b c) : Kept S a c := ⟨k.os.trans h.os, k.tape.trans h.tape, k.output.trans h.output, Nat.le_trans h.size k.size, fun g e cs he hb => k.box g e cs he (h.box g e cs he hb)⟩
theorem Kept.of_below (h : Below a.heap.size a b) : Kept S a b := ⟨h.os, h.tape, h.output, h.size, fun g e cs _ hb => hb.below h hb.lt⟩
theorem Kept.more (h : Kept S a b) (k : Below b.heap.size b c) : Kept S a c := h.trans (Kept.of_below k)
theorem Kept.set {g i : Nat} {e : TypeId} {cs : Array Value} (h : Box a g e cs) (he : S e) (u : Value) : Kept S a (a.setCell ⟨g, i, none⟩ u) := by
 have k : Below g a (a.setCell ⟨g, i, none⟩ u) := (Below.refl g a).setCell (p := ⟨g, i, none⟩) (Nat.le_refl g) u
 refine ⟨k.os, k.tape, k.output, k.size, fun g' e' cs' he' hb => hb.far (p := ⟨g, i, none⟩) (fun e2 => ?_) u⟩
 have e3 : g' = g := e2
 subst e3
 rw [Box] at h hb
 rw [h] at hb
 injection hb with hb
 injection hb with _ hb
 exact he' (hb ▸ he)
theorem Kept.grown {base s n : Nat} {e : TypeId} {v : Value} {xs : List Value} (h : a.ownsRow base e s v n xs) (he : S e) (hg : a.grownBy b v.ownBlock) : Kept S a b := by
 refine ⟨hg.os, hg.tape, hg.output, hg.size, fun g' e' cs' he' hb => hb.grown hg (fun e2 => ?_)⟩
 obtain ⟨_, cur, hx⟩ := own_block h e2.symm
 rw [Box] at hx hb
 rw [hx] at hb
 injection hb with hb
 injection hb with _ hb
 exact he' (hb ▸ he)
theorem Kept.own {base s n : Nat} {e : TypeId} {v : Value} {xs : List Value} (k : Kept S a b) (h : a.ownsRow base e s v n xs) (he : ¬ S e) : b.ownsRow base e s v n xs := by
 refine ⟨h.1, ?_⟩
 rcases h.2 with h0 | ⟨g, cap, cur, hv, hb, hx, hrest⟩
 ·exact .inl h0
 ·exact .inr ⟨g, cap, cur, hv, hb, k.box _ _ _ he hx, hrest⟩
theorem Kept.at_ {base : Nat} {v : Value} {t : AM.At} (k : Kept S a b) (h : AtOwn a base v t) (h1 : ¬ S 3) (h2 : ¬ S 86) : AtOwn b base v t := by
 obtain ⟨x, y, z, e, o1, o2, o3⟩ := h
 exact ⟨x, y, z, e, k.own o1 h1, k.own o2 h2, k.own o3 h1⟩
theorem Kept.mono {S' : TypeId → Prop} (k : Kept S a b) (h : ∀ e, S e → S' e) : Kept S' a b := ⟨k.os, k.tape, k.output, k.size, fun g e cs he hb => k.box g e cs (fun hs => he (h e hs)) hb⟩
end
def TsRow (W : World) (base : Nat) (xs : List Value) (ts : List AM.At) : Prop :=
 ∃ vs : List Value, vs.length = ts.length ∧ xs = flat tcell vs ∧ ∀ (i : Nat) t, ts[i]? = some t → ∃ v, vs[i]? = some v ∧ AtOwn W base v t
theorem tcell_at {W : World} {base : Nat} {v : Value} {t : AM.At} (h : AtOwn W base v t) : (tcell v).length = 7 := by
 obtain ⟨x, y, z, rfl, _⟩ := h; rfl
theorem TsRow.len {W : World} {base : Nat} {vs : List Value} {ts : List AM.At} (hl : vs.length = ts.length) (h : ∀ (i : Nat) t, ts[i]? = some t → ∃ v, vs[i]? = some v ∧ AtOwn W base v t) : ∀ v ∈ vs, (tcell v).length = 7 := by
 intro v hv
 obtain ⟨i, hi⟩ := List.getElem?_of_mem hv
 have hi' : i < ts.length := by rw [← hl]; exact (List.getElem?_eq_some_iff.1 hi).1
 obtain ⟨v', h1, h2⟩ := h i _ (List.getElem?_eq_getElem hi')
 rw [hi] at h1
 injection h1 with h1
 subst h1
 exact tcell_at h2
theorem TsRow.kept {W W' : World} {base : Nat} {xs : List Value} {ts : List AM.At} {S : TypeId → Prop} (h : TsRow W base xs ts) (k : Kept S W W') (h1 : ¬ S 3) (h2 : ¬ S 86) : TsRow W' base xs ts := by
 obtain ⟨vs, hl, e, hall⟩ := h
 exact ⟨vs, hl, e, fun i t ht => by obtain ⟨v, hv, ho⟩ := hall i t ht; exact ⟨v, hv, k.at_ ho h1 h2⟩⟩
theorem TsRow.get {W : World} {base : Nat} {xs : List Value} {ts : List AM.At} {i : Nat} {t : AM.At} (h : TsRow W base xs ts) (ht : ts[i]? = some t) :
  ∃ v, AtOwn W base v t ∧ ∀ j, j < 7 → xs[i * 7 + j]? = (tcell v)[j]? := by
 obtain ⟨vs, hl, rfl, hall⟩ := h
 obtain ⟨v, hv, ho⟩ := hall i t ht
 exact ⟨v, ho, flat_get (TsRow.len hl hall) hv⟩
theorem TsRow.set {W : World} {base : Nat} {xs : List Value} {ts : List AM.At} {i : Nat} {t : AM.At} {v : Value} (h : TsRow W base xs ts) (hi : i < ts.length) (ho : AtOwn W base v t) : TsRow W base (puts xs (i * 7) (tcell v)) (ts.set i t) := by
 obtain ⟨vs, hl, rfl, hall⟩ := h
 refine ⟨vs.set i v, by simp [hl], (flat_set (TsRow.len hl hall) (tcell_at ho) (by omega)).symm, fun j x hx => ?_⟩
 by_cases hj : i = j
 ·subst hj
  rw [List.getElem?_set_self hi] at hx
  injection hx with hx
  subst hx
  exact ⟨v, List.getElem?_set_self (by omega), ho⟩
 ·rw [List.getElem?_set_ne hj] at hx
  rw [List.getElem?_set_ne hj]
  exact hall j x hx
def OwnsM (W : World) (base : Nat) (v : Value) (n : Nat) (xs : List Value) : Prop :=
 W.ownsRow base 51 10 v n xs ∨
 (xs.length = n * 10 ∧ n ≤ maxLen ∧ ∃ g cur, v = .slice (some ⟨g, 0, none⟩) n n ∧ base ≤ g ∧ Box W g 51 cur ∧ cur.toList.take (n * 10) = xs)
section
variable {S : TypeId → Prop} {a b : World} {base n g : Nat} {v : Value} {xs : List Value}
theorem OwnsM.below (h : OwnsM a base v n xs) (hb : Below a.heap.size a b) : OwnsM b base v n xs := by
 rcases h with h | ⟨h1, h2, g, cur, hv, hg, hx, hc⟩
 ·exact .inl (own_below3 h hb)
 ·exact .inr ⟨h1, h2, g, cur, hv, hg, hx.below hb hx.lt, hc⟩
theorem Kept.ownM (k : Kept S a b) (h : OwnsM a base v n xs) (he : ¬ S 51) : OwnsM b base v n xs := by
 rcases h with h | ⟨h1, h2, g, cur, hv, hg, hx, hc⟩
 ·exact .inl (k.own h he)
 ·exact .inr ⟨h1, h2, g, cur, hv, hg, k.box _ _ _ he hx, hc⟩
theorem ownM_block (h : OwnsM a base v n xs) (hv : v.ownBlock = some g) : base ≤ g ∧ ∃ cur, Box a g 51 cur := by
 rcases h with h | ⟨h1, h2, g', cur, rfl, hg, hx, hc⟩
 ·exact own_block h hv
 ·injection hv with hv
  subst hv
  exact ⟨hg, cur, hx⟩
theorem ownM_setCell_other {p : Addr} (h : OwnsM a base v n xs) (hp : v.ownBlock ≠ some p.block) (u : Value) : OwnsM (a.setCell p u) base v n xs := by
 rcases h with h | ⟨h1, h2, g, cur, rfl, hg, hx, hc⟩
 ·exact .inl (ownsRow_setCell_other h hp u)
 ·exact .inr ⟨h1, h2, g, cur, rfl, hg, hx.far (fun e => hp (by rw [e]; rfl)) u, hc⟩
theorem Kept.grownM (h : OwnsM a base v n xs) (he : S 51) (hg : a.grownBy b v.ownBlock) : Kept S a b := by
 refine ⟨hg.os, hg.tape, hg.output, hg.size, fun g' e' cs' he' hb => hb.grown hg (fun e2 => ?_)⟩
 obtain ⟨_, cur, hx⟩ := ownM_block h e2.symm
 rw [Box] at hx hb
 rw [hx] at hb
 injection hb with hb
 injection hb with _ hb
 exact he' (hb ▸ he)
end
def WdAt (W : World) (base g : Nat) (w : DC.Wd) : Prop :=
 ∃ A0 c0 A1 c1 A2 c2 A3 c3 A4 c4 xs, base ≤ g ∧ Box W g 28 #[.slice A0 w.ms.length c0, .slice A1 w.vs.length c1, .slice A2 w.ts.length c2, .slice A3 w.ml.length c3, .slice A4 w.ch.length c4] ∧
  W.ownsRow base 3 1 (.slice A0 w.ms.length c0) w.ms.length (ic w.ms) ∧
  W.ownsRow base 59 3 (.slice A1 w.vs.length c1) w.vs.length (flat vcell w.vs) ∧
  W.ownsRow base 57 7 (.slice A2 w.ts.length c2) w.ts.length xs ∧ TsRow W base xs w.ts ∧
  OwnsM W base (.slice A3 w.ml.length c3) w.ml.length (flat mcell w.ml) ∧
  W.ownsRow base 53 2 (.slice A4 w.ch.length c4) w.ch.length (flat ccell w.ch)
theorem WdAt.below {W W' : World} {base g : Nat} {w : DC.Wd} (h : WdAt W base g w) (hb : Below W.heap.size W W') : WdAt W' base g w := by
 obtain ⟨A0, c0, A1, c1, A2, c2, A3, c3, A4, c4, xs, hg, hx, o0, o1, o2, ht, o3, o4⟩ := h
 exact ⟨A0, c0, A1, c1, A2, c2, A3, c3, A4, c4, xs, hg, hx.below hb hx.lt, own_below3 o0 hb, own_below3 o1 hb, own_below3 o2 hb, ht.kept (S := fun _ => False) (Kept.of_below hb) id id, o3.below hb, own_below3 o4 hb⟩
theorem WdAt.lt {W : World} {base g : Nat} {w : DC.Wd} (h : WdAt W base g w) : base ≤ g ∧ g < W.heap.size := by
 obtain ⟨A0, c0, A1, c1, A2, c2, A3, c3, A4, c4, xs, hg, hx, _⟩ := h
 exact ⟨hg, hx.lt⟩
end Go.Proofs.YtiiobafcgdelmaaGreat
