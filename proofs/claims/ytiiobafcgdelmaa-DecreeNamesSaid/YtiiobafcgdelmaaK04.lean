/-
  What follows of attempts as mathematics: what is answered may be; the order counts for nothing; what accepted nodes count for. No program.
  What votes come to, in plain numbers and bytes: whether a vote may be, what Prepare and Accept answer. Conditions: as each theorem says.
  Worlds of one slot as mathematics: what may be, what a move leads to. No program.
-/
import Derived.Test.YtiiobafcgdelmaaK02
import Derived.Test.YtiiobafcgdelmaaK01
namespace Go.Proofs.Ytiiobafcgdelmaa.AM
set_option linter.unusedVariables false

-- lists that rise by a key
def Srt {α : Type} (key : α → Int) (l : List α) : Prop := l.Pairwise fun a b => key a < key b
theorem srt_eq {α : Type} (key : α → Int) : ∀ {l1 l2 : List α}, Srt key l1 → Srt key l2 → (∀ x, x ∈ l1 ↔ x ∈ l2) → l1 = l2
  | [], [], _, _, _ => rfl
  | [], b :: l2, _, _, h => by have := (h b).2 (List.mem_cons_self ..); cases this
  | a :: l1, [], _, _, h => by have := (h a).1 (List.mem_cons_self ..); cases this
  | a :: l1, b :: l2, h1, h2, h => by
    have g1 := List.pairwise_cons.1 h1
    have g2 := List.pairwise_cons.1 h2
    have hab : a = b := by
      rcases List.mem_cons.1 ((h a).1 (List.mem_cons_self ..)) with e | e
      · exact e
      · rcases List.mem_cons.1 ((h b).2 (List.mem_cons_self ..)) with e' | e'
        · exact e'.symm
        · have := g2.1 a e; have := g1.1 b e'; omega
    subst hab
    rw [srt_eq key g1.2 g2.2 (fun x => ?_)]
    constructor
    · intro hx
      rcases List.mem_cons.1 ((h x).1 (List.mem_cons_of_mem _ hx)) with e | e
      · subst e; have := g1.1 x hx; omega
      · exact e
    · intro hx
      rcases List.mem_cons.1 ((h x).2 (List.mem_cons_of_mem _ hx)) with e | e
      · subst e; have := g2.1 x hx; omega
      · exact e
def insK {α : Type} (key : α → Int) (l : List α) (p : α) : List α := l.takeWhile (fun q => decide (key q < key p)) ++ p :: l.dropWhile (fun q => decide (key q < key p))
theorem insK_cons {α : Type} (key : α → Int) (q : α) (l : List α) (p : α) : insK key (q :: l) p = if key q < key p then q :: insK key l p else p :: q :: l := by
  unfold insK
  rw [List.takeWhile_cons, List.dropWhile_cons]
  by_cases h : key q < key p <;> simp [h]
theorem mem_insK {α : Type} (key : α → Int) (l : List α) (p x : α) : x ∈ insK key l p ↔ x = p ∨ x ∈ l := by
  induction l with
  | nil => simp [insK]
  | cons q l ih =>
    rw [insK_cons]
    split
    · rw [List.mem_cons, ih, List.mem_cons]
      constructor
      · rintro (h | h | h)
        · exact .inr (.inl h)
        · exact .inl h
        · exact .inr (.inr h)
      · rintro (h | h | h)
        · exact .inr (.inl h)
        · exact .inl h
        · exact .inr (.inr h)
    · rw [List.mem_cons]
theorem srt_insK {α : Type} (key : α → Int) {l : List α} {p : α} (h : Srt key l) (hp : ∀ q ∈ l, key q ≠ key p) : Srt key (insK key l p) := by
  induction l with
  | nil => simp [insK, Srt]
  | cons q l ih =>
    have g := List.pairwise_cons.1 h
    rw [insK_cons]
    split
    · rename_i hlt
      refine List.pairwise_cons.2 ⟨fun x hx => ?_, ih g.2 (fun r hr => hp r (List.mem_cons_of_mem _ hr))⟩
      rcases (mem_insK key l p x).1 hx with rfl | hx
      · exact hlt
      · exact g.1 x hx
    · rename_i hlt
      have hne := hp q (List.mem_cons_self ..)
      refine List.pairwise_cons.2 ⟨fun x hx => ?_, h⟩
      rcases List.mem_cons.1 hx with rfl | hx
      · omega
      · have := g.1 x hx; omega
theorem insI_K (l : List Int) (x : Int) : insI l x = insK (fun y => y) l x := rfl
theorem insP_K (l : List Pr) (p : Pr) : insP l p = insK (·.n) l p := rfl
theorem nodes_insP (l : List Pr) (p : Pr) : nodes (insP l p) = insI (nodes l) p.n := by
  rw [insI_K, insP_K]
  induction l with
  | nil => rfl
  | cons q l ih =>
    rw [insK_cons, show nodes (q :: l) = q.n :: nodes l from rfl, insK_cons]
    split
    · rw [show nodes (q :: insK (·.n) l p) = q.n :: nodes (insK (·.n) l p) from rfl, ih]
    · rfl
theorem srt_nodes (l : List Pr) : Srt (fun y : Int => y) (nodes l) ↔ Srt (·.n) l := by
  unfold Srt nodes
  rw [List.pairwise_map]
theorem rise_iff {p : Int} {l : List Int} : QM.rise p l = true ↔ Srt (fun y : Int => y) l ∧ ∀ x ∈ l, p < x ∧ x < 6 := by
  induction l generalizing p with
  | nil => simp [QM.rise, Srt]
  | cons x l ih =>
    simp only [QM.rise, Bool.and_eq_true, decide_eq_true_eq]
    rw [ih]
    unfold Srt
    rw [List.pairwise_cons]
    constructor
    · rintro ⟨h1, h2, h3, h4⟩
      refine ⟨⟨fun y hy => (h4 y hy).1, h3⟩, fun y hy => ?_⟩
      rcases List.mem_cons.1 hy with rfl | hy
      · exact ⟨h1, h2⟩
      · have := h4 y hy; omega
    · rintro ⟨⟨h1, h2⟩, h3⟩
      have := h3 x (List.mem_cons_self ..)
      exact ⟨this.1, this.2, h2, fun y hy => ⟨h1 y hy, (h3 y (List.mem_cons_of_mem _ hy)).2⟩⟩
theorem some_iff {ms ns : List Int} (h : QM.may ms = true) : some ms ns = true ↔ Srt (fun y : Int => y) ns ∧ ∀ x ∈ ns, x ∈ ms := by
  constructor
  · intro hs
    exact ⟨(rise_iff.1 (some_rise hs)).1, some_within hs⟩
  · rintro ⟨h1, h2⟩
    rcases ns with _ | ⟨x, l⟩
    · rfl
    · have hr : QM.rise (-1) (x :: l) = true := rise_iff.2 ⟨h1, fun y hy => may_mem h y (h2 y hy)⟩
      simp only [some, List.isEmpty_cons, Bool.false_or, Bool.and_eq_true]
      refine ⟨?_, within_iff.2 h2⟩
      unfold QM.may
      simp only [Bool.and_eq_true, decide_eq_true_eq]
      exact ⟨by simp, rise_le hr, hr⟩
def addIs (l : List Int) (x : Int) : List Int := if QM.has l x then l else insI l x
def addPs (l : List Pr) (p : Pr) : List Pr := if QM.has (nodes l) p.n then l else insP l p
theorem has_iff {l : List Int} {x : Int} : QM.has l x = true ↔ x ∈ l := by simp [QM.has]
theorem mem_addIs (l : List Int) (x y : Int) : y ∈ addIs l x ↔ y = x ∨ y ∈ l := by
  unfold addIs
  split
  · rename_i h
    have := has_iff.1 h
    constructor
    · exact .inr
    · rintro (rfl | h) <;> assumption
  · rw [insI_K]; exact mem_insK _ _ _ _
theorem srt_addIs {l : List Int} {x : Int} (h : Srt (fun y : Int => y) l) : Srt (fun y : Int => y) (addIs l x) := by
  unfold addIs
  split
  · exact h
  · rename_i hn
    rw [insI_K]
    refine srt_insK _ h fun q hq e => hn (has_iff.2 ?_)
    rw [← e]; exact hq
theorem nodes_addPs (l : List Pr) (p : Pr) : nodes (addPs l p) = addIs (nodes l) p.n := by
  unfold addPs addIs
  split
  · rfl
  · exact nodes_insP l p
theorem srt_addPs {l : List Pr} {p : Pr} (h : Srt (·.n) l) : Srt (·.n) (addPs l p) := by
  rw [← srt_nodes, nodes_addPs]
  exact srt_addIs ((srt_nodes l).2 h)
theorem mem_addPs {l : List Pr} {p q : Pr} : q ∈ addPs l p ↔ (q ∈ l ∨ (q = p ∧ ¬ p.n ∈ nodes l)) := by
  unfold addPs
  split
  · rename_i h
    have := has_iff.1 h
    constructor
    · exact .inl
    · rintro (h | ⟨_, h⟩)
      · exact h
      · exact absurd this h
  · rename_i h
    have hn : ¬ p.n ∈ nodes l := fun e => h (has_iff.2 e)
    rw [insP_K, mem_insK]
    constructor
    · rintro (h | h)
      · exact .inr ⟨h, hn⟩
      · exact .inl h
    · rintro (h | ⟨h, _⟩)
      · exact .inr h
      · exact .inl h
theorem addIs_comm {l : List Int} (h : Srt (fun y : Int => y) l) (x y : Int) : addIs (addIs l x) y = addIs (addIs l y) x := by
  refine srt_eq _ (srt_addIs (srt_addIs h)) (srt_addIs (srt_addIs h)) fun z => ?_
  rw [mem_addIs, mem_addIs, mem_addIs, mem_addIs]
  constructor
  · rintro (h | h | h)
    · exact .inr (.inl h)
    · exact .inl h
    · exact .inr (.inr h)
  · rintro (h | h | h)
    · exact .inr (.inl h)
    · exact .inl h
    · exact .inr (.inr h)
theorem addPs_comm {l : List Pr} (h : Srt (·.n) l) {p q : Pr} (hne : p.n ≠ q.n) : addPs (addPs l p) q = addPs (addPs l q) p := by
  refine srt_eq _ (srt_addPs (srt_addPs h)) (srt_addPs (srt_addPs h)) fun z => ?_
  have e1 : q.n ∈ nodes (addPs l p) ↔ q.n ∈ nodes l := by
    rw [nodes_addPs, mem_addIs]
    constructor
    · rintro (h | h)
      · exact absurd h.symm hne
      · exact h
    · exact .inr
  have e2 : p.n ∈ nodes (addPs l q) ↔ p.n ∈ nodes l := by
    rw [nodes_addPs, mem_addIs]
    constructor
    · rintro (h | h)
      · exact absurd h hne
      · exact h
    · exact .inr
  rw [mem_addPs, mem_addPs, mem_addPs, mem_addPs, e1, e2]
  constructor
  · rintro ((h | h) | h)
    · exact .inl (.inl h)
    · exact .inr h
    · exact .inl (.inr h)
  · rintro ((h | h) | h)
    · exact .inl (.inl h)
    · exact .inr h
    · exact .inl (.inr h)

-- majorities
theorem cnt_sub (ms : List Int) {a b : List Int} (h : ∀ x, x ∈ a → x ∈ b) : QM.cnt ms a ≤ QM.cnt ms b := QM.filter_mono ms fun x _ hx => has_iff.2 (h x (has_iff.1 hx))
theorem most_sub {ms a b : List Int} (h : ∀ x, x ∈ a → x ∈ b) (hm : most ms a = true) : most ms b = true := by
  unfold most at hm ⊢
  have := cnt_sub ms h
  simp only [decide_eq_true_eq] at hm ⊢
  omega
theorem most_same {ms a b : List Int} (h : ∀ x, x ∈ a ↔ x ∈ b) : most ms a = most ms b := by
  rw [Bool.eq_iff_iff]
  exact ⟨most_sub fun x => (h x).1, most_sub fun x => (h x).2⟩

-- what may be, taken apart
theorem may_pos {a : At} (h : may a = true) (h0 : ¬ a.ph = 0) : 1 ≤ a.ph ∧ a.ph ≤ 3 ∧ okL a = true ∧ (if a.ph = 1 then most a.ms (nodes a.ps) = false ∧ a.va = .empty ∧ a.ac = [] else most a.ms (nodes a.ps) = true ∧ a.va = best a.ps a.wi ∧ most a.ms a.ac = decide (a.ph = 3)) := by
  unfold may at h
  rw [if_neg h0] at h
  simp only [Bool.and_eq_true, decide_eq_true_eq] at h
  obtain ⟨⟨h1, h2⟩, h3, h4⟩ := h
  refine ⟨h1, h2, h3, ?_⟩
  split
  · rename_i e
    rw [if_pos e] at h4
    simp only [Bool.and_eq_true, Bool.not_eq_true', decide_eq_true_eq, List.isEmpty_iff] at h4
    exact ⟨h4.1, h4.2.1, h4.2.2⟩
  · rename_i e
    rw [if_neg e] at h4
    simp only [Bool.and_eq_true, decide_eq_true_eq, beq_iff_eq] at h4
    exact ⟨h4.1, h4.2.1, h4.2.2⟩
theorem may_mk {a : At} (h1 : 1 ≤ a.ph) (h2 : a.ph ≤ 3) (h3 : okL a = true) (h4 : if a.ph = 1 then most a.ms (nodes a.ps) = false ∧ a.va = .empty ∧ a.ac = [] else most a.ms (nodes a.ps) = true ∧ a.va = best a.ps a.wi ∧ most a.ms a.ac = decide (a.ph = 3)) : may a = true := by
  unfold may
  rw [if_neg (by omega), h3]
  simp only [Bool.and_eq_true, decide_eq_true_eq, Bool.true_and]
  refine ⟨⟨h1, h2⟩, ?_⟩
  split
  · rename_i e
    rw [if_pos e] at h4
    simp [h4.1, h4.2.1, h4.2.2]
  · rename_i e
    rw [if_neg e] at h4
    rw [h4.1, h4.2.2]
    simp [h4.2.1]
theorem errP_zero {a : At} {b : Int} {p : Pr} (h : errP a b p = 0) : may a = true ∧ a.ph = 1 ∧ b = a.ba ∧ QM.has a.ms p.n = true ∧ okP b p = true := by
  unfold errP at h
  split at h
  · cases h
  · rename_i h1
    split at h
    · cases h
    · rename_i h2
      split at h
      · cases h
      · rename_i h3
        have h2' := Decidable.of_not_not h2
        exact ⟨by simpa using h1, h2'.1, h2'.2.1, h2'.2.2, by simpa using h3⟩
theorem errP_mk {a : At} {b : Int} {p : Pr} (h1 : may a = true) (h2 : a.ph = 1) (h3 : b = a.ba) (h4 : QM.has a.ms p.n = true) (h5 : okP b p = true) : errP a b p = 0 := by
  unfold errP
  rw [if_neg (by rw [h1]; decide), if_neg (not_not_intro ⟨h2, h3, h4⟩), if_neg (by rw [h5]; decide)]
theorem errA_zero {a : At} {b n : Int} (h : errA a b n = 0) : may a = true ∧ 2 ≤ a.ph ∧ b = a.ba ∧ QM.has a.ms n = true := by
  unfold errA at h
  split at h
  · cases h
  · rename_i h1
    split at h
    · cases h
    · rename_i h2
      have h2' := Decidable.of_not_not h2
      exact ⟨by simpa using h1, h2'.1, h2'.2.1, h2'.2.2⟩
theorem errA_mk {a : At} {b n : Int} (h1 : may a = true) (h2 : 2 ≤ a.ph) (h3 : b = a.ba) (h4 : QM.has a.ms n = true) : errA a b n = 0 := by
  unfold errA
  rw [if_neg (by rw [h1]; decide), if_neg (not_not_intro ⟨h2, h3, h4⟩)]
theorem okL_parts' {a : At} : okL a = true ↔ okB a.ms a.ba a.wi = true ∧ a.ps.all (okP a.ba) = true ∧ some a.ms (nodes a.ps) = true ∧ some a.ms a.ac = true := by
  unfold okL
  simp only [Bool.and_eq_true]
theorem okL_addP {a : At} {p : Pr} (h : okL a = true) (h1 : QM.has a.ms p.n = true) (h2 : okP a.ba p = true) : okL (addP a p) = true := by
  have hm := okL_may h
  obtain ⟨g1, g2, g3, g4⟩ := okL_parts'.1 h
  refine okL_parts'.2 ⟨g1, ?_, ?_, g4⟩
  · show (addPs a.ps p).all (okP a.ba) = true
    rw [List.all_eq_true] at g2 ⊢
    intro q hq
    rcases mem_addPs.1 hq with h | ⟨rfl, _⟩
    · exact g2 q h
    · exact h2
  · show some a.ms (nodes (addPs a.ps p)) = true
    rw [nodes_addPs]
    obtain ⟨k1, k2⟩ := (some_iff hm).1 g3
    refine (some_iff hm).2 ⟨srt_addIs k1, fun x hx => ?_⟩
    rcases (mem_addIs _ _ _).1 hx with rfl | hx
    · exact has_iff.1 h1
    · exact k2 x hx
theorem okL_addA {a : At} {n : Int} (h : okL a = true) (h1 : QM.has a.ms n = true) : okL (addA a n) = true := by
  have hm := okL_may h
  obtain ⟨g1, g2, g3, g4⟩ := okL_parts'.1 h
  refine okL_parts'.2 ⟨g1, g2, g3, ?_⟩
  show some a.ms (addIs a.ac n) = true
  obtain ⟨k1, k2⟩ := (some_iff hm).1 g4
  refine (some_iff hm).2 ⟨srt_addIs k1, fun x hx => ?_⟩
  rcases (mem_addIs _ _ _).1 hx with rfl | hx
  · exact has_iff.1 h1
  · exact k2 x hx
/-- what a promise leads to -/
theorem prom_eq {a : At} {b : Int} {p : Pr} (h : errP a b p = 0) : prom a b p = if most a.ms (nodes (addPs a.ps p)) = true then ⟨2, a.ba, a.ms, a.wi, best (addPs a.ps p) a.wi, addPs a.ps p, []⟩ else ⟨1, a.ba, a.ms, a.wi, .empty, addPs a.ps p, []⟩ := by
  obtain ⟨h1, h2, h3, h4, h5⟩ := errP_zero h
  obtain ⟨_, _, _, k⟩ := may_pos h1 (by omega)
  rw [if_pos h2] at k
  unfold prom
  rw [if_pos h]
  unfold onward
  have e : (addP a p).ph = 1 := h2
  rw [if_pos e]
  show (if most a.ms (nodes (addPs a.ps p)) = true then _ else addP a p) = _
  split
  · show (⟨if most a.ms a.ac = true then 3 else 2, _, _, _, _, _, _⟩ : At) = _
    rw [k.2.2, most_none]
    show (⟨2, a.ba, a.ms, a.wi, best (addPs a.ps p) a.wi, addPs a.ps p, a.ac⟩ : At) = _
    rw [k.2.2]
  · show (⟨a.ph, a.ba, a.ms, a.wi, a.va, addPs a.ps p, a.ac⟩ : At) = _
    rw [h2, k.2.1, k.2.2]
theorem may_prom {a : At} {b : Int} {p : Pr} (h : errP a b p = 0) : may (prom a b p) = true := by
  obtain ⟨h1, h2, h3, h4, h5⟩ := errP_zero h
  obtain ⟨_, _, k0, k⟩ := may_pos h1 (by omega)
  rw [if_pos h2] at k
  have hok := okL_addP k0 h4 (by rw [← h3]; exact h5)
  have hok2 := okL_parts'.1 hok
  have hac : some a.ms [] = true := rfl
  rw [prom_eq h]
  split
  · rename_i hm
    refine may_mk (by simp) (by simp) (okL_parts'.2 ⟨hok2.1, hok2.2.1, hok2.2.2.1, hac⟩) ?_
    simp [hm, most_none]
  · rename_i hm
    refine may_mk (by simp) (by simp) (okL_parts'.2 ⟨hok2.1, hok2.2.1, hok2.2.2.1, hac⟩) ?_
    simp at hm
    simp [hm]
/-- what an acceptance leads to -/
theorem acc_eq {a : At} {b n : Int} (h : errA a b n = 0) : acc a b n = ⟨if most a.ms (addIs a.ac n) = true then 3 else 2, a.ba, a.ms, a.wi, a.va, a.ps, addIs a.ac n⟩ := by
  obtain ⟨h1, h2, h3, h4⟩ := errA_zero h
  obtain ⟨_, k1, k0, k⟩ := may_pos h1 (by omega)
  rw [if_neg (by omega)] at k
  unfold acc
  rw [if_pos h]
  unfold onward
  have e1 : ¬ (addA a n).ph = 1 := by show ¬ a.ph = 1; omega
  rw [if_neg e1]
  by_cases e2 : a.ph = 2
  · rw [if_pos (show (addA a n).ph = 2 from e2)]
    show (if most a.ms (addIs a.ac n) = true then (⟨3, a.ba, a.ms, a.wi, a.va, a.ps, addIs a.ac n⟩ : At) else ⟨a.ph, a.ba, a.ms, a.wi, a.va, a.ps, addIs a.ac n⟩) = _
    split
    · rfl
    · rw [e2]
  · have e3 : a.ph = 3 := by omega
    rw [if_neg (show ¬ (addA a n).ph = 2 from e2)]
    have hm : most a.ms (addIs a.ac n) = true := most_sub (fun x hx => (mem_addIs _ _ _).2 (.inr hx)) (by rw [k.2.2, e3]; rfl)
    rw [if_pos hm]
    show (⟨a.ph, a.ba, a.ms, a.wi, a.va, a.ps, addIs a.ac n⟩ : At) = _
    rw [e3]
theorem may_acc {a : At} {b n : Int} (h : errA a b n = 0) : may (acc a b n) = true := by
  obtain ⟨h1, h2, h3, h4⟩ := errA_zero h
  obtain ⟨_, k1, k0, k⟩ := may_pos h1 (by omega)
  rw [if_neg (by omega)] at k
  have hok := okL_parts'.1 (okL_addA k0 h4)
  rw [acc_eq h]
  refine may_mk (by show 1 ≤ (if _ then (3 : Int) else 2); split <;> omega) (by show (if _ then (3 : Int) else 2) ≤ 3; split <;> omega) (okL_parts'.2 ⟨hok.1, hok.2.1, hok.2.2.1, hok.2.2.2⟩) ?_
  show if (if most a.ms (addIs a.ac n) = true then (3 : Int) else 2) = 1 then _ else _
  rw [if_neg (by split <;> omega)]
  refine ⟨k.1, k.2.1, ?_⟩
  show most a.ms (addIs a.ac n) = decide ((if most a.ms (addIs a.ac n) = true then (3 : Int) else 2) = 3)
  rcases most a.ms (addIs a.ac n) <;> rfl

-- the order counts for nothing
theorem order_prom {a : At} {b : Int} {p q : Pr} (hp : errP a b p = 0) (hq : errP a b q = 0) (h1 : (prom a b p).ph = 1) (h2 : (prom a b q).ph = 1) (hne : p.n ≠ q.n) :
    errP (prom a b p) b q = 0 ∧ errP (prom a b q) b p = 0 ∧ prom (prom a b p) b q = prom (prom a b q) b p := by
  obtain ⟨g1, g2, g3, g4, g5⟩ := errP_zero hp
  obtain ⟨_, _, _, k4, k5⟩ := errP_zero hq
  have m1 := may_prom hp
  have m2 := may_prom hq
  have hs : Srt (·.n) a.ps := by
    obtain ⟨_, _, k0, _⟩ := may_pos g1 (by omega)
    exact (srt_nodes _).1 ((some_iff (okL_may k0)).1 (okL_parts'.1 k0).2.2.1).1
  have e1 := prom_eq hp
  have e2 := prom_eq hq
  have x1 : prom a b p = ⟨1, a.ba, a.ms, a.wi, .empty, addPs a.ps p, []⟩ := by
    rw [e1] at h1 ⊢
    split at h1
    · simp at h1
    · rename_i h; rw [if_neg h]
  have x2 : prom a b q = ⟨1, a.ba, a.ms, a.wi, .empty, addPs a.ps q, []⟩ := by
    rw [e2] at h2 ⊢
    split at h2
    · simp at h2
    · rename_i h; rw [if_neg h]
  have r1 : errP (prom a b p) b q = 0 := errP_mk m1 h1 (by rw [x1]; exact g3) (by rw [x1]; exact k4) k5
  have r2 : errP (prom a b q) b p = 0 := errP_mk m2 h2 (by rw [x2]; exact g3) (by rw [x2]; exact g4) g5
  refine ⟨r1, r2, ?_⟩
  rw [prom_eq r1, prom_eq r2, x1, x2]
  simp only [addPs_comm hs hne]
theorem order_acc {a : At} {b n m : Int} (hn : errA a b n = 0) (hm : errA a b m = 0) :
    errA (acc a b n) b m = 0 ∧ errA (acc a b m) b n = 0 ∧ acc (acc a b n) b m = acc (acc a b m) b n := by
  obtain ⟨g1, g2, g3, g4⟩ := errA_zero hn
  obtain ⟨_, _, _, k4⟩ := errA_zero hm
  have m1 := may_acc hn
  have m2 := may_acc hm
  have hs : Srt (fun y : Int => y) a.ac := by
    obtain ⟨_, _, k0, _⟩ := may_pos g1 (by omega)
    exact ((some_iff (okL_may k0)).1 (okL_parts'.1 k0).2.2.2).1
  have x1 := acc_eq hn
  have x2 := acc_eq hm
  have p1 : 2 ≤ (acc a b n).ph := by rw [x1]; show 2 ≤ (if _ then (3 : Int) else 2); split <;> omega
  have p2 : 2 ≤ (acc a b m).ph := by rw [x2]; show 2 ≤ (if _ then (3 : Int) else 2); split <;> omega
  have r1 : errA (acc a b n) b m = 0 := errA_mk m1 p1 (by rw [x1]; exact g3) (by rw [x1]; exact k4)
  have r2 : errA (acc a b m) b n = 0 := errA_mk m2 p2 (by rw [x2]; exact g3) (by rw [x2]; exact g4)
  refine ⟨r1, r2, ?_⟩
  rw [acc_eq r1, acc_eq r2, x1, x2]
  simp only [addIs_comm hs n m]
end Go.Proofs.Ytiiobafcgdelmaa.AM

namespace VM
/-- what was promised may be -/
def okP (p : Int) : Prop := p = 0 ∨ BM.good p
/-- what was accepted may be -/
def okA (p b : Int) (s : ByteArray) : Prop := (b = 0 ∧ s = .empty) ∨ (b ≠ 0 ∧ BM.good b ∧ b ≤ p ∧ s.size ≤ 1024)
def may (p b : Int) (s : ByteArray) : Prop := okP p ∧ okA p b s
def zero (x y : Int) (t : ByteArray) : Prop := x = 0 ∧ y = 0 ∧ t = .empty
/-- what is wrong with what a vote is asked -/
def WrongIs (p b : Int) (s : ByteArray) (k : Int) (v : ByteArray) (e : Int) : Prop :=
  (¬ may p b s ∧ e = 8) ∨ (may p b s ∧ ¬ BM.good k ∧ e = 50) ∨ (may p b s ∧ BM.good k ∧ 1024 < v.size ∧ e = 3) ∨ (may p b s ∧ BM.good k ∧ v.size ≤ 1024 ∧ k < p ∧ e = 70) ∨ (may p b s ∧ BM.good k ∧ v.size ≤ 1024 ∧ p ≤ k ∧ e = 0)
def PrepIs (p b : Int) (s : ByteArray) (k x y : Int) (t : ByteArray) (e : Int) : Prop :=
  WrongIs p b s k .empty e ∧ ((e ≠ 0 ∧ zero x y t) ∨ (e = 0 ∧ x = k ∧ y = b ∧ t = s))
def AccIs (p b : Int) (s : ByteArray) (k : Int) (v : ByteArray) (x y : Int) (t : ByteArray) (e : Int) : Prop :=
  WrongIs p b s k v e ∧ ((e ≠ 0 ∧ zero x y t) ∨ (e = 0 ∧ x = k ∧ y = k ∧ t = v))
theorem wrongIs_ex (p b : Int) (s : ByteArray) (k : Int) (v : ByteArray) : ∃ e, WrongIs p b s k v e := by
  by_cases h : may p b s
  · by_cases h1 : BM.good k
    · by_cases h2 : v.size ≤ 1024
      · by_cases h3 : p ≤ k
        · exact ⟨_, .inr (.inr (.inr (.inr ⟨h, h1, h2, h3, rfl⟩)))⟩
        · exact ⟨_, .inr (.inr (.inr (.inl ⟨h, h1, h2, by omega, rfl⟩)))⟩
      · exact ⟨_, .inr (.inr (.inl ⟨h, h1, by omega, rfl⟩))⟩
    · exact ⟨_, .inr (.inl ⟨h, h1, rfl⟩)⟩
  · exact ⟨_, .inl ⟨h, rfl⟩⟩
theorem prepIs_ex (p b : Int) (s : ByteArray) (k : Int) : ∃ x y t e, PrepIs p b s k x y t e := by
  obtain ⟨e, h⟩ := wrongIs_ex p b s k .empty
  by_cases he : e = 0
  · exact ⟨_, _, _, _, h, .inr ⟨he, rfl, rfl, rfl⟩⟩
  · exact ⟨_, _, _, _, h, .inl ⟨he, rfl, rfl, rfl⟩⟩
theorem accIs_ex (p b : Int) (s : ByteArray) (k : Int) (v : ByteArray) : ∃ x y t e, AccIs p b s k v x y t e := by
  obtain ⟨e, h⟩ := wrongIs_ex p b s k v
  by_cases he : e = 0
  · exact ⟨_, _, _, _, h, .inr ⟨he, rfl, rfl, rfl⟩⟩
  · exact ⟨_, _, _, _, h, .inl ⟨he, rfl, rfl, rfl⟩⟩
/-- what is right with what is asked -/
theorem wrong_zero {p b : Int} {s : ByteArray} {k : Int} {v : ByteArray} : WrongIs p b s k v 0 ↔ may p b s ∧ BM.good k ∧ v.size ≤ 1024 ∧ p ≤ k := by
  unfold WrongIs; constructor
  · rintro (⟨_, h⟩ | ⟨_, _, h⟩ | ⟨_, _, _, h⟩ | ⟨_, _, _, _, h⟩ | ⟨h1, h2, h3, h4, _⟩)
    · exact absurd h (by decide)
    · exact absurd h (by decide)
    · exact absurd h (by decide)
    · exact absurd h (by decide)
    · exact ⟨h1, h2, h3, h4⟩
  · rintro ⟨h1, h2, h3, h4⟩; exact .inr (.inr (.inr (.inr ⟨h1, h2, h3, h4, rfl⟩)))
theorem may_prep {p b : Int} {s : ByteArray} {k : Int} (h : may p b s) (hk : BM.good k) (hp : p ≤ k) : may k b s := by
  obtain ⟨_, h⟩ := h
  refine ⟨.inr hk, ?_⟩
  rcases h with h | ⟨h1, h2, h3, h4⟩
  · exact .inl h
  · exact .inr ⟨h1, h2, by omega, h4⟩
theorem may_acc {k : Int} {v : ByteArray} (hk : BM.good k) (hv : v.size ≤ 1024) : may k k v :=
  ⟨.inr hk, .inr ⟨by unfold BM.good at hk; omega, hk, Int.le_refl _, hv⟩⟩
end VM

namespace Go.Proofs.Ytiiobafcgdelmaa.DC
set_option linter.unusedVariables false
set_option linter.unusedSimpArgs false

structure Vt where
  p : Int
  b : Int
  v : ByteArray
  deriving DecidableEq
structure Ml where
  f : Int
  t : Int
  k : Int
  g : Int
  s : Int
  b : Int
  p : Int
  v : ByteArray
  i : Int
  m : Int
  deriving DecidableEq
structure Ch where
  n : Int
  v : ByteArray
  deriving DecidableEq
structure Wd where
  ms : List Int
  vs : List Vt
  ts : List AM.At
  ml : List Ml
  ch : List Ch
  deriving DecidableEq
structure Mv where
  k : Int
  n : Int
  at_ : Int
  v : ByteArray
  deriving DecidableEq
def vt0 : Vt := ⟨0, 0, .empty⟩
def zero : Wd := ⟨[], [], [], [], []⟩
/-- mail of this layer: its other fields zero -/
def mk (f t k b p : Int) (v : ByteArray) : Ml := ⟨f, t, k, 0, 0, b, p, v, 0, 0⟩
def isNode (n : Int) : Prop := 0 ≤ n ∧ n < 6
instance (n : Int) : Decidable (isNode n) := by unfold isNode; infer_instance
def MayM (m : Ml) : Prop := m = mk m.f m.t m.k m.b m.p m.v ∧ isNode m.f ∧ isNode m.t ∧ 1 ≤ m.k ∧ m.k ≤ 5 ∧ BM.good m.b ∧ 0 ≤ m.p ∧ m.v.size ≤ 1024
def MayT (ms : List Int) (i : Int) (t : AM.At) : Prop := AM.may t = true ∧ (t.ph = 0 ∨ (t.ba % 8 = i ∧ t.ms = ms))
def MayC (c : Ch) : Prop := isNode c.n ∧ c.v.size ≤ 1024
structure May (w : Wd) : Prop where
  ms : QM.may w.ms = true
  vl : w.vs.length = 6
  tl : w.ts.length = 6
  ml : w.ml.length ≤ 1000
  cl : w.ch.length ≤ 1000
  vs : ∀ v ∈ w.vs, VM.may v.p v.b v.v
  ts : ∀ (i : Nat) t, w.ts[i]? = some t → MayT w.ms i t
  mm : ∀ m ∈ w.ml, MayM m
  cc : ∀ c ∈ w.ch, MayC c

/-- mail from a node to all other members -/
def others (ms : List Int) (m : Ml) : List Ml := (ms.filter (fun x => decide (x ≠ m.f))).map (fun x => { m with t := x })
def found (n was : Int) (t : AM.At) : List Ch := if was ≠ 3 ∧ t.ph = 3 then [⟨n, t.va⟩] else []
def getV (w : Wd) (n : Int) : Vt := (w.vs[n.toNat]?).getD vt0
def getT (w : Wd) (n : Int) : AM.At := (w.ts[n.toNat]?).getD AM.zero
/-- an attempt that came to PhaseTell: it is told -/
def tell1 (w : Wd) (n : Int) (a : AM.At) : Wd := ⟨w.ms, w.vs, w.ts.set n.toNat a, w.ml ++ others w.ms (mk n 0 3 a.ba 0 a.va), w.ch⟩
/-- its own vote and acceptance -/
def tell2 (w : Wd) (n : Int) (a : AM.At) : Wd := ⟨w.ms, w.vs.set n.toNat ⟨a.ba, a.ba, a.va⟩, w.ts.set n.toNat (AM.acc a a.ba n), w.ml, w.ch ++ found n a.ph (AM.acc a a.ba n)⟩
def tells (w : Wd) (n : Int) (a : AM.At) : Wd :=
  if QM.has w.ms n = true ∧ (getV w n).p ≤ a.ba then tell2 (tell1 w n a) n a else tell1 w n a
def takes (w : Wd) (n k : Int) (p : AM.Pr) : Wd :=
  if AM.errP (getT w n) k p = 0 then
    if (AM.prom (getT w n) k p).ph = 2 then tells w n (AM.prom (getT w n) k p) else ⟨w.ms, w.vs, w.ts.set n.toNat (AM.prom (getT w n) k p), w.ml, w.ch⟩
  else w
/-- the ballot that a node begins with -/
def nextB (p n : Int) : Int := BM.rnd p n * 8 + n
def begin1 (w : Wd) (n : Int) (s : ByteArray) : Wd :=
  ⟨w.ms, w.vs.set n.toNat ⟨nextB (getV w n).p n, (getV w n).b, (getV w n).v⟩, w.ts.set n.toNat (AM.start w.ms (nextB (getV w n).p n) s), w.ml ++ others w.ms (mk n 0 1 (nextB (getV w n).p n) 0 .empty), w.ch⟩
def begins (w : Wd) (n : Int) (s : ByteArray) : Wd := takes (begin1 w n s) n (nextB (getV w n).p n) ⟨n, (getV w n).b, (getV w n).v⟩
def comes (w : Wd) (m : Ml) : Wd :=
  if m.k = 1 then
    if (getV w m.t).p ≤ m.b then ⟨w.ms, w.vs.set m.t.toNat ⟨m.b, (getV w m.t).b, (getV w m.t).v⟩, w.ts, w.ml ++ [mk m.t m.f 2 m.b (getV w m.t).b (getV w m.t).v], w.ch⟩
    else ⟨w.ms, w.vs, w.ts, w.ml ++ [mk m.t m.f 5 m.b (getV w m.t).p .empty], w.ch⟩
  else if m.k = 3 then
    if (getV w m.t).p ≤ m.b then ⟨w.ms, w.vs.set m.t.toNat ⟨m.b, m.b, m.v⟩, w.ts, w.ml ++ [mk m.t m.f 4 m.b 0 .empty], w.ch⟩
    else ⟨w.ms, w.vs, w.ts, w.ml ++ [mk m.t m.f 5 m.b (getV w m.t).p .empty], w.ch⟩
  else if m.k = 2 then takes w m.t m.b ⟨m.f, m.p, m.v⟩
  else if m.k = 4 then
    if AM.errA (getT w m.t) m.b m.f = 0 then ⟨w.ms, w.vs, w.ts.set m.t.toNat (AM.acc (getT w m.t) m.b m.f), w.ml, w.ch ++ found m.t (getT w m.t).ph (AM.acc (getT w m.t) m.b m.f)⟩ else w
  else w
/-- what is wrong with a move ahead of it -/
def pre (w : Wd) (m : Mv) : Int :=
  if ¬ (1 ≤ m.k ∧ m.k ≤ 5) then 2
  else if m.k = 1 ∨ m.k = 5 then
    if ¬ isNode m.n then 2 else if m.k = 5 then 0 else if 1024 < m.v.size then 3 else if 1048576 < BM.rnd (getV w m.n).p m.n then 9 else 0
  else if m.at_ < 0 ∨ (w.ml.length : Int) ≤ m.at_ then 6 else 0
def gone (w : Wd) (j : Nat) : Wd := ⟨w.ms, w.vs, w.ts, w.ml.eraseIdx j, w.ch⟩
def mailAt (w : Wd) (j : Int) : Ml := (w.ml[j.toNat]?).getD (mk 0 0 0 0 0 .empty)
def aft (w : Wd) (m : Mv) : Wd :=
  if m.k = 1 then begins w m.n m.v
  else if m.k = 5 then ⟨w.ms, w.vs, w.ts.set m.n.toNat AM.zero, w.ml, w.ch⟩
  else if m.k = 2 then comes (gone w m.at_.toNat) (mailAt w m.at_)
  else if m.k = 3 then comes w (mailAt w m.at_)
  else gone w m.at_.toNat
def errD (w : Wd) (m : Mv) : Int :=
  if pre w m ≠ 0 then pre w m else if 1000 < (aft w m).ml.length ∨ 1000 < (aft w m).ch.length then 9 else 0
def start (ms : List Int) : Wd := ⟨ms, List.replicate 6 vt0, List.replicate 6 AM.zero, [], []⟩
def runF : Wd → List Mv → Wd
  | w, [] => w
  | w, m :: l => runF (if errD w m = 0 then aft w m else w) l

-- what others says
theorem mem_others {ms : List Int} {m x : Ml} (h : x ∈ others ms m) : ∃ y ∈ ms, y ≠ m.f ∧ x = { m with t := y } := by
  unfold others at h
  obtain ⟨y, hy, rfl⟩ := List.mem_map.1 h
  obtain ⟨h1, h2⟩ := List.mem_filter.1 hy
  exact ⟨y, h1, by simpa using h2, rfl⟩
theorem others_len (ms : List Int) (m : Ml) : (others ms m).length ≤ ms.length := by
  unfold others
  rw [List.length_map]
  exact List.length_filter_le _ _
theorem next_gt {p n : Int} (hp : VM.okP p) (hn : isNode n) : p < nextB p n ∧ nextB p n % 8 = n ∧ (BM.rnd p n ≤ 1048576 → BM.good (nextB p n)) := by
  unfold isNode at hn
  have hr := BM.rnd_pos p n
  unfold nextB BM.good
  refine ⟨?_, by omega, fun h => ⟨by omega, by omega, by omega⟩⟩
  have h0 : 0 ≤ p := by
    rcases hp with h | h
    · omega
    · unfold BM.good at h; omega
  unfold BM.rnd
  split
  · omega
  · split <;> omega
end Go.Proofs.Ytiiobafcgdelmaa.DC
