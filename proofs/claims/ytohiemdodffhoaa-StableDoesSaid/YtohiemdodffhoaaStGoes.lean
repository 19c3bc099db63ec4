/-
  What a record does (no program): what is answered may be, logs never get shorter, votes never fall; texts one behind the other. Conditions: as each theorem says.
-/
import Derived.Test.YtohiemdodffhoaaStMath
namespace Go.Proofs.Ytohiemdodffhoaa.SM
set_option linter.unusedVariables false
set_option linter.unusedSimpArgs false
open RM (Rc)

theorem get_modify {α : Type} (l : List α) (k i : Nat) (f : α → α) : (l.modify k f)[i]? = if k = i then l[i]?.map f else l[i]? := by
  rw [List.getElem?_modify]
  by_cases h : k = i
  · simp [h]
  · simp [h]
theorem find_skip : ∀ {l m : List Sn} {g s : Int}, (∀ y ∈ l, ¬ (y.g = g ∧ y.s = s)) → find (l ++ m) g s = find m g s
  | [], _, _, _, _ => rfl
  | y :: l, m, g, s, h => by
    rw [List.cons_append, find, if_neg (h y (by simp))]
    exact find_skip fun z hz => h z (List.mem_cons_of_mem _ hz)
theorem find_no {l : List Sn} {g s : Int} (h : ∀ y ∈ l, ¬ (y.g = g ∧ y.s = s)) : find l g s = vz := by
  have := find_skip (m := []) h
  rwa [List.append_nil] at this
theorem find_left : ∀ {l m : List Sn} {g s : Int}, (∀ y ∈ m, ¬ (y.g = g ∧ y.s = s)) → find (l ++ m) g s = find l g s
  | [], m, g, s, h => find_no h
  | y :: l, m, g, s, h => by
    rw [List.cons_append, find, find]
    split
    · rfl
    · exact find_left h
theorem find_filter : ∀ {l : List Sn} {p : Sn → Bool} {g s : Int}, (∀ y, y.g = g → y.s = s → p y = true) → find (l.filter p) g s = find l g s
  | [], _, _, _, _ => rfl
  | y :: l, p, g, s, h => by
    rw [List.filter_cons]
    by_cases hp : p y = true
    · rw [if_pos hp, find, find, find_filter h]
    · rw [if_neg hp, find, if_neg (fun k => hp (h y k.1 k.2)), find_filter h]
theorem find_put (l : List Sn) (x : Sn) (g s : Int) : find (put l x) g s = if x.g = g ∧ x.s = s then x.o else find l g s := by
  unfold put
  by_cases hx : x.g = g ∧ x.s = s
  · obtain ⟨rfl, rfl⟩ := hx
    rw [if_pos (show x.g = x.g ∧ x.s = x.s from ⟨rfl, rfl⟩), find_skip (fun y hy k => by have := (List.mem_filter.1 hy).2; rw [lt_iff] at this; omega)]
    have h3 : ∀ y ∈ l.filter (fun y => lt x y), ¬ (y.g = x.g ∧ y.s = x.s) := fun y hy k => by have := (List.mem_filter.1 hy).2; rw [lt_iff] at this; omega
    by_cases hz : x.o = vz
    · rw [if_pos hz, List.nil_append, find_no h3, hz]
    · rw [if_neg hz, List.singleton_append, find, if_pos ⟨rfl, rfl⟩]
  · rw [if_neg hx]
    have h2 : ∀ y ∈ (if x.o = vz then [] else [x]), ¬ (y.g = g ∧ y.s = s) := by
      intro y hy k
      by_cases hz : x.o = vz
      · rw [if_pos hz] at hy; cases hy
      · rw [if_neg hz, List.mem_singleton] at hy; subst hy; exact hx k
    rcases (show (g < x.g ∨ (g = x.g ∧ s < x.s)) ∨ (x.g < g ∨ (x.g = g ∧ x.s < s)) by omega) with h | h
    · rw [find_left (fun y hy k => ?_), find_filter (fun y h1 h2 => by rw [lt_iff]; omega)]
      rcases List.mem_append.1 hy with hy | hy
      · exact h2 y hy k
      · have := (List.mem_filter.1 hy).2; rw [lt_iff] at this; omega
    · rw [find_skip (fun y hy k => by have := (List.mem_filter.1 hy).2; rw [lt_iff] at this; omega), find_skip h2, find_filter (fun y h1 h2 => by rw [lt_iff]; omega)]
theorem mem_put {l : List Sn} {x y : Sn} (h : y ∈ put l x) : (y = x ∧ x.o ≠ vz) ∨ (y ∈ l ∧ ¬ (y.g = x.g ∧ y.s = x.s)) := by
  unfold put at h
  rcases List.mem_append.1 h with h | h
  · have := List.mem_filter.1 h
    refine .inr ⟨this.1, fun k => ?_⟩
    have := this.2; rw [lt_iff] at this; omega
  rcases List.mem_append.1 h with h | h
  · by_cases hz : x.o = vz
    · rw [if_pos hz] at h; cases h
    · rw [if_neg hz, List.mem_singleton] at h; exact .inl ⟨h, hz⟩
  · have := List.mem_filter.1 h
    refine .inr ⟨this.1, fun k => ?_⟩
    have := this.2; rw [lt_iff] at this; omega
theorem rises_put {l : List Sn} {x : Sn} (h : Rises l) : Rises (put l x) := by
  unfold put Rises
  rw [List.pairwise_append]
  refine ⟨List.Pairwise.filter _ h, ?_, fun a ha b hb => ?_⟩
  · rw [List.pairwise_append]
    refine ⟨?_, List.Pairwise.filter _ h, fun a ha b hb => ?_⟩
    · by_cases hz : x.o = vz
      · rw [if_pos hz]; exact List.Pairwise.nil
      · rw [if_neg hz]; simp
    · by_cases hz : x.o = vz
      · rw [if_pos hz] at ha; cases ha
      · rw [if_neg hz, List.mem_singleton] at ha
        subst ha
        exact (List.mem_filter.1 hb).2
  · have h1 := (List.mem_filter.1 ha).2
    rcases List.mem_append.1 hb with hb | hb
    · by_cases hz : x.o = vz
      · rw [if_pos hz] at hb; cases hb
      · rw [if_neg hz, List.mem_singleton] at hb
        subst hb
        exact h1
    · exact lt_trans h1 (List.mem_filter.1 hb).2
theorem app_zero {x : Sb} {r : Rc} (h : (appF x r).2 ≠ 0) : (appF x r).1 = zero := by
  unfold appF at h ⊢
  split
  · rfl
  split
  · rfl
  split
  · rfl
  split
  · split
    · rfl
    · rename_i h1 h2 h3 h4 h5
      rw [if_neg h1, if_neg h2, if_neg h3, if_pos h4, if_neg h5] at h
      exact absurd rfl h
  split
  · split
    · rfl
    · rename_i h1 h2 h3 h4 h6 h5
      rw [if_neg h1, if_neg h2, if_neg h3, if_neg h4, if_pos h6, if_neg h5] at h
      exact absurd rfl h
  · rename_i h1 h2 h3 h4 h6
    rw [if_neg h1, if_neg h2, if_neg h3, if_neg h4, if_neg h6] at h
    exact absurd rfl h
/-- what Prepare, Accept answer where they answer no error -/
theorem prepF_ok {o : Vo} {k : Int} (h : (prepF o k).2 = 0) : VM.may o.p o.b o.v ∧ BM.good k ∧ o.p ≤ k ∧ (prepF o k).1 = ⟨k, o.b, o.v⟩ := by
  unfold prepF at h ⊢
  by_cases h1 : VM.may o.p o.b o.v
  · by_cases h2 : BM.good k
    · by_cases h3 : k < o.p
      · simp [h1, h2, h3] at h
      · exact ⟨h1, h2, by omega, by simp [h1, h2, h3]⟩
    · simp [h1, h2] at h
  · simp [h1] at h
theorem accF_ok {o : Vo} {k : Int} {v : ByteArray} (h : (accF o k v).2 = 0) : VM.may o.p o.b o.v ∧ BM.good k ∧ v.size ≤ 1024 ∧ o.p ≤ k ∧ (accF o k v).1 = ⟨k, k, v⟩ := by
  unfold accF at h ⊢
  by_cases h1 : VM.may o.p o.b o.v
  · by_cases h2 : BM.good k
    · by_cases h4 : 1024 < v.size
      · simp [h1, h2, h4] at h
      · by_cases h3 : k < o.p
        · simp [h1, h2, h3, h4] at h
        · exact ⟨h1, h2, by omega, by omega, by simp [h1, h2, h3, h4]⟩
    · simp [h1, h2] at h
  · simp [h1] at h
/-- what a record that is done is, and does -/
structure Done (x : Sb) (r : Rc) (y : Sb) : Prop where
  mx : may x
  mr : RM.may r
  hg : 0 ≤ r.g ∧ r.g < x.logs.length
  hs : (llen x.logs r.g : Int) < r.s
  votes : ∃ o : Vo, y.votes = put x.votes ⟨r.g, r.s, o⟩ ∧
    ((r.k = 3 ∧ o = vz ∧ r.s = llen x.logs r.g + 1 ∧ y.logs = x.logs.modify r.g.toNat (· ++ [r.v])) ∨
     (r.k ≠ 3 ∧ y.logs = x.logs ∧ VM.may o.p o.b o.v ∧ o.p = r.b ∧ BM.good r.b ∧ (find x.votes r.g r.s).p ≤ o.p ∧ (find x.votes r.g r.s).b ≤ o.b))
theorem app_done {x : Sb} {r : Rc} (h : (appF x r).2 = 0) : Done x r (appF x r).1 := by
  unfold appF at h ⊢
  by_cases h1 : ¬ may x ∨ ¬ RM.may r
  · rw [if_pos h1] at h; exact absurd h (by decide)
  rw [if_neg h1] at h ⊢
  by_cases h2 : (x.logs.length : Int) ≤ r.g
  · rw [if_pos h2] at h; exact absurd h (by decide)
  rw [if_neg h2] at h ⊢
  by_cases h3 : r.s ≤ llen x.logs r.g ∨ (r.k = 3 ∧ r.s ≠ llen x.logs r.g + 1)
  · rw [if_pos h3] at h; exact absurd h (by decide)
  rw [if_neg h3] at h ⊢
  have mx : may x := Classical.byContradiction fun k => h1 (.inl k)
  have mr : RM.may r := Classical.byContradiction fun k => h1 (.inr k)
  have hg0 := mr.1.1
  by_cases k1 : r.k = 1
  · rw [if_pos k1] at h ⊢
    by_cases he : (prepF (find x.votes r.g r.s) r.b).2 ≠ 0
    · rw [if_pos he] at h; exact absurd h he
    · rw [if_neg he]
      obtain ⟨a1, a2, a3, a4⟩ := prepF_ok (Classical.byContradiction he)
      refine ⟨mx, mr, ⟨hg0, by omega⟩, by omega, _, rfl, .inr ⟨by omega, rfl, ?_, ?_, a2, ?_, ?_⟩⟩
      · rw [a4]; exact VM.may_prep a1 a2 a3
      · rw [a4]
      · rw [a4]; exact a3
      · rw [a4]; exact Int.le_refl _
  rw [if_neg k1] at h ⊢
  by_cases k2 : r.k = 2
  · rw [if_pos k2] at h ⊢
    by_cases he : (accF (find x.votes r.g r.s) r.b r.v).2 ≠ 0
    · rw [if_pos he] at h; exact absurd h he
    · rw [if_neg he]
      obtain ⟨a1, a2, a5, a3, a4⟩ := accF_ok (Classical.byContradiction he)
      refine ⟨mx, mr, ⟨hg0, by omega⟩, by omega, _, rfl, .inr ⟨by omega, rfl, ?_, ?_, a2, ?_, ?_⟩⟩
      · rw [a4]; exact VM.may_acc a2 a5
      · rw [a4]
      · rw [a4]; exact a3
      · rw [a4]
        show _ ≤ r.b
        have : 8 ≤ r.b := a2.1
        rcases a1.2 with ⟨h, _⟩ | ⟨_, _, h, _⟩
        · omega
        · omega
  rw [if_neg k2]
  have k3 : r.k = 3 := by have := RM.may_k mr; omega
  exact ⟨mx, mr, ⟨hg0, by omega⟩, by omega, _, rfl, .inl ⟨k3, rfl, by omega, rfl⟩⟩
theorem llen_modify {ls : List (List ByteArray)} {k : Nat} {v : ByteArray} {g : Int} (hg : 0 ≤ g) (hk : k < ls.length) : llen (ls.modify k (· ++ [v])) g = llen ls g + if g = k then 1 else 0 := by
  unfold llen
  rw [get_modify]
  by_cases h : k = g.toNat
  · rw [if_pos h, if_pos (by omega)]
    rw [List.getElem?_eq_getElem (by omega)]
    simp
  · rw [if_neg h, if_neg (by omega)]
    simp
/-- what is answered may be -/
theorem done_may {x y : Sb} {r : Rc} (h : Done x r y) : may y := by
  obtain ⟨mx, mr, hg, hs, o, hv, h⟩ := h
  have hs200 := mr.2.1.2
  rcases h with ⟨k3, rfl, hn, hl⟩ | ⟨k3, hl, ho, hp, hb, _, _⟩
  · have hrv := RM.may_v mr
    have hgt : r.g.toNat < x.logs.length := by omega
    refine ⟨by rw [hl]; simpa using mx.1, fun l hl2 => ?_, fun z hz => ?_, (rise_iff _).2 (by rw [hv]; exact rises_put ((rise_iff _).1 mx.2.2.2))⟩
    · rw [hl] at hl2
      obtain ⟨i, hi⟩ := List.mem_iff_getElem?.1 hl2
      rw [get_modify] at hi
      by_cases hk : r.g.toNat = i
      · rw [if_pos hk] at hi
        subst hk
        rw [List.getElem?_eq_getElem hgt] at hi
        simp at hi
        have hlo := mx.2.1 _ (List.getElem_mem hgt)
        have hll : llen x.logs r.g = x.logs[r.g.toNat].length := by unfold llen; rw [List.getElem?_eq_getElem hgt]; rfl
        subst hi
        refine ⟨by rw [List.length_append, List.length_singleton]; omega, fun u hu => ?_⟩
        rcases List.mem_append.1 hu with hu | hu
        · exact hlo.2 u hu
        · rw [List.mem_singleton] at hu; subst hu; exact hrv
      · rw [if_neg hk] at hi
        exact mx.2.1 l (List.mem_iff_getElem?.2 ⟨i, hi⟩)
    · rw [hv] at hz
      rcases mem_put hz with ⟨_, hz⟩ | ⟨hz, hne⟩
      · exact absurd rfl hz
      · obtain ⟨a1, a2, a3, a4, a5, a6⟩ := mx.2.2.1 z hz
        refine ⟨a1, by rw [hl]; simpa using a2, a3, ?_, a5, a6⟩
        rw [hl, llen_modify a1 hgt]
        by_cases hzg : z.g = r.g.toNat
        · have hzg2 : z.g = r.g := by omega
          rw [if_pos hzg]
          rw [hzg2] at a4 ⊢
          simp only at hne
          omega
        · rw [if_neg hzg]; omega
  · refine ⟨by rw [hl]; exact mx.1, by rw [hl]; exact mx.2.1, fun z hz => ?_, (rise_iff _).2 (by rw [hv]; exact rises_put ((rise_iff _).1 mx.2.2.2))⟩
    rw [hv] at hz
    rw [hl]
    rcases mem_put hz with ⟨rfl, _⟩ | ⟨hz, _⟩
    · exact ⟨hg.1, hg.2, hs200, hs, ho, by have : 8 ≤ r.b := hb.1; simp only; omega⟩
    · exact mx.2.2.1 z hz
/-- the logs -/
theorem done_logs {x y : Sb} {r : Rc} (h : Done x r y) : y.logs.length = x.logs.length ∧ ∀ (g : Nat) (l : List ByteArray), x.logs[g]? = some l → y.logs[g]? = some (l ++ if r.k = 3 ∧ (g : Int) = r.g then [r.v] else []) := by
  obtain ⟨mx, mr, hg, hs, o, hv, h⟩ := h
  rcases h with ⟨k3, rfl, hn, hl⟩ | ⟨k3, hl, _⟩
  · rw [hl]
    refine ⟨by simp, fun g l hgl => ?_⟩
    rw [get_modify]
    by_cases hk : r.g.toNat = g
    · rw [if_pos hk, hgl, if_pos ⟨k3, by omega⟩]; rfl
    · rw [if_neg hk, hgl, if_neg (by omega)]; simp
  · rw [hl]
    exact ⟨rfl, fun g l hgl => by rw [hgl, if_neg (fun h => k3 h.1)]; simp⟩
/-- the votes -/
theorem done_votes {x y : Sb} {r : Rc} (h : Done x r y) (g s : Int) :
    (¬ (r.g = g ∧ r.s = s) → find y.votes g s = find x.votes g s) ∧
    (r.g = g ∧ r.s = s → (r.k = 3 ∧ find y.votes g s = vz) ∨ (r.k ≠ 3 ∧ (find x.votes g s).p ≤ (find y.votes g s).p ∧ (find x.votes g s).b ≤ (find y.votes g s).b ∧ (find y.votes g s).p = r.b)) := by
  obtain ⟨mx, mr, hg, hs, o, hv, h⟩ := h
  rw [hv, find_put]
  refine ⟨fun k => by rw [if_neg k], fun k => ?_⟩
  rw [if_pos k]
  obtain ⟨rfl, rfl⟩ := k
  rcases h with ⟨k3, rfl, _⟩ | ⟨k3, _, _, hp, _, h1, h2⟩
  · exact .inl ⟨k3, rfl⟩
  · exact .inr ⟨k3, h1, h2, hp⟩

/-! ### texts, one behind the other -/
theorem runF_append : ∀ (l m : List (List UInt8)) (x : Sb), runF x (l ++ m) = if (runF x l).2 ≠ 0 then (zero, (runF x l).2) else runF (runF x l).1 m
  | [], m, x => by simp [runF]
  | t :: l, m, x => by
    rw [List.cons_append, runF, runF]
    rcases RM.read t with _ | r
    · simp
    · simp only
      by_cases h : (appF x r).2 ≠ 0
      · rw [if_pos h, if_pos h]
        simp only
        rw [if_pos h]
      · rw [if_neg h, if_neg h]
        exact runF_append l m _
theorem replay_append {n : Int} {l m : List (List UInt8)} (h : l.length + m.length ≤ 65536) :
    replayF n (l ++ m) = if (replayF n l).2 ≠ 0 then (zero, (replayF n l).2) else runF (replayF n l).1 m := by
  unfold replayF
  by_cases h1 : (newF n).2 ≠ 0
  · simp [h1]
  · have h2 : ¬ 65536 < (l ++ m).length := by rw [List.length_append]; omega
    have h3 : ¬ 65536 < l.length := by omega
    simp only [h1, h2, h3, if_false]
    exact runF_append l m _
end Go.Proofs.Ytohiemdodffhoaa.SM
