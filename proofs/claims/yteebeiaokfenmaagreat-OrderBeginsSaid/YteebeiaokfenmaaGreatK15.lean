/-
  What follows of a command done to a clock: it may be again, what is delivered rises, was assigned and made final. No program.
-/
import Derived.Test.YteebeiaokfenmaaGreatK01
namespace Go.Proofs.YteebeiaokfenmaaGreat.KM
open CM (Mg Cm)
open TM (Sp less ok Up rises)
set_option linter.unusedVariables false
set_option linter.unusedSimpArgs false

/-- behind a clock that may be but for its head -/
def Half (s : Sk) : Prop := 0 ≤ s.c ∧ s.c ≤ 1073741824 ∧ DoneOk s.c s.ds ∧ WaitOk s.c s.ds s.ws
theorem may_half {s : Sk} (h : may s) : Half s := ⟨h.1.1, h.1.2.1, h.2.1, h.2.2.1⟩
theorem doneOk_mono {c c' : Int} {ds : List Sp} (h : DoneOk c ds) (hc : c ≤ c') : DoneOk c' ds := ⟨fun x hx => ⟨(h.1 x hx).1, (h.1 x hx).2.1, Int.le_trans (h.1 x hx).2.2 hc⟩, h.2⟩
theorem waitOk_mono {c c' : Int} {ds : List Sp} {ws : List Wt} (h : WaitOk c ds ws) (hc : c ≤ c') : WaitOk c' ds ws :=
  ⟨fun w hw => ⟨(h.1 w hw).1, ⟨(h.1 w hw).2.1.1, Int.le_trans (h.1 w hw).2.1.2 hc⟩, (h.1 w hw).2.2⟩, h.2⟩
theorem ids_ne {l : List Wt} (h : l.Pairwise fun a b => a.m.id < b.m.id) {i j : Nat} {a b : Wt} (ha : l[i]? = some a) (hb : l[j]? = some b) (hij : i ≠ j) : a.m.id ≠ b.m.id := by
  obtain ⟨h1, rfl⟩ := List.getElem?_eq_some_iff.1 ha
  obtain ⟨h2, rfl⟩ := List.getElem?_eq_some_iff.1 hb
  rw [List.pairwise_iff_getElem] at h
  rcases Nat.lt_or_gt_of_ne hij with k | k
  · have := h i j h1 h2 k; omega
  · have := h j i h2 h1 k; omega
theorem mem_erase {l : List Wt} {k : Nat} {b : Wt} (h : b ∈ l.eraseIdx k) : ∃ j, j ≠ k ∧ l[j]? = some b := by
  obtain ⟨i, hi⟩ := List.getElem?_of_mem h
  rw [List.getElem?_eraseIdx] at hi
  split at hi
  · exact ⟨i, by omega, hi⟩
  · exact ⟨i + 1, by omega, hi⟩
/-- the least, once final, goes -/
theorem half_drop {c : Int} {ds : List Sp} {ws : List Wt} {w : Wt} (hc : c ≤ 1073741824) (hd : DoneOk c ds) (hw : WaitOk c ds ws) (hk : ws[lst ws]? = some w) :
    DoneOk c (ds ++ [stp w]) ∧ WaitOk c (ds ++ [stp w]) (ws.eraseIdx (lst ws)) := by
  have hne : ws ≠ [] := by rintro rfl; cases hk
  obtain ⟨a, ha, h1, h2⟩ := lst_least ws hne
  rw [hk] at ha
  injection ha with ha
  subst ha
  have hmem := List.mem_of_getElem? hk
  obtain ⟨g1, g2, g3, g4⟩ := hw.1 w hmem
  refine ⟨doneOk_snoc.2 ⟨hd, ⟨⟨by show 0 ≤ w.t; omega, by show w.t ≤ _; omega, g1.1.1, g1.1.2⟩, g2⟩, last_all.1 g4, doneF_no.1 g3⟩, fun b hb => ?_, hw.2.sublist (List.eraseIdx_sublist _ _)⟩
  obtain ⟨j, hj, hbj⟩ := mem_erase hb
  obtain ⟨e1, e2, e3, _⟩ := hw.1 b (List.mem_of_getElem? hbj)
  have hid := ids_ne hw.2 hbj hk hj
  refine ⟨e1, e2, doneF_no.2 fun x hx => ?_, last_all.2 fun z hz => ?_⟩
  · rcases List.mem_append.1 hx with hx | hx
    · exact doneF_no.1 e3 x hx
    · simp at hx; subst hx; exact fun h => hid h.symm
  · simp at hz
    subst hz
    have := h1 j b hbj
    have hsw := TM.less_swap (a := stp w) (b := stp b) (fun e => hid (by have := congrArg Sp.i e; exact this.symm))
    rw [this] at hsw
    rcases hl : less (stp w) (stp b) with _ | _
    · rw [hl] at hsw; cases hsw
    · rfl
/-- what drain does: some that wait, each final, go, in order; what is left has no final head -/
theorem drain_is : ∀ (n : Nat) (c : Int) (ws : List Wt) (ds : List Sp) (out : List Mg), c ≤ 1073741824 → DoneOk c ds → WaitOk c ds ws → ws.length ≤ n →
    ∃ (gone : List Wt), (∀ w ∈ gone, w ∈ ws ∧ w.f = true) ∧ (drain n ws ds out).2.1 = ds ++ gone.map stp ∧ (drain n ws ds out).2.2 = out ++ gone.map Wt.m ∧
      DoneOk c (drain n ws ds out).2.1 ∧ WaitOk c (drain n ws ds out).2.1 (drain n ws ds out).1 ∧ HeadOk (drain n ws ds out).1 ∧ (drain n ws ds out).1.length + gone.length = ws.length ∧ (∀ w, w ∈ (drain n ws ds out).1 → w ∈ ws) ∧ ∀ w ∈ ws, w.f = false → w ∈ (drain n ws ds out).1
  | 0, c, ws, ds, out, hc, hd, hw, hl => by
    obtain rfl := List.length_eq_zero_iff.1 (Nat.le_zero.1 hl)
    exact ⟨[], fun _ h => by simp at h, by simp [drain], by simp [drain], hd, hw, by simp [drain, HeadOk], rfl, fun _ h => h, fun _ h => by simp at h⟩
  | n + 1, c, ws, ds, out, hc, hd, hw, hl => by
    rcases hk : ws[lst ws]? with _ | w
    · have hnil : ws = [] := by
        rcases ws with _ | ⟨a, r⟩
        · rfl
        · have := lst_lt (l := a :: r) (by simp)
          rw [List.getElem?_eq_getElem this] at hk; cases hk
      subst hnil
      exact ⟨[], fun _ h => by simp at h, by simp [drain], by simp [drain], hd, hw, by simp [drain, HeadOk], rfl, fun _ h => h, fun _ h => by simp at h⟩
    · have hlt := (List.getElem?_eq_some_iff.1 hk).1
      rcases hf : w.f with _ | _
      · have e : drain (n + 1) ws ds out = (ws, ds, out) := by simp [drain, hk, hf]
        rw [e]
        exact ⟨[], fun _ h => by simp at h, by simp, by simp, hd, hw, headOk_iff.2 fun x hx => by rw [hk] at hx; injection hx with hx; subst hx; exact hf, by simp, fun _ h => h, fun _ h _ => h⟩
      · have e : drain (n + 1) ws ds out = drain n (ws.eraseIdx (lst ws)) (ds ++ [stp w]) (out ++ [w.m]) := by simp [drain, hk, hf]
        obtain ⟨hd2, hw2⟩ := half_drop hc hd hw hk
        have hlen : (ws.eraseIdx (lst ws)).length + 1 = ws.length := by rw [List.length_eraseIdx]; split <;> omega
        obtain ⟨gone, h1, h2, h3, h4, h5, h6, h7, h8, h9⟩ := drain_is n c (ws.eraseIdx (lst ws)) (ds ++ [stp w]) (out ++ [w.m]) hc hd2 hw2 (by omega)
        have hin : ∀ x, x ∈ ws.eraseIdx (lst ws) → x ∈ ws := fun x hx => (List.eraseIdx_sublist _ _).subset hx
        rw [e]
        refine ⟨w :: gone, fun x hx => ?_, by rw [h2]; simp, by rw [h3]; simp, h4, h5, h6, by rw [List.length_cons]; omega, fun x hx => hin x (h8 x hx), fun x hx hxf => ?_⟩
        · rcases List.mem_cons.1 hx with rfl | hx
          · exact ⟨List.mem_of_getElem? hk, hf⟩
          · exact ⟨hin x (h1 x hx).1, (h1 x hx).2⟩
        · refine h9 x ?_ hxf
          obtain ⟨j, hj⟩ := List.getElem?_of_mem hx
          have hjk : j ≠ lst ws := by
            rintro rfl
            rw [hk] at hj; injection hj with hj; subst hj; rw [hf] at hxf; cases hxf
          refine List.mem_eraseIdx_iff_getElem?.2 ⟨j, hjk, hj⟩
theorem mem_ins {l : List Wt} {w x : Wt} (hne : ∀ y ∈ l, y.m.id ≠ w.m.id) : x ∈ ins l w ↔ x = w ∨ x ∈ l := by
  unfold ins
  simp only [List.mem_append, List.mem_filter, List.mem_singleton, decide_eq_true_eq]
  constructor
  · rintro ((⟨h, _⟩ | h) | ⟨h, _⟩)
    · exact .inr h
    · exact .inl h
    · exact .inr h
  · rintro (h | h)
    · exact .inl (.inr h)
    · have := hne x h
      rcases Int.lt_or_gt_of_ne this with k | k
      · exact .inl (.inl ⟨h, k⟩)
      · exact .inr ⟨h, k⟩
theorem ins_len : ∀ {l : List Wt} {w : Wt}, (∀ y ∈ l, y.m.id ≠ w.m.id) → (ins l w).length = l.length + 1
  | [], w, _ => rfl
  | a :: l, w, hne => by
    have ih := ins_len (l := l) (w := w) fun y hy => hne y (List.mem_cons_of_mem _ hy)
    have ha := hne a (List.mem_cons_self ..)
    unfold ins at ih ⊢
    simp only [List.length_append, List.length_singleton] at ih
    rcases Int.lt_or_gt_of_ne ha with k | k
    · have k2 : ¬ w.m.id < a.m.id := by omega
      simp only [List.filter_cons, k, k2, decide_true, decide_false, if_true, List.length_append, List.length_cons, List.length_nil]
      simp only [Bool.false_eq_true, if_false]
      omega
    · have k2 : ¬ a.m.id < w.m.id := by omega
      have k3 : w.m.id < a.m.id := k
      simp only [List.filter_cons, k3, k2, decide_true, decide_false, if_true, List.length_append, List.length_cons, List.length_nil]
      simp only [Bool.false_eq_true, if_false]
      omega
theorem half_ins {s : Sk} {m : Mg} (h : Half s) (hm : CM.mgOk m) (hw : ∀ y ∈ s.ws, y.m.id ≠ m.id) (hd : doneF s.ds m.id = false) (hc : s.c ≠ 1073741824) : Half ⟨s.c + 1, ins s.ws ⟨m, s.c + 1, false⟩, s.ds⟩ := by
  obtain ⟨h0, h1, h2, h3⟩ := h
  refine ⟨by show 0 ≤ s.c + 1; omega, by show s.c + 1 ≤ _; omega, doneOk_mono h2 (by show s.c ≤ s.c + 1; omega), fun x hx => ?_, ?_⟩
  · rcases (mem_ins (w := ⟨m, s.c + 1, false⟩) hw).1 hx with rfl | hx
    · refine ⟨hm, ⟨by show 1 ≤ s.c + 1; omega, Int.le_refl _⟩, hd, last_all.2 fun z hz => ?_⟩
      have := (h2.1 z (List.mem_of_getLast? hz)).2.2
      simp only [less, decide_eq_true_eq]
      exact .inl (by show z.t < s.c + 1; omega)
    · have := (waitOk_mono h3 (show s.c ≤ s.c + 1 by omega)).1 x hx
      exact this
  · unfold ins
    rw [List.pairwise_append, List.pairwise_append]
    refine ⟨⟨h3.2.filter _, by simp, fun a ha b hb => ?_⟩, h3.2.filter _, fun a ha b hb => ?_⟩
    · simp at ha hb; subst hb; exact ha.2
    · simp at ha hb
      rcases ha with ha | rfl
      · omega
      · exact hb.2
theorem half_pre {s : Sk} {g : Int} {c : Cm} (h : Half s) (hc : CM.may c) (hf : ¬ (asg s g c ∧ full s)) : Half (pre s g c) := by
  unfold pre
  split
  · rename_i ha
    have hf2 : ¬ full s := fun k => hf ⟨ha, k⟩
    obtain ⟨h1, h2, h3, _⟩ := ha
    have hm : CM.mgOk c.m := by
      rcases hc with rfl | k | k | k | k | k
      · cases h1
      · exact k.2.1
      all_goals (have := k.1; omega)
    exact half_ins h hm (wat_no.1 h2) h3 (fun k => hf2 (.inl k))
  · exact h
theorem half_fnl {s : Sk} {c : Cm} (h : Half s) (hc : CM.may c) : Half (fnl s c) := by
  obtain ⟨h0, h1, h2, h3⟩ := h
  unfold fnl
  rcases hk : s.ws[wat s.ws c.id]? with _ | w
  · exact ⟨h0, h1, h2, h3⟩
  · simp only
    split
    · rename_i ha
      obtain ⟨ka, kf, kt⟩ := ha
      have ht : c.tm ≤ 1073741824 := by
        rcases hc with rfl | k | k | k | k | k
        · cases ka
        all_goals first | (have := k.1; omega) | exact k.2.2.2.1.2
      have hmx : s.c ≤ max s.c c.tm := Int.le_max_left ..
      have hmy : c.tm ≤ max s.c c.tm := Int.le_max_right ..
      have hkl := (List.getElem?_eq_some_iff.1 hk).1
      have hwm := (waitOk_mono h3 hmx).1 w (List.mem_of_getElem? hk)
      refine ⟨by show 0 ≤ max s.c c.tm; omega, by show max s.c c.tm ≤ _; omega, doneOk_mono h2 hmx, fun x hx => ?_, ?_⟩
      · rcases List.mem_or_eq_of_mem_set hx with hx | rfl
        · exact (waitOk_mono h3 hmx).1 x hx
        · refine ⟨hwm.1, ⟨by show 1 ≤ c.tm; have := hwm.2.1.1; omega, hmy⟩, hwm.2.2.1, last_all.2 fun z hz => ?_⟩
          have hz2 := last_all.1 hwm.2.2.2 z hz
          simp only [less, decide_eq_true_eq] at hz2 ⊢
          unfold TM.lt at hz2 ⊢
          simp only [stp] at hz2 ⊢
          omega
      · have := h3.2
        rw [List.pairwise_iff_getElem] at this ⊢
        obtain ⟨_, hwe⟩ := List.getElem?_eq_some_iff.1 hk
        have key : ∀ i (hi : i < (s.ws.set (wat s.ws c.id) ⟨w.m, c.tm, true⟩).length), ((s.ws.set (wat s.ws c.id) ⟨w.m, c.tm, true⟩)[i]).m = (s.ws[i]'(by simpa using hi)).m := fun i hi => by
          rw [List.getElem_set]
          split
          · rename_i e; subst e; rw [hwe]
          · rfl
        intro i j hi hj hij
        have := this i j (by simpa using hi) (by simpa using hj) hij
        rw [key i hi, key j hj]
        exact this
    · exact ⟨h0, h1, h2, h3⟩
theorem pre_c {s : Sk} {g : Int} {c : Cm} : s.c ≤ (pre s g c).c ∧ (pre s g c).ds = s.ds := by
  unfold pre
  split
  · exact ⟨by show s.c ≤ s.c + 1; omega, rfl⟩
  · exact ⟨Int.le_refl _, rfl⟩
theorem fnl_c {s : Sk} {c : Cm} : s.c ≤ (fnl s c).c ∧ (fnl s c).ds = s.ds := by
  unfold fnl
  rcases s.ws[wat s.ws c.id]? with _ | w
  · exact ⟨Int.le_refl _, rfl⟩
  · simp only
    split
    · exact ⟨Int.le_max_left .., rfl⟩
    · exact ⟨Int.le_refl _, rfl⟩
theorem pre_len {s : Sk} {g : Int} {c : Cm} : (pre s g c).ws.length = s.ws.length ∨ (asg s g c ∧ (pre s g c).ws.length = s.ws.length + 1) := by
  unfold pre
  split
  · rename_i h; exact .inr ⟨h, ins_len (wat_no.1 h.2.1)⟩
  · exact .inl rfl
theorem fnl_len {s : Sk} {c : Cm} : (fnl s c).ws.length = s.ws.length := by
  unfold fnl
  rcases s.ws[wat s.ws c.id]? with _ | w
  · rfl
  · simp only
    split
    · simp
    · rfl
/-- where a wait behind a command comes from -/
def From (s : Sk) (g : Int) (c : Cm) (w : Wt) : Prop := w ∈ s.ws ∨ (c.k = 1 ∧ w.m = c.m ∧ g ∈ c.m.gs ∧ w.f = false) ∨ (c.k = 2 ∧ w.m.id = c.id ∧ w.t = c.tm ∧ w.f = true ∧ ∃ x ∈ s.ws, x.m = w.m)
theorem mem_fnl_pre {s : Sk} {g : Int} {c : Cm} {w : Wt} (h : w ∈ (fnl (pre s g c) c).ws) : From s g c w := by
  unfold fnl at h
  rcases hk : (pre s g c).ws[wat (pre s g c).ws c.id]? with _ | x
  · rw [hk] at h
    simp only at h
    unfold pre at h
    split at h
    · rename_i ha
      rcases (mem_ins (w := ⟨c.m, s.c + 1, false⟩) (wat_no.1 ha.2.1)).1 h with rfl | h
      · exact .inr (.inl ⟨ha.1, rfl, ha.2.2.2, rfl⟩)
      · exact .inl h
    · exact .inl h
  · rw [hk] at h
    simp only at h
    by_cases h2 : c.k = 2
    · have hp : pre s g c = s := by
        unfold pre
        rw [if_neg (fun k => by have := k.1; omega)]
      rw [hp] at h hk
      split at h
      · rename_i ha
        rcases List.mem_or_eq_of_mem_set h with h | rfl
        · exact .inl h
        · have hx := wat_some (l := s.ws) (id := c.id) (List.getElem?_eq_some_iff.1 hk).1
          obtain ⟨y, hy, hyi⟩ := hx
          rw [hk] at hy; injection hy with hy; subst hy
          exact .inr (.inr ⟨h2, hyi, rfl, rfl, x, List.mem_of_getElem? hk, rfl⟩)
      · exact .inl h
    · rw [if_neg (fun k => h2 k.1)] at h
      unfold pre at h
      split at h
      · rename_i ha
        rcases (mem_ins (w := ⟨c.m, s.c + 1, false⟩) (wat_no.1 ha.2.1)).1 h with rfl | h
        · exact .inr (.inl ⟨ha.1, rfl, ha.2.2.2, rfl⟩)
        · exact .inl h
      · exact .inl h
/-- what a command that is done leaves -/
theorem apply_ok {s : Sk} {g : Int} {c : Cm} (h : (applyF s g c).2.2 = 0) :
    may s ∧ may (applyF s g c).1 ∧ s.c ≤ (applyF s g c).1.c ∧ ∃ gone : List Wt, (applyF s g c).1.ds = s.ds ++ gone.map stp ∧ (applyF s g c).2.1 = gone.map Wt.m ∧ (∀ w ∈ gone, w.f = true ∧ From s g c w) ∧ (∀ w ∈ (applyF s g c).1.ws, From s g c w) := by
  by_cases hm : may s
  rotate_left
  · rw [applyF, if_pos hm] at h; exact absurd h (by decide)
  by_cases hg : 0 ≤ g ∧ g < 4
  rotate_left
  · rw [applyF, if_neg (fun k => k hm), if_pos hg] at h; exact absurd h (by decide)
  by_cases hc : CM.may c
  rotate_left
  · rw [applyF, if_neg (fun k => k hm), if_neg (fun k => k hg), if_pos hc] at h; exact absurd h (by decide)
  by_cases hp : (putF s g c).2.2 = true
  rotate_left
  · rw [applyF, if_neg (fun k => k hm), if_neg (fun k => k hg), if_neg (fun k => k hc), if_neg hp] at h; exact absurd h (by decide)
  have e : applyF s g c = ((putF s g c).1, (putF s g c).2.1, 0) := by rw [applyF, if_neg (fun k => k hm), if_neg (fun k => k hg), if_neg (fun k => k hc), if_pos hp]
  rw [e]
  simp only
  by_cases hf : asg s g c ∧ full s
  · rw [putF, if_pos hf] at hp; exact absurd hp (by simp)
  have hpre := half_pre (may_half hm) hc hf
  have hfnl := half_fnl hpre hc
  have hlen : (fnl (pre s g c) c).ws.length ≤ 200 := by
    rw [fnl_len]
    rcases pre_len (s := s) (g := g) (c := c) with k | ⟨k, k2⟩
    · rw [k]; exact hm.1.2.2.1
    · rw [k2]
      have := hm.1.2.2.1
      have : s.ws.length ≠ 200 := fun q => hf ⟨k, .inr q⟩
      omega
  have hds : (fnl (pre s g c) c).ds = s.ds := by rw [fnl_c.2, pre_c.2]
  have hcc : s.c ≤ (fnl (pre s g c) c).c := Int.le_trans pre_c.1 fnl_c.1
  rw [putF, if_neg hf] at hp ⊢
  simp only at hp ⊢
  have hmem : ∀ w ∈ (fnl (pre s g c) c).ws, From s g c w := fun w hw => mem_fnl_pre hw
  generalize fnl (pre s g c) c = p at *
  obtain ⟨h0, h1, h2, h3⟩ := hfnl
  obtain ⟨gone, g1, g2, g3, g4, g5, g6, g7, g8, g9⟩ := drain_is p.ws.length p.c p.ws p.ds [] h1 h2 h3 (Nat.le_refl _)
  have hdl := of_decide_eq_true hp
  refine ⟨hm, ⟨⟨h0, h1, by show (drain p.ws.length p.ws p.ds []).1.length ≤ 200; omega, hdl⟩, g4, g5, g6⟩, hcc, gone, by rw [g2, hds], by rw [g3]; rfl, fun w hw => ⟨(g1 w hw).2, hmem w (g1 w hw).1⟩, fun w hw => hmem w (g8 w hw)⟩
/-- what a command leaves waiting: what was not final, but for the one that is made so -/
theorem applyF_fin {s : Sk} {w : Wt} {t : Int} {c : Cm} (hm : may s) (hw : w ∈ s.ws) (hf : w.f = false) (ht : w.t ≤ t) (hc : c.k = 2) (hci : c.id = w.m.id) (hct : c.tm = t) (hcm : CM.may c) (g : Int) (hg : 0 ≤ g ∧ g < 4) (h200 : s.ws.length + s.ds.length ≤ 200) :
    (applyF s g c).2.2 = 0 ∧ may (applyF s g c).1 ∧ (applyF s g c).1.ws.length + (applyF s g c).1.ds.length = s.ws.length + s.ds.length ∧ (∀ x ∈ s.ws, x.f = false → x ≠ w → x ∈ (applyF s g c).1.ws) ∧ (∀ x ∈ (applyF s g c).1.ws, x.f = false → x ∈ s.ws ∧ x ≠ w) := by
  have hna : ¬ asg s g c := fun k => by have := k.1; omega
  have hpre : pre s g c = s := by unfold pre; rw [if_neg hna]
  have hh := half_fnl (may_half hm) hcm
  obtain ⟨j, hj⟩ := List.getElem?_of_mem hw
  have hwat : wat s.ws c.id = j := wat_eq hj (by rw [hci]) (fun i x hi hx => by rw [hci]; exact ids_ne hm.2.2.1.2 hx hj (by omega))
  have hfn : fnl s c = ⟨max s.c c.tm, s.ws.set j ⟨w.m, c.tm, true⟩, s.ds⟩ := by
    unfold fnl
    rw [hwat, hj]
    simp only
    rw [if_pos ⟨hc, hf, by rw [hct]; exact ht⟩]
  obtain ⟨h0, h1, h2, h3⟩ := hh
  obtain ⟨gone, g1, g2, g3, g4, g5, g6, g7, g8, g9⟩ := drain_is (fnl s c).ws.length (fnl s c).c (fnl s c).ws (fnl s c).ds [] h1 h2 h3 (Nat.le_refl _)
  have hlen : (fnl s c).ws.length = s.ws.length := fnl_len
  have hds : (fnl s c).ds = s.ds := fnl_c.2
  have hsum : (drain (fnl s c).ws.length (fnl s c).ws (fnl s c).ds []).1.length + (drain (fnl s c).ws.length (fnl s c).ws (fnl s c).ds []).2.1.length = s.ws.length + s.ds.length := by
    have hdl : (fnl s c).ds.length = s.ds.length := by rw [hds]
    have h2l := congrArg List.length g2
    rw [List.length_append, List.length_map] at h2l
    omega
  have hput : putF s g c = (⟨(fnl s c).c, (drain (fnl s c).ws.length (fnl s c).ws (fnl s c).ds []).1, (drain (fnl s c).ws.length (fnl s c).ws (fnl s c).ds []).2.1⟩, (drain (fnl s c).ws.length (fnl s c).ws (fnl s c).ds []).2.2, true) := by
    rw [putF, if_neg (fun k => hna k.1), hpre]
    rw [decide_eq_true (by omega)]
  have e : applyF s g c = ((putF s g c).1, (putF s g c).2.1, 0) := by rw [applyF, if_neg (fun k => k hm), if_neg (fun k => k hg), if_neg (fun k => k hcm), hput, if_pos rfl]
  have hok := apply_ok (s := s) (g := g) (c := c) (by rw [e])
  refine ⟨by rw [e], hok.2.1, by rw [e, hput]; exact hsum, fun x hx hxf hne => ?_, fun x hx hxf => ?_⟩
  · rw [e, hput]
    refine g9 x ?_ hxf
    rw [hfn]
    obtain ⟨i, hi⟩ := List.getElem?_of_mem hx
    have hij : j ≠ i := by
      rintro rfl
      rw [hj] at hi; injection hi with hi; exact hne hi.symm
    refine List.mem_of_getElem? (i := i) ?_
    show (s.ws.set j ⟨w.m, c.tm, true⟩)[i]? = some x
    rw [List.getElem?_set, if_neg hij]
    exact hi
  · rw [e, hput] at hx
    have hx2 := g8 x hx
    rw [hfn] at hx2
    obtain ⟨i, hi⟩ := List.getElem?_of_mem hx2
    simp only at hi
    rw [List.getElem?_set] at hi
    split at hi
    · rename_i hij
      subst hij
      rw [if_pos (List.getElem?_eq_some_iff.1 hj).1] at hi
      injection hi with hi
      subst hi
      cases hxf
    · rename_i hij
      refine ⟨List.mem_of_getElem? hi, ?_⟩
      rintro rfl
      exact absurd rfl (ids_ne hm.2.2.1.2 hj hi hij)
end Go.Proofs.YteebeiaokfenmaaGreat.KM
