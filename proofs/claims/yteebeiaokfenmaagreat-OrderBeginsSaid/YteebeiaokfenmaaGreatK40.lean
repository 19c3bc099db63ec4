/-
  Several groups' logs: what a group's log makes, its times of messages, final times, honest logs (no program). Conditions: as each theorem says.
  What stands behind a group's log: every message that waits, or was delivered, has a time, and who was made final was so by a command (no program). Conditions: as each theorem says.
  Final times, honest logs, and what follows of them for the deliveries of several groups (no program). Conditions: as each theorem says.
  What a beginning of a log makes begins what all of it makes; a final time is the greatest of all groups'; a final of it leaves logs honest (no program). Conditions: as each theorem says.
  What package order reckons of logs is what the document says: times by what an assign does, finals that do something, messages found by ids (no program). Conditions: as each theorem says.
-/
import Derived.Test.YteebeiaokfenmaaGreatK15
namespace Go.Proofs.YteebeiaokfenmaaGreat.OM
open CM (Mg Cm)
open TM (Sp less ok Up rises)
open KM
set_option linter.unusedVariables false
set_option linter.unusedSimpArgs false

/-- a command done, or refused -/
def one (s : Sk) (g : Int) (c : Cm) : Sk × List Mg := if (putF s g c).2.2 = true then ((putF s g c).1, (putF s g c).2.1) else (s, [])
/-- the time that a command gives -/
def tm1 (s s' : Sk) (c : Cm) : List (Int × Mg) := if s.ws.length < s'.ws.length then [(s'.c, c.m)] else []
def nx (g : Int) (r : Sk × List Mg × List (Int × Mg)) (c : Cm) : Sk × List Mg × List (Int × Mg) := ((one r.1 g c).1, r.2.1 ++ (one r.1 g c).2, r.2.2 ++ tm1 r.1 (one r.1 g c).1 c)
def play (g : Int) (l : List Cm) : Sk × List Mg × List (Int × Mg) := l.foldl (nx g) (KM.zero, [], [])
theorem play_nil (g : Int) : play g [] = (KM.zero, [], []) := rfl
theorem play_snoc (g : Int) (l : List Cm) (c : Cm) : play g (l ++ [c]) = nx g (play g l) c := by unfold play; rw [List.foldl_append]; rfl

-- one command
theorem drain_no : ∀ (n : Nat) (ws : List Wt) (ds : List Sp) (out : List Mg), HeadOk ws → KM.drain n ws ds out = (ws, ds, out)
  | 0, _, _, _, _ => rfl
  | n + 1, ws, ds, out, h => by
    rw [headOk_iff] at h
    unfold KM.drain
    rcases hk : ws[lst ws]? with _ | w
    · rfl
    · simp [h w hk]
theorem drain_mem : ∀ (n : Nat) (ws : List Wt) (ds : List Sp) (out : List Mg), (∀ d ∈ ds, d ∈ (KM.drain n ws ds out).2.1) ∧ ∀ w ∈ ws, w ∈ (KM.drain n ws ds out).1 ∨ stp w ∈ (KM.drain n ws ds out).2.1
  | 0, ws, ds, out => ⟨fun _ h => h, fun _ h => .inl h⟩
  | n + 1, ws, ds, out => by
    unfold KM.drain
    rcases hk : ws[lst ws]? with _ | x
    · exact ⟨fun _ h => h, fun _ h => .inl h⟩
    · simp only
      split
      · obtain ⟨h1, h2⟩ := drain_mem n (ws.eraseIdx (lst ws)) (ds ++ [stp x]) (out ++ [x.m])
        refine ⟨fun d hd => h1 d (List.mem_append_left _ hd), fun w hw => ?_⟩
        by_cases hwx : w = x
        · subst hwx
          exact .inr (h1 _ (by simp))
        · obtain ⟨j, hj⟩ := List.getElem?_of_mem hw
          refine h2 w (List.mem_eraseIdx_iff_getElem?.2 ⟨j, fun e => ?_, hj⟩)
          rw [e, hk] at hj
          injection hj with hj
          exact hwx hj.symm
      · exact ⟨fun _ h => h, fun _ h => .inl h⟩
theorem stp_eq {ws : List Wt} (h : ws.Pairwise fun a b => a.m.id < b.m.id) {a b : Wt} (ha : a ∈ ws) (hb : b ∈ ws) (he : a.m.id = b.m.id) : a = b := by
  obtain ⟨i, hi⟩ := List.getElem?_of_mem ha
  obtain ⟨j, hj⟩ := List.getElem?_of_mem hb
  by_cases hij : i = j
  · subst hij
    rw [hi] at hj
    injection hj
  · exact absurd he (ids_ne h hi hj hij)
theorem head_ins {s : Sk} {m : Mg} (h : may s) (hw : ∀ y ∈ s.ws, y.m.id ≠ m.id) : HeadOk (ins s.ws ⟨m, s.c + 1, false⟩) := by
  rw [headOk_iff]
  intro w hk
  have hmem := (mem_ins (w := ⟨m, s.c + 1, false⟩) hw).1 (List.mem_of_getElem? hk)
  rcases hmem with rfl | hmem
  · rfl
  rcases hf : w.f with _ | _
  · rfl
  exfalso
  have hne : s.ws ≠ [] := by rintro e; rw [e] at hmem; cases hmem
  obtain ⟨v, hv, hv1, _⟩ := lst_least s.ws hne
  have hvf := headOk_iff.1 h.2.2.2 v hv
  have hvm := List.mem_of_getElem? hv
  have hine : ins s.ws ⟨m, s.c + 1, false⟩ ≠ [] := by rintro e; rw [e] at hk; cases hk
  obtain ⟨w', hw', hw1, _⟩ := lst_least _ hine
  rw [hk] at hw'
  injection hw' with hw'
  subst hw'
  obtain ⟨i, hi⟩ := List.getElem?_of_mem hmem
  have l1 := hv1 i w hi
  obtain ⟨j, hj⟩ := List.getElem?_of_mem ((mem_ins (w := ⟨m, s.c + 1, false⟩) hw).2 (.inr hvm))
  have l2 := hw1 j v hj
  have he : w.m.id = v.m.id := by
    simp only [less, decide_eq_false_iff_not] at l1 l2
    unfold TM.lt stp at l1 l2
    simp only at l1 l2
    omega
  have := stp_eq h.2.2.1.2 hmem hvm he
  subst this
  rw [hf] at hvf
  cases hvf
/-- what a command that may be does to a clock that may be -/
inductive Does (s : Sk) (g : Int) (c : Cm) : Prop where
  | no (h : one s g c = (s, []))
  | asg (h1 : asg s g c) (h2 : ¬ full s) (h : one s g c = (⟨s.c + 1, ins s.ws ⟨c.m, s.c + 1, false⟩, s.ds⟩, []))
  | fin (hk : c.k = 2) (w : Wt) (hw : s.ws[wat s.ws c.id]? = some w) (hf : w.f = false) (ht : w.t ≤ c.tm) (rest gone : List Wt) (h : one s g c = (⟨max s.c c.tm, rest, s.ds ++ gone.map stp⟩, gone.map Wt.m))
      (hg : ∀ x ∈ gone, x.f = true ∧ x ∈ s.ws.set (wat s.ws c.id) ⟨w.m, c.tm, true⟩) (hr : ∀ x ∈ rest, x ∈ s.ws.set (wat s.ws c.id) ⟨w.m, c.tm, true⟩)
      (ha : ∀ x ∈ s.ws.set (wat s.ws c.id) ⟨w.m, c.tm, true⟩, x ∈ rest ∨ stp x ∈ s.ds ++ gone.map stp) (hl : rest.length ≤ s.ws.length)
theorem one_may {s : Sk} {g : Int} {c : Cm} (hm : may s) (hg : 0 ≤ g ∧ g < 4) (hc : CM.may c) : may (one s g c).1 ∧ s.c ≤ (one s g c).1.c := by
  unfold one
  split
  · rename_i hp
    have e : applyF s g c = ((putF s g c).1, (putF s g c).2.1, 0) := by rw [applyF, if_neg (fun k => k hm), if_neg (fun k => k hg), if_neg (fun k => k hc), if_pos hp]
    have h := apply_ok (s := s) (g := g) (c := c) (by rw [e])
    rw [e] at h
    exact ⟨h.2.1, h.2.2.1⟩
  · exact ⟨hm, Int.le_refl _⟩
theorem does {s : Sk} {g : Int} {c : Cm} (hm : may s) (hg : 0 ≤ g ∧ g < 4) (hc : CM.may c) : Does s g c := by
  by_cases hf : asg s g c ∧ full s
  · refine .no ?_
    unfold one
    rw [putF, if_pos hf]
    rfl
  by_cases ha : asg s g c
  · have hfn : ¬ full s := fun k => hf ⟨ha, k⟩
    have hw := wat_no.1 ha.2.1
    have hpre : pre s g c = ⟨s.c + 1, ins s.ws ⟨c.m, s.c + 1, false⟩, s.ds⟩ := by unfold pre; rw [if_pos ha]
    have hk1 := ha.1
    have hfnl : fnl (pre s g c) c = pre s g c := by
      unfold fnl
      rcases (pre s g c).ws[wat (pre s g c).ws c.id]? with _ | w
      · rfl
      · simp only
        rw [if_neg (fun k => by have := k.1; omega)]
    have hd := drain_no (ins s.ws ⟨c.m, s.c + 1, false⟩).length (ins s.ws ⟨c.m, s.c + 1, false⟩) s.ds [] (head_ins hm hw)
    refine .asg ha hfn ?_
    unfold one
    rw [putF, if_neg hf, hfnl, hpre]
    simp only [hd]
    rw [if_pos (by simpa using hm.1.2.2.2)]
  have hpre : pre s g c = s := by unfold pre; rw [if_neg ha]
  have hno : fnl s c = s → Does s g c := fun hfs => by
    refine .no ?_
    have hd := drain_no s.ws.length s.ws s.ds [] hm.2.2.2
    unfold one
    rw [putF, if_neg hf, hpre, hfs]
    simp only [hd]
    rw [if_pos (by simpa using hm.1.2.2.2)]
  rcases hk : s.ws[wat s.ws c.id]? with _ | w
  · exact hno (by unfold fnl; rw [hk])
  by_cases hcond : c.k = 2 ∧ w.f = false ∧ w.t ≤ c.tm
  rotate_left
  · exact hno (by unfold fnl; rw [hk]; simp only; rw [if_neg hcond])
  have hfnl : fnl s c = ⟨max s.c c.tm, s.ws.set (wat s.ws c.id) ⟨w.m, c.tm, true⟩, s.ds⟩ := by unfold fnl; rw [hk]; simp only; rw [if_pos hcond]
  have hh := half_fnl (s := s) (c := c) (may_half hm) hc
  rw [hfnl] at hh
  obtain ⟨h0, h1, h2, h3⟩ := hh
  obtain ⟨gone, g1, g2, g3, g4, g5, g6, g7, g8, g9⟩ := drain_is (s.ws.set (wat s.ws c.id) ⟨w.m, c.tm, true⟩).length (max s.c c.tm) (s.ws.set (wat s.ws c.id) ⟨w.m, c.tm, true⟩) s.ds [] h1 h2 h3 (Nat.le_refl _)
  have hall := (drain_mem (s.ws.set (wat s.ws c.id) ⟨w.m, c.tm, true⟩).length (s.ws.set (wat s.ws c.id) ⟨w.m, c.tm, true⟩) s.ds []).2
  by_cases hp : (putF s g c).2.2 = true
  rotate_left
  · exact .no (by unfold one; rw [if_neg hp])
  refine .fin hcond.1 w hk hcond.2.1 hcond.2.2 (KM.drain (s.ws.set (wat s.ws c.id) ⟨w.m, c.tm, true⟩).length (s.ws.set (wat s.ws c.id) ⟨w.m, c.tm, true⟩) s.ds []).1 gone ?_ (fun x hx => ⟨(g1 x hx).2, (g1 x hx).1⟩) g8 (fun x hx => by rw [← g2]; exact hall x hx) (by have e : (s.ws.set (wat s.ws c.id) ⟨w.m, c.tm, true⟩).length = s.ws.length := List.length_set; omega)
  unfold one
  rw [if_pos hp, putF, if_neg hf, hpre, hfnl]
  simp only [g2, g3]
  simp
end Go.Proofs.YteebeiaokfenmaaGreat.OM

namespace Go.Proofs.YteebeiaokfenmaaGreat.OM
open CM (Mg Cm)
open TM (Sp less ok Up rises)
open KM
set_option linter.unusedVariables false
set_option linter.unusedSimpArgs false

/-- a command of the log made it final -/
def Fl (g : Int) (l : List Cm) (w : Wt) : Prop := ∃ k c, l[k]? = some c ∧ c.k = 2 ∧ c.id = w.m.id ∧ c.tm = w.t ∧
  ∃ y, (play g (l.take k)).1.ws[wat (play g (l.take k)).1.ws c.id]? = some y ∧ y.m = w.m ∧ y.f = false ∧ y.t ≤ c.tm ∧ (play g (l.take (k + 1))).1 ≠ (play g (l.take k)).1
/-- it has a time, and is as that, or was made final -/
def Hv (g : Int) (l : List Cm) (w : Wt) : Prop := ∃ t, (t, w.m) ∈ (play g l).2.2 ∧ t ≤ w.t ∧ (w.f = false → w.t = t) ∧ (w.f = true → Fl g l w)
structure Inv (g : Int) (l : List Cm) : Prop where
  m : may (play g l).1
  ds : ∃ D : List Wt, (play g l).1.ds = D.map stp ∧ (play g l).2.1 = D.map Wt.m ∧ ∀ w ∈ D, w.f = true ∧ Hv g l w
  ws : ∀ w ∈ (play g l).1.ws, Hv g l w
  tm : ∀ p ∈ (play g l).2.2, 1 ≤ p.1 ∧ p.1 ≤ (play g l).1.c ∧ g ∈ p.2.gs ∧ CM.mgOk p.2 ∧ ((∃ w ∈ (play g l).1.ws, w.m = p.2) ∨ ∃ d ∈ (play g l).1.ds, d.i = p.2.id)
  nd : ((play g l).2.2.map (fun p => p.2.id)).Nodup
section
variable {g : Int} {l : List Cm} {c : Cm} {w : Wt}
theorem take_snoc {k : Nat} (h : k ≤ l.length) : (l ++ [c]).take k = l.take k := List.take_append_of_le_length h
theorem Fl.snoc (h : Fl g l w) : Fl g (l ++ [c]) w := by
  obtain ⟨k, d, h1, h2, h3, h4, y, h5⟩ := h
  have hk := (List.getElem?_eq_some_iff.1 h1).1
  refine ⟨k, d, by rw [List.getElem?_append_left hk]; exact h1, h2, h3, h4, y, ?_⟩
  rw [take_snoc (by omega), take_snoc (by omega)]
  exact h5
theorem times_snoc : (play g (l ++ [c])).2.2 = (play g l).2.2 ++ tm1 (play g l).1 (play g (l ++ [c])).1 c := by rw [play_snoc]; rfl
theorem Hv.snoc (h : Hv g l w) : Hv g (l ++ [c]) w := by
  obtain ⟨t, h1, h2, h3, h4⟩ := h
  exact ⟨t, by rw [times_snoc]; exact List.mem_append_left _ h1, h2, h3, fun f => (h4 f).snoc⟩
theorem take_self (l : List Cm) : (l ++ [c]).take (l.length + 1) = l ++ [c] := by rw [List.take_of_length_le]; simp
theorem inv_next (hg : 0 ≤ g ∧ g < 4) (hc : CM.may c) (h : Inv g l) : Inv g (l ++ [c]) := by
  have hm := one_may (g := g) (c := c) h.m hg hc
  have e1 : (play g (l ++ [c])).1 = (one (play g l).1 g c).1 := by rw [play_snoc]; rfl
  have e2 : (play g (l ++ [c])).2.1 = (play g l).2.1 ++ (one (play g l).1 g c).2 := by rw [play_snoc]; rfl
  have e3 : (play g (l ++ [c])).2.2 = (play g l).2.2 ++ tm1 (play g l).1 (one (play g l).1 g c).1 c := by rw [play_snoc]; rfl
  have hmay : may (play g (l ++ [c])).1 := by rw [e1]; exact hm.1
  obtain ⟨D, d1, d2, d3⟩ := h.ds
  cases does (g := g) (c := c) h.m hg hc with
  | no ho =>
    rw [ho] at e1 e2 e3
    have et : tm1 (play g l).1 (play g l).1 c = [] := by unfold tm1; rw [if_neg (Nat.lt_irrefl _)]
    simp only [et, List.append_nil] at e1 e2 e3
    refine ⟨hmay, ⟨D, by rw [e1, d1], by rw [e2, d2], fun w hw => ⟨(d3 w hw).1, (d3 w hw).2.snoc⟩⟩, fun w hw => ?_, fun p hp => ?_, by rw [e3]; exact h.nd⟩
    · rw [e1] at hw
      exact (h.ws w hw).snoc
    · rw [e3] at hp
      rw [e1]
      exact h.tm p hp
  | asg ha hf ho =>
    have hnw := wat_no.1 ha.2.1
    have hok : CM.mgOk c.m := by
      rcases hc with rfl | k | k | k | k | k
      · exact absurd ha.1 (by decide)
      · exact k.2.1
      all_goals (have := k.1; have := ha.1; omega)
    rw [ho] at e1 e2 e3
    have et : tm1 (play g l).1 ⟨(play g l).1.c + 1, ins (play g l).1.ws ⟨c.m, (play g l).1.c + 1, false⟩, (play g l).1.ds⟩ c = [((play g l).1.c + 1, c.m)] := by
      unfold tm1
      rw [if_pos (by show _ < (ins (play g l).1.ws ⟨c.m, (play g l).1.c + 1, false⟩).length; rw [ins_len hnw]; omega)]
    simp only [et, List.append_nil] at e1 e2 e3
    refine ⟨hmay, ⟨D, by rw [e1]; exact d1, by rw [e2, d2], fun w hw => ⟨(d3 w hw).1, (d3 w hw).2.snoc⟩⟩, fun w hw => ?_, fun p hp => ?_, ?_⟩
    · rw [e1] at hw
      rcases (mem_ins (w := ⟨c.m, (play g l).1.c + 1, false⟩) hnw).1 hw with rfl | hw
      · exact ⟨(play g l).1.c + 1, by rw [e3]; simp, Int.le_refl _, fun _ => rfl, fun k => by cases k⟩
      · exact (h.ws w hw).snoc
    · rw [e3] at hp
      rw [e1]
      rcases List.mem_append.1 hp with hp | hp
      · obtain ⟨t1, t2, t3, t4, t5⟩ := h.tm p hp
        refine ⟨t1, by show p.1 ≤ (play g l).1.c + 1; omega, t3, t4, ?_⟩
        rcases t5 with ⟨w, hw, hwm⟩ | t5
        · exact .inl ⟨w, (mem_ins hnw).2 (.inr hw), hwm⟩
        · exact .inr t5
      · rw [List.mem_singleton] at hp
        subst hp
        have h0 := h.m.1.1
        exact ⟨by show 1 ≤ (play g l).1.c + 1; omega, Int.le_refl _, ha.2.2.2, hok, .inl ⟨_, (mem_ins (w := ⟨c.m, (play g l).1.c + 1, false⟩) hnw).2 (.inl rfl), rfl⟩⟩
    · rw [e3, List.map_append, List.nodup_append]
      refine ⟨h.nd, by simp, fun a ha2 b hb => ?_⟩
      obtain ⟨p, hp, rfl⟩ := List.mem_map.1 ha2
      simp at hb
      subst hb
      rcases (h.tm p hp).2.2.2.2 with ⟨w, hw, hwm⟩ | ⟨d, hd, hdi⟩
      · rw [← hwm]; exact hnw w hw
      · rw [← hdi]; exact doneF_no.1 ha.2.2.1 d hd
  | fin hk w hw hf ht rest gone ho hgo hr hal hl =>
    rw [ho] at e1 e2 e3
    have et : tm1 (play g l).1 ⟨max (play g l).1.c c.tm, rest, (play g l).1.ds ++ gone.map stp⟩ c = [] := by unfold tm1; rw [if_neg (by show ¬ _ < rest.length; omega)]
    simp only [et, List.append_nil] at e1 e2 e3
    have hwm := List.mem_of_getElem? hw
    have hwi : w.m.id = c.id := by
      obtain ⟨y, hy, hyi⟩ := wat_some (List.getElem?_eq_some_iff.1 hw).1
      rw [hw] at hy
      injection hy with hy
      rw [hy]; exact hyi
    -- the state has changed: w is not there as it was
    have hnotin : ∀ x ∈ (play g l).1.ws.set (wat (play g l).1.ws c.id) ⟨w.m, c.tm, true⟩, x ≠ w := fun x hx e => by
      subst e
      obtain ⟨j, hj⟩ := List.getElem?_of_mem hx
      rw [List.getElem?_set] at hj
      split at hj
      · split at hj
        · injection hj with hj
          rw [← hj] at hf
          cases hf
        · cases hj
      · rename_i hne
        exact ids_ne h.m.2.2.1.2 hw hj hne rfl
    have hch : (play g (l ++ [c])).1 ≠ (play g l).1 := fun e => by
      rw [e1] at e
      have : rest = (play g l).1.ws := congrArg Sk.ws e
      rw [← this] at hwm
      exact hnotin w (hr w hwm) rfl
    -- what is in the turned list has a time
    have hset : ∀ x ∈ (play g l).1.ws.set (wat (play g l).1.ws c.id) ⟨w.m, c.tm, true⟩, Hv g (l ++ [c]) x := fun x hx => by
      rcases List.mem_or_eq_of_mem_set hx with hx | rfl
      · exact (h.ws x hx).snoc
      · obtain ⟨t, t1, t2, t3, _⟩ := h.ws w hwm
        refine ⟨t, by rw [e3]; exact t1, by show t ≤ c.tm; omega, fun k => (by cases k), fun _ => ⟨l.length, c, by simp, hk, hwi.symm, rfl, w, ?_⟩⟩
        rw [take_snoc (Nat.le_refl _), take_self, List.take_length]
        exact ⟨hw, rfl, hf, ht, hch⟩
    refine ⟨hmay, ⟨D ++ gone, by rw [e1]; simp [d1], by rw [e2, d2]; simp, fun x hx => ?_⟩, fun x hx => ?_, fun p hp => ?_, by rw [e3]; exact h.nd⟩
    · rcases List.mem_append.1 hx with hx | hx
      · exact ⟨(d3 x hx).1, (d3 x hx).2.snoc⟩
      · exact ⟨(hgo x hx).1, hset x (hgo x hx).2⟩
    · rw [e1] at hx
      exact hset x (hr x hx)
    · rw [e3] at hp
      rw [e1]
      obtain ⟨t1, t2, t3, t4, t5⟩ := h.tm p hp
      refine ⟨t1, by show p.1 ≤ max (play g l).1.c c.tm; omega, t3, t4, ?_⟩
      rcases t5 with ⟨x, hx, hxm⟩ | ⟨d, hd, hdi⟩
      · have : ∃ x2 ∈ (play g l).1.ws.set (wat (play g l).1.ws c.id) ⟨w.m, c.tm, true⟩, x2.m = p.2 := by
          obtain ⟨j, hj⟩ := List.getElem?_of_mem hx
          by_cases hjk : wat (play g l).1.ws c.id = j
          · refine ⟨⟨w.m, c.tm, true⟩, List.mem_of_getElem? (i := j) ?_, ?_⟩
            · rw [List.getElem?_set, if_pos hjk, if_pos (List.getElem?_eq_some_iff.1 hw).1]
            · rw [← hjk, hw] at hj
              injection hj with hj
              rw [hj]; exact hxm
          · exact ⟨x, List.mem_of_getElem? (i := j) (by rw [List.getElem?_set, if_neg hjk]; exact hj), hxm⟩
        obtain ⟨x2, hx2, hx2m⟩ := this
        rcases hal x2 hx2 with k | k
        · exact .inl ⟨x2, k, hx2m⟩
        · exact .inr ⟨stp x2, k, by show x2.m.id = _; rw [hx2m]⟩
      · exact .inr ⟨d, List.mem_append_left _ hd, hdi⟩
theorem inv_rev (hg : 0 ≤ g ∧ g < 4) : ∀ r : List Cm, (∀ c ∈ r, CM.may c) → Inv g r.reverse
  | [], _ => ⟨(show may KM.zero by decide), ⟨[], rfl, rfl, fun _ h => (by cases h)⟩, fun _ h => (by cases h), fun _ h => (by cases h), List.nodup_nil⟩
  | c :: r, h => by
    rw [List.reverse_cons]
    exact inv_next hg (h c (List.mem_cons_self ..)) (inv_rev hg r fun d hd => h d (List.mem_cons_of_mem _ hd))
theorem inv (hg : 0 ≤ g ∧ g < 4) (h : ∀ c ∈ l, CM.may c) : Inv g l := by
  have := inv_rev hg l.reverse fun c hc => h c (List.mem_reverse.1 hc)
  rwa [List.reverse_reverse] at this
end
end Go.Proofs.YteebeiaokfenmaaGreat.OM

namespace Go.Proofs.YteebeiaokfenmaaGreat.OM
open CM (Mg Cm)
open TM (Sp less ok Up rises)
open KM
set_option linter.unusedVariables false
set_option linter.unusedSimpArgs false

/-- the time of a message, by a group's times: the last one; 0: none -/
def tOf (T : List (Int × Mg)) (m : Mg) : Int := T.foldl (fun t p => if p.2 = m then p.1 else t) 0
theorem tOf_snoc (T : List (Int × Mg)) (p : Int × Mg) (m : Mg) : tOf (T ++ [p]) m = if p.2 = m then p.1 else tOf T m := by unfold tOf; rw [List.foldl_append]; rfl
theorem tOf_rev (m : Mg) : ∀ r : List (Int × Mg), tOf r.reverse m = 0 ∧ (∀ p ∈ r, p.2 ≠ m) ∨ (tOf r.reverse m, m) ∈ r
  | [] => .inl ⟨rfl, fun _ h => (by cases h)⟩
  | p :: r => by
    rw [List.reverse_cons, tOf_snoc]
    split
    · rename_i h
      subst h
      exact .inr (List.mem_cons_self ..)
    · rename_i h
      rcases tOf_rev m r with ⟨h1, h2⟩ | h1
      · exact .inl ⟨h1, fun q hq => by
          rcases List.mem_cons.1 hq with rfl | hq
          · exact h
          · exact h2 q hq⟩
      · exact .inr (List.mem_cons_of_mem _ h1)
theorem tOf_cases (T : List (Int × Mg)) (m : Mg) : (tOf T m = 0 ∧ ∀ p ∈ T, p.2 ≠ m) ∨ (tOf T m, m) ∈ T := by
  have := tOf_rev m T.reverse
  rw [List.reverse_reverse] at this
  rcases this with ⟨h1, h2⟩ | h
  · exact .inl ⟨h1, fun p hp => h2 p (List.mem_reverse.2 hp)⟩
  · exact .inr (List.mem_reverse.1 h)
theorem nd_eq {T : List (Int × Mg)} (h : (T.map (fun p => p.2.id)).Nodup) {p q : Int × Mg} (hp : p ∈ T) (hq : q ∈ T) (he : p.2.id = q.2.id) : p = q := by
  obtain ⟨i, hi⟩ := List.getElem?_of_mem hp
  obtain ⟨j, hj⟩ := List.getElem?_of_mem hq
  have hil := (List.getElem?_eq_some_iff.1 hi).1
  have hjl := (List.getElem?_eq_some_iff.1 hj).1
  by_cases hij : i = j
  · subst hij
    rw [hi] at hj
    injection hj
  · exfalso
    rw [List.nodup_iff_pairwise_ne, List.pairwise_iff_getElem] at h
    have key : ∀ a b : Nat, ∀ u v : Int × Mg, T[a]? = some u → T[b]? = some v → a < b → u.2.id ≠ v.2.id := fun a b u v ha hb hab => by
      have hal := (List.getElem?_eq_some_iff.1 ha)
      have hbl := (List.getElem?_eq_some_iff.1 hb)
      have := h a b (by simpa using hal.1) (by simpa using hbl.1) hab
      simp only [List.getElem_map, hal.2, hbl.2] at this
      exact this
    rcases Nat.lt_or_gt_of_ne hij with k | k
    · exact key i j p q hi hj k he
    · exact key j i q p hj hi k he.symm

/-- a group's log, among some -/
def lg (L : List (List Cm)) (g : Int) : List Cm := if 0 ≤ g then L.getD g.toNat [] else []
def tg (L : List (List Cm)) (g : Int) : List (Int × Mg) := (play g (lg L g)).2.2
def lastG (L : List (List Cm)) (m : Mg) : List Int → Int → Int × Bool
  | [], most => (most, true)
  | g :: r, most => if (L.length : Int) ≤ g then (0, false) else if tOf (tg L g) m = 0 then (0, false) else lastG L m r (max most (tOf (tg L g) m))
def lastF (L : List (List Cm)) (m : Mg) : Int × Bool := lastG L m m.gs 0
theorem lastG_true {L : List (List Cm)} {m : Mg} : ∀ {gs : List Int} {most T : Int}, lastG L m gs most = (T, true) →
    (∀ g ∈ gs, g < L.length ∧ tOf (tg L g) m ≠ 0 ∧ tOf (tg L g) m ≤ T) ∧ most ≤ T ∧ (T = most ∨ ∃ g ∈ gs, tOf (tg L g) m = T)
  | [], most, T, h => by
    unfold lastG at h
    injection h with h
    subst h
    exact ⟨fun _ h => (by cases h), Int.le_refl _, .inl rfl⟩
  | g :: r, most, T, h => by
    unfold lastG at h
    split at h
    · cases h
    split at h
    · cases h
    rename_i h1 h2
    obtain ⟨i1, i2, i3⟩ := lastG_true h
    refine ⟨fun x hx => ?_, by omega, ?_⟩
    · rcases List.mem_cons.1 hx with rfl | hx
      · exact ⟨by omega, h2, by omega⟩
      · exact i1 x hx
    · rcases i3 with i3 | ⟨x, hx, hxt⟩
      · by_cases hm : tOf (tg L g) m ≤ most
        · exact .inl (by omega)
        · exact .inr ⟨g, List.mem_cons_self .., by omega⟩
      · exact .inr ⟨x, List.mem_cons_of_mem _ hx, hxt⟩
theorem lastG_cases {L : List (List Cm)} {m : Mg} : ∀ {gs : List Int} {most : Int}, (∃ T, lastG L m gs most = (T, true)) ∨ lastG L m gs most = (0, false)
  | [], most => .inl ⟨most, rfl⟩
  | g :: r, most => by
    unfold lastG
    split
    · exact .inr rfl
    split
    · exact .inr rfl
    exact lastG_cases
/-- logs are honest -/
def one1 (L : List (List Cm)) : Prop := ∀ g h : Nat, g < L.length → h < L.length → ∀ p ∈ tg L g, ∀ q ∈ tg L h, p.2.id = q.2.id → p.2 = q.2
def fair1 (L : List (List Cm)) (g : Int) (l : List Cm) (k : Nat) (c : Cm) : Prop := c.k = 2 → ∀ y, (play g (l.take k)).1.ws[wat (play g (l.take k)).1.ws c.id]? = some y → y.f = false → y.t ≤ c.tm →
  (play g (l.take (k + 1))).1 ≠ (play g (l.take k)).1 → lastF L y.m = (c.tm, true)
def honest (L : List (List Cm)) : Prop := one1 L ∧ ∀ (g : Nat) l, L[g]? = some l → ∀ (k : Nat) c, l[k]? = some c → fair1 L g l k c
/-- logs that may be -/
def Logs (L : List (List Cm)) : Prop := L.length ≤ 4 ∧ ∀ l ∈ L, ∀ c ∈ l, CM.may c
section
variable {L : List (List Cm)} {g : Nat} {l : List Cm}
theorem lg_at (h : L[g]? = some l) : lg L g = l := by unfold lg; rw [if_pos (by omega), List.getD_eq_getElem?_getD]; simp [h]
theorem Logs.inv (hL : Logs L) (h : L[g]? = some l) : Inv g l := by
  have := (List.getElem?_eq_some_iff.1 h).1
  have := hL.1
  exact OM.inv (by omega) (hL.2 l (List.mem_of_getElem? h))
/-- what was made final was so at its final time -/
theorem fl_last (hH : honest L) (h : L[g]? = some l) {w : Wt} (hf : Fl g l w) : lastF L w.m = (w.t, true) := by
  obtain ⟨k, c, h1, h2, h3, h4, y, h5, h6, h7, h8, h9⟩ := hf
  have := hH.2 g l h k c h1 h2 y h5 h7 h8 h9
  rwa [h6, h4] at this
theorem done_last (hL : Logs L) (hH : honest L) (h : L[g]? = some l) {i : Nat} {d : Sp} (hd : (play g l).1.ds[i]? = some d) :
    ∃ t m, (t, m) ∈ (play g l).2.2 ∧ m.id = d.i ∧ lastF L m = (d.t, true) ∧ (play g l).2.1[i]? = some m := by
  obtain ⟨D, d1, d2, d3⟩ := (hL.inv h).ds
  rw [d1, List.getElem?_map] at hd
  rcases hD : D[i]? with _ | w
  · rw [hD] at hd; cases hd
  rw [hD] at hd
  injection hd with hd
  subst hd
  obtain ⟨hf, t, h1, h2, h3, h4⟩ := d3 w (List.mem_of_getElem? hD)
  exact ⟨t, w.m, h1, rfl, fl_last hH h (h4 hf), by rw [d2, List.getElem?_map, hD]; rfl⟩
theorem same_stamp (hL : Logs L) (hH : honest L) {g' : Nat} {l' : List Cm} (h : L[g]? = some l) (h' : L[g']? = some l') {d d' : Sp} (hd : d ∈ (play g l).1.ds) (hd' : d' ∈ (play g' l').1.ds) (he : d.i = d'.i) : d = d' := by
  obtain ⟨i, hi⟩ := List.getElem?_of_mem hd
  obtain ⟨j, hj⟩ := List.getElem?_of_mem hd'
  obtain ⟨t, m, a1, a2, a3, _⟩ := done_last hL hH h hi
  obtain ⟨t', m', b1, b2, b3, _⟩ := done_last hL hH h' hj
  have hm := hH.1 g g' (List.getElem?_eq_some_iff.1 h).1 (List.getElem?_eq_some_iff.1 h').1 (t, m) (by unfold tg; rw [lg_at h]; exact a1) (t', m') (by unfold tg; rw [lg_at h']; exact b1) (by show m.id = m'.id; rw [a2, b2, he])
  simp only at hm
  subst hm
  rw [a3] at b3
  injection b3 with b3
  obtain ⟨x, y⟩ := d
  obtain ⟨x', y'⟩ := d'
  simp only at b3 he
  rw [b3, he]
/-- no gap: what goes to a group and was delivered somewhere, not behind that group's last one, was delivered there -/
theorem no_gap (hL : Logs L) (hH : honest L) {b : Nat} {lb : List Cm} (h : L[g]? = some l) (hb : L[b]? = some lb) {i : Nat} {d z : Sp} {m : Mg} (hd : (play g l).1.ds[i]? = some d) (hm : (play g l).2.1[i]? = some m) (hg : (b : Int) ∈ m.gs)
    (hz : (play b lb).1.ds.getLast? = some z) (hl : less z d = false) : d ∈ (play b lb).1.ds := by
  obtain ⟨t, m', a1, a2, a3, a4⟩ := done_last hL hH h hd
  rw [hm] at a4
  injection a4 with a4
  subst a4
  obtain ⟨k1, _, _⟩ := lastG_true a3
  obtain ⟨k2, k3, k4⟩ := k1 b hg
  rw [show tg L b = (play b lb).2.2 by unfold tg; rw [lg_at hb]] at k3 k4
  have hI := hL.inv hb
  rcases tOf_cases (play b lb).2.2 m with ⟨q, _⟩ | q
  · exact absurd q k3
  obtain ⟨t1, t2, t3, t4, t5⟩ := hI.tm _ q
  rcases t5 with ⟨w, hw, hwm⟩ | ⟨d', hd', hdi⟩
  · exfalso
    simp only at hwm
    obtain ⟨tw, w1, w2, w3, w4⟩ := hI.ws w hw
    have htw := nd_eq hI.nd w1 q (by show w.m.id = m.id; rw [hwm])
    injection htw with htw
    have hwt : w.t ≤ d.t := by
      rcases hf : w.f with _ | _
      · rw [w3 hf, htw]; exact k4
      · have := fl_last hH hb (w4 hf)
        rw [hwm, a3] at this
        injection this with this
        omega
    have hlast := last_all.1 (hI.m.2.2.1.1 w hw).2.2.2 z hz
    have hwi : w.m.id = d.i := by rw [hwm, a2]
    simp only [less, decide_eq_false_iff_not, decide_eq_true_eq] at hlast hl
    unfold TM.lt stp at *
    simp only at hlast
    omega
  · obtain ⟨j, hj⟩ := List.getElem?_of_mem hd'
    have he : d'.i = d.i := by rw [hdi]; exact a2
    have := same_stamp hL hH h hb (List.mem_of_getElem? hd) hd' he.symm
    rw [this]
    exact hd'
end
-- one of two orders goes on as the other
def com (a b : List Sp) : List Sp := a.filter fun x => b.any fun y => y.i == x.i
def agreeF (a b : List Sp) : Bool := decide ((com a b).take (min (com a b).length (com b a).length) = (com b a).take (min (com a b).length (com b a).length))
theorem up_pair {l : List Sp} (h : Up l) : l.Pairwise fun a b => less a b = true := by
  rw [List.pairwise_iff_getElem]
  intro i j hi hj hij
  exact h.less (List.getElem?_eq_getElem hi) (List.getElem?_eq_getElem hj) hij
theorem pair_eq : ∀ {l r : List Sp}, (l.Pairwise fun a b => less a b = true) → (r.Pairwise fun a b => less a b = true) → (∀ x, x ∈ l ↔ x ∈ r) → l = r
  | [], r, _, _, h => by
    rcases r with _ | ⟨b, r⟩
    · rfl
    · exact absurd ((h b).2 (List.mem_cons_self ..)) (by simp)
  | a :: l, r, h1, h2, h => by
    rcases r with _ | ⟨b, r⟩
    · exact absurd ((h a).1 (List.mem_cons_self ..)) (by simp)
    rw [List.pairwise_cons] at h1 h2
    have hab : a = b := by
      rcases List.mem_cons.1 ((h a).1 (List.mem_cons_self ..)) with k | k
      · exact k
      rcases List.mem_cons.1 ((h b).2 (List.mem_cons_self ..)) with k2 | k2
      · exact k2.symm
      have x1 := h2.1 a k
      have x2 := h1.1 b k2
      rw [less_asymm x1] at x2
      cases x2
    subst hab
    have hna : ∀ {s : List Sp}, (∀ x ∈ s, less a x = true) → a ∉ s := fun hs hm => by
      have := hs a hm
      rw [TM.less_irrefl] at this
      cases this
    congr 1
    refine pair_eq h1.2 h2.2 fun x => ?_
    constructor
    · intro hx
      rcases List.mem_cons.1 ((h x).1 (List.mem_cons_of_mem _ hx)) with rfl | k
      · exact absurd hx (hna h1.1)
      · exact k
    · intro hx
      rcases List.mem_cons.1 ((h x).2 (List.mem_cons_of_mem _ hx)) with rfl | k
      · exact absurd hx (hna h2.1)
      · exact k
theorem agree_of {a b : List Sp} (ha : Up a) (hb : Up b) (h : ∀ d ∈ a, ∀ d' ∈ b, d.i = d'.i → d = d') : agreeF a b = true := by
  have he : com a b = com b a := by
    refine pair_eq ((up_pair ha).sublist List.filter_sublist) ((up_pair hb).sublist List.filter_sublist) fun x => ?_
    unfold com
    simp only [List.mem_filter, List.any_eq_true, beq_iff_eq]
    constructor
    · rintro ⟨h1, y, h2, h3⟩
      obtain rfl := h x h1 y h2 h3.symm
      exact ⟨h2, x, h1, rfl⟩
    · rintro ⟨h1, y, h2, h3⟩
      obtain rfl := h y h2 x h1 h3
      exact ⟨h2, y, h1, rfl⟩
  unfold agreeF
  rw [he]
  simp
end Go.Proofs.YteebeiaokfenmaaGreat.OM

namespace Go.Proofs.YteebeiaokfenmaaGreat.OM
open CM (Mg Cm)
open TM (Sp less ok Up rises)
open KM
set_option linter.unusedVariables false
set_option linter.unusedSimpArgs false

/-- what one begins the other -/
structure Bg (x y : Sk × List Mg × List (Int × Mg)) : Prop where
  ds : ∃ D, y.1.ds = x.1.ds ++ D
  out : ∃ O, y.2.1 = x.2.1 ++ O
  tm : ∃ T, y.2.2 = x.2.2 ++ T
  c : x.1.c ≤ y.1.c
theorem Bg.refl (x : Sk × List Mg × List (Int × Mg)) : Bg x x := ⟨⟨[], by simp⟩, ⟨[], by simp⟩, ⟨[], by simp⟩, Int.le_refl _⟩
theorem Bg.trans {x y z : Sk × List Mg × List (Int × Mg)} (h : Bg x y) (k : Bg y z) : Bg x z := by
  obtain ⟨⟨D, d⟩, ⟨O, o⟩, ⟨T, t⟩, c⟩ := h
  obtain ⟨⟨D', d'⟩, ⟨O', o'⟩, ⟨T', t'⟩, c'⟩ := k
  exact ⟨⟨D ++ D', by rw [d', d]; simp⟩, ⟨O ++ O', by rw [o', o]; simp⟩, ⟨T ++ T', by rw [t', t]; simp⟩, Int.le_trans c c'⟩
section
variable {g : Int} {l a b : List Cm} {c : Cm}
theorem bg_next (hg : 0 ≤ g ∧ g < 4) (hc : CM.may c) (h : Inv g l) : Bg (play g l) (play g (l ++ [c])) := by
  have hm := one_may (g := g) (c := c) h.m hg hc
  rw [play_snoc]
  refine ⟨?_, ⟨_, rfl⟩, ⟨_, rfl⟩, hm.2⟩
  show ∃ D, (one (play g l).1 g c).1.ds = _
  cases does (g := g) (c := c) h.m hg hc with
  | no ho => rw [ho]; exact ⟨[], by simp⟩
  | asg _ _ ho => rw [ho]; exact ⟨[], by simp⟩
  | fin _ w _ _ _ rest gone ho => rw [ho]; exact ⟨_, rfl⟩
theorem bg_rev (hg : 0 ≤ g ∧ g < 4) : ∀ r : List Cm, (∀ c ∈ a ++ r.reverse, CM.may c) → Bg (play g a) (play g (a ++ r.reverse))
  | [], _ => by simpa using Bg.refl _
  | c :: r, h => by
    have e : a ++ (c :: r).reverse = (a ++ r.reverse) ++ [c] := by simp
    rw [e] at h ⊢
    have h1 : ∀ d ∈ a ++ r.reverse, CM.may d := fun d hd => h d (List.mem_append_left _ hd)
    exact (bg_rev hg r h1).trans (bg_next hg (h c (by simp)) (inv hg h1))
theorem begins (hg : 0 ≤ g ∧ g < 4) (h : ∀ c ∈ a ++ b, CM.may c) : Bg (play g a) (play g (a ++ b)) := by
  have := bg_rev (a := a) hg b.reverse (by rwa [List.reverse_reverse])
  rwa [List.reverse_reverse] at this
/-- no time, but by an assign -/
theorem times_fin (hg : 0 ≤ g ∧ g < 4) (hc : CM.may c) (hk : c.k = 2) (h : Inv g l) : (play g (l ++ [c])).2.2 = (play g l).2.2 := by
  have e3 : (play g (l ++ [c])).2.2 = (play g l).2.2 ++ tm1 (play g l).1 (one (play g l).1 g c).1 c := by rw [play_snoc]; rfl
  rw [e3]
  have : tm1 (play g l).1 (one (play g l).1 g c).1 c = [] := by
    cases does (g := g) (c := c) h.m hg hc with
    | no ho => rw [ho]; unfold tm1; rw [if_neg (Nat.lt_irrefl _)]
    | asg ha _ ho => exact absurd ha.1 (by omega)
    | fin _ w _ _ _ rest gone ho _ _ _ hl => rw [ho]; unfold tm1; rw [if_neg (by show ¬ _ < rest.length; omega)]
  rw [this, List.append_nil]
end
theorem mg_groups {m : Mg} (h : CM.mgOk m) : m.gs ≠ [] ∧ ∀ g ∈ m.gs, 0 ≤ g ∧ g < 4 := ⟨h.2.1, fun g hg => by have := CM.riseG_mem h.2.2.1 g hg; omega⟩
section
variable {L : List (List Cm)} {x : Mg} {t : Int}
theorem lg_get {g : Int} (h0 : 0 ≤ g) (h1 : g < L.length) : ∃ l, L[g.toNat]? = some l ∧ lg L g = l := by
  have hl : g.toNat < L.length := by omega
  exact ⟨_, List.getElem?_eq_getElem hl, by unfold lg; rw [if_pos h0, List.getD_eq_getElem?_getD, List.getElem?_eq_getElem hl]; rfl⟩
theorem tg_inv (hL : Logs L) {g : Int} (h0 : 0 ≤ g) (h1 : g < L.length) : Inv g (lg L g) := by
  obtain ⟨l, hl, e⟩ := lg_get h0 h1
  rw [e]
  have := hL.inv hl
  rwa [Int.toNat_of_nonneg h0] at this
/-- no group's time is greater -/
theorem final_most (hL : Logs L) (hx : CM.mgOk x) (h : lastF L x = (t, true)) {g : Int} (hg : g ∈ x.gs) {p : Int × Mg} (hp : p ∈ tg L g) (hi : p.2.id = x.id) : p.1 ≤ t := by
  obtain ⟨k1, _, _⟩ := lastG_true h
  obtain ⟨k2, k3, k4⟩ := k1 g hg
  have hI := tg_inv hL ((mg_groups hx).2 g hg).1 k2
  rcases tOf_cases (tg L g) x with ⟨q, _⟩ | q
  · exact absurd q k3
  have := nd_eq hI.nd hp q hi
  rw [this]
  exact k4
/-- and one group's is it -/
theorem final_is (hL : Logs L) (hx : CM.mgOk x) (h : lastF L x = (t, true)) : ∃ g ∈ x.gs, (t, x) ∈ tg L g := by
  obtain ⟨k1, _, k3⟩ := lastG_true h
  have key : ∀ g ∈ x.gs, (tOf (tg L g) x, x) ∈ tg L g := fun g hg => by
    rcases tOf_cases (tg L g) x with ⟨q, _⟩ | q
    · exact absurd q (k1 g hg).2.1
    · exact q
  rcases k3 with k3 | ⟨g, hg, e⟩
  · obtain ⟨g, r, e⟩ := List.exists_cons_of_ne_nil (mg_groups hx).1
    have hg : g ∈ x.gs := by rw [e]; exact List.mem_cons_self ..
    refine ⟨g, hg, ?_⟩
    have h0 := (k1 g hg).2.2
    have h1 := key g hg
    have h2 := ((tg_inv hL ((mg_groups hx).2 g hg).1 (k1 g hg).1).tm _ h1).1
    simp only at h2
    omega
  · exact ⟨g, hg, by rw [← e]; exact key g hg⟩
theorem lastG_congr {L' : List (List Cm)} (hl : L'.length = L.length) (ht : ∀ g, tg L' g = tg L g) : ∀ (gs : List Int) (most : Int), lastG L' x gs most = lastG L x gs most
  | [], _ => rfl
  | g :: r, most => by unfold lastG; rw [hl, ht, lastG_congr hl ht r]
/-- a final of the final time, behind a log, leaves the logs honest -/
theorem final_honest (hL : Logs L) (hH : honest L) (hx : CM.mgOk x) (h : lastF L x = (t, true)) {g : Nat} {l : List Cm} (hg : L[g]? = some l) {c : Cm} (hc : CM.may c) (hk : c.k = 2) (hci : c.id = x.id) (hct : c.tm = t) : honest (L.set g (l ++ [c])) := by
  have hgl := (List.getElem?_eq_some_iff.1 hg).1
  have hg4 := hL.1
  have hI := hL.inv hg
  have htf := times_fin (by omega) hc hk hI
  have hlen : (L.set g (l ++ [c])).length = L.length := List.length_set
  have ht : ∀ q, tg (L.set g (l ++ [c])) q = tg L q := fun q => by
    unfold tg lg
    by_cases hq : 0 ≤ q
    rotate_left
    · rw [if_neg hq, if_neg hq]
    rw [if_pos hq, if_pos hq, List.getD_eq_getElem?_getD, List.getD_eq_getElem?_getD, List.getElem?_set]
    by_cases e : g = q.toNat
    · rw [if_pos e, if_pos hgl, ← e, hg]
      show (play q (l ++ [c])).2.2 = (play q l).2.2
      obtain rfl : q = (g : Int) := by omega
      exact htf
    · rw [if_neg e]
  have hla : ∀ m, lastF (L.set g (l ++ [c])) m = lastF L m := fun m => by unfold lastF; exact lastG_congr hlen ht _ _
  refine ⟨fun a b ha hb p hp q hq => ?_, fun q l' hq k d hd => ?_⟩
  · rw [ht] at hp hq
    exact hH.1 a b (by omega) (by omega) p hp q hq
  · unfold fair1
    rw [List.getElem?_set] at hq
    by_cases e : g = q
    · subst e
      rw [if_pos rfl, if_pos hgl] at hq
      injection hq with hq
      subst hq
      have hkl := (List.getElem?_eq_some_iff.1 hd).1
      rw [List.length_append, List.length_singleton] at hkl
      by_cases hk2 : k < l.length
      · rw [List.getElem?_append_left hk2] at hd
        rw [take_snoc (by omega), take_snoc (by omega)]
        intro h1 y h2 h3 h4 h5
        rw [hla]
        exact hH.2 g l hg k d hd h1 y h2 h3 h4 h5
      · obtain rfl : k = l.length := by omega
        rw [List.getElem?_append_right (Nat.le_refl _)] at hd
        simp at hd
        subst hd
        rw [take_snoc (Nat.le_refl _), List.take_length]
        intro h1 y h2 h3 h4 _
        obtain ⟨y', hy', hyi⟩ := wat_some (List.getElem?_eq_some_iff.1 h2).1
        rw [h2] at hy'
        injection hy' with hy'
        subst hy'
        obtain ⟨ty, hty, _⟩ := hI.ws y (List.mem_of_getElem? h2)
        obtain ⟨g0, hg0, hx0⟩ := final_is hL hx h
        obtain ⟨k1, _, _⟩ := lastG_true h
        have hb0 := ((mg_groups hx).2 g0 hg0).1
        have hb1 := (k1 g0 hg0).1
        have hy := hH.1 g g0.toNat hgl (by omega) (ty, y.m) (by unfold tg; rw [lg_at hg]; exact hty) (t, x) (by rw [Int.toNat_of_nonneg hb0]; exact hx0) (by show y.m.id = x.id; rw [hyi, hci])
        simp only at hy
        rw [hla, hy, h, hct]
    · rw [if_neg e] at hq
      intro h1 y h2 h3 h4 h5
      rw [hla]
      exact hH.2 q l' hq k d hd h1 y h2 h3 h4 h5
end
end Go.Proofs.YteebeiaokfenmaaGreat.OM

namespace Go.Proofs.YteebeiaokfenmaaGreat.OM
open CM (Mg Cm)
open TM (Sp less ok Up rises)
open KM
set_option linter.unusedVariables false
set_option linter.unusedSimpArgs false

theorem tm1_is {s : Sk} {g : Int} {c : Cm} (hm : may s) (hg : 0 ≤ g ∧ g < 4) (hc : CM.may c) : tm1 s (one s g c).1 c = if c.k = 1 ∧ (one s g c).1 ≠ s then [((one s g c).1.c, c.m)] else [] := by
  cases does (g := g) (c := c) hm hg hc with
  | no h => rw [h]; unfold tm1; rw [if_neg (Nat.lt_irrefl _), if_neg (fun k => k.2 rfl)]
  | asg ha hf h =>
    have hl := ins_len (w := ⟨c.m, s.c + 1, false⟩) (wat_no.1 ha.2.1)
    rw [h]
    unfold tm1
    rw [if_pos (by show _ < (ins s.ws ⟨c.m, s.c + 1, false⟩).length; omega), if_pos ⟨ha.1, fun e => by have := congrArg (fun s => s.ws.length) e; simp only at this; omega⟩]
  | fin hk w hw hf ht rest gone h _ _ _ hl => rw [h]; unfold tm1; rw [if_neg (by show ¬ _ < rest.length; omega), if_neg (fun k => by have := k.1; omega)]
/-- finals that do something -/
def fin1 (s s' : Sk) (c : Cm) : List Cm := if c.k = 2 ∧ s' ≠ s then [c] else []
def nf (g : Int) (r : Sk × List Cm) (c : Cm) : Sk × List Cm := ((one r.1 g c).1, r.2 ++ fin1 r.1 (one r.1 g c).1 c)
def playf (g : Int) (l : List Cm) : Sk × List Cm := l.foldl (nf g) (KM.zero, [])
def fins (g : Int) (l : List Cm) : List Cm := (playf g l).2
theorem playf_snoc (g : Int) (l : List Cm) (c : Cm) : playf g (l ++ [c]) = nf g (playf g l) c := by unfold playf; rw [List.foldl_append]; rfl
theorem playf_rev (g : Int) : ∀ r : List Cm, (playf g r.reverse).1 = (play g r.reverse).1
  | [] => rfl
  | c :: r => by rw [List.reverse_cons, playf_snoc, play_snoc]; unfold nf nx; simp only; rw [playf_rev g r]
theorem playf_fst (g : Int) (l : List Cm) : (playf g l).1 = (play g l).1 := by have := playf_rev g l.reverse; rwa [List.reverse_reverse] at this
theorem fins_nil (g : Int) : fins g [] = [] := rfl
theorem fins_snoc (g : Int) (l : List Cm) (c : Cm) : fins g (l ++ [c]) = fins g l ++ fin1 (play g l).1 (one (play g l).1 g c).1 c := by unfold fins; rw [playf_snoc, ← playf_fst]; rfl
theorem fins_rev (g : Int) (c : Cm) : ∀ r : List Cm, c ∈ fins g r.reverse ↔ ∃ k, r.reverse[k]? = some c ∧ c.k = 2 ∧ (play g (r.reverse.take (k + 1))).1 ≠ (play g (r.reverse.take k)).1
  | [] => by
    constructor
    · intro h; cases h
    · rintro ⟨k, h, _⟩; cases h
  | d :: r => by
    rw [List.reverse_cons, fins_snoc, List.mem_append, fins_rev g c r]
    constructor
    · rintro (⟨k, h1, h2, h3⟩ | h)
      · have hk := (List.getElem?_eq_some_iff.1 h1).1
        exact ⟨k, by rw [List.getElem?_append_left hk]; exact h1, h2, by rw [take_snoc (by omega), take_snoc (by omega)]; exact h3⟩
      · unfold fin1 at h
        split at h
        · rename_i hh
          obtain rfl := List.mem_singleton.1 h
          refine ⟨r.reverse.length, by simp, hh.1, ?_⟩
          rw [take_snoc (Nat.le_refl _), take_self, List.take_length, play_snoc]
          exact hh.2
        · cases h
    · rintro ⟨k, h1, h2, h3⟩
      have hk := (List.getElem?_eq_some_iff.1 h1).1
      rw [List.length_append, List.length_singleton] at hk
      by_cases hkl : k < r.reverse.length
      · left
        rw [List.getElem?_append_left hkl] at h1
        rw [take_snoc (by omega), take_snoc (by omega)] at h3
        exact ⟨k, h1, h2, h3⟩
      · right
        obtain rfl : k = r.reverse.length := by omega
        rw [List.getElem?_append_right (Nat.le_refl _)] at h1
        simp at h1
        subst h1
        rw [take_snoc (Nat.le_refl _), take_self, List.take_length, play_snoc] at h3
        unfold fin1
        rw [if_pos ⟨h2, h3⟩]
        exact List.mem_singleton.2 rfl
theorem mem_fins {g : Int} {l : List Cm} {c : Cm} : c ∈ fins g l ↔ ∃ k, l[k]? = some c ∧ c.k = 2 ∧ (play g (l.take (k + 1))).1 ≠ (play g (l.take k)).1 := by have := fins_rev g c l.reverse; rwa [List.reverse_reverse] at this
-- messages found by ids
def fd (T : List (Int × Mg)) (id : Int) : Option (Int × Mg) := T.find? fun p => p.2.id == id
theorem fd_some {T : List (Int × Mg)} {id : Int} {p : Int × Mg} (h : fd T id = some p) : p ∈ T ∧ p.2.id = id := ⟨List.mem_of_find?_eq_some h, by simpa using List.find?_some h⟩
theorem fd_none {T : List (Int × Mg)} {id : Int} (h : fd T id = none) : ∀ p ∈ T, p.2.id ≠ id := fun p hp => by simpa using List.find?_eq_none.1 h p hp
theorem fd_of {T : List (Int × Mg)} (hn : (T.map (fun p => p.2.id)).Nodup) {p : Int × Mg} (hp : p ∈ T) : fd T p.2.id = some p := by
  rcases h : fd T p.2.id with _ | q
  · exact absurd rfl (fd_none h p hp)
  · rw [nd_eq hn (fd_some h).1 hp (fd_some h).2]
/-- the time of a message, by what is found of its id -/
theorem tOf_fd {T : List (Int × Mg)} (hn : (T.map (fun p => p.2.id)).Nodup) {m : Mg} {p : Int × Mg} (h : fd T m.id = some p) : tOf T m = if p.2 = m then p.1 else 0 := by
  obtain ⟨h1, h2⟩ := fd_some h
  by_cases e : p.2 = m
  · rw [if_pos e]
    rcases tOf_cases T m with ⟨_, k⟩ | k
    · exact absurd e (k p h1)
    · have := nd_eq hn k h1 h2.symm
      rw [← this]
  · rw [if_neg e]
    rcases tOf_cases T m with ⟨k, _⟩ | k
    · exact k
    · have := nd_eq hn k h1 h2.symm
      rw [← this] at e
      exact absurd rfl e
theorem tOf_fd0 {T : List (Int × Mg)} {m : Mg} (h : fd T m.id = none) : tOf T m = 0 := by
  rcases tOf_cases T m with ⟨k, _⟩ | k
  · exact k
  · exact absurd rfl (fd_none h _ k)
/-- what is found of an id, or nothing -/
def fdm (T : List (Int × Mg)) (id : Int) : Mg := ((fd T id).getD (0, CM.mz)).2
-- honest logs, as they are asked for
def oneB (L : List (List Cm)) : Prop := ∀ g h : Nat, h < g → g < L.length → ∀ p ∈ tg L g, ∀ q, fd (tg L h) p.2.id = some q → q.2 = p.2
def finB (L : List (List Cm)) : Prop := ∀ g : Nat, g < L.length → ∀ c ∈ fins g (lg L g), lastF L (fdm (tg L g) c.id) = (c.tm, true)
section
variable {L : List (List Cm)}
theorem Logs.inv2 (hL : Logs L) {g : Nat} (h : g < L.length) : Inv g (lg L g) := by
  rw [lg_at (List.getElem?_eq_getElem h)]
  exact hL.inv (List.getElem?_eq_getElem h)
theorem one_iff (hL : Logs L) : oneB L ↔ one1 L := by
  constructor
  · intro H g h hg hh p hp q hq e
    rcases Nat.lt_trichotomy g h with k | rfl | k
    · exact H h g k hh q hq p (by rw [← e]; exact fd_of (hL.inv2 hg).nd hp)
    · rw [nd_eq (hL.inv2 hg).nd hp hq e]
    · exact (H g h k hg p hp q (by rw [e]; exact fd_of (hL.inv2 hh).nd hq)).symm
  · intro H g h hk hg p hp q hq
    obtain ⟨h1, h2⟩ := fd_some hq
    exact (H g h hg (by omega) p hp q h1 h2.symm).symm
/-- a final that does something has what waited, and its time -/
theorem fin_at (hL : Logs L) {g : Nat} {l : List Cm} (hg : L[g]? = some l) {k : Nat} {c : Cm} (h1 : l[k]? = some c) (h2 : c.k = 2) (h3 : (play g (l.take (k + 1))).1 ≠ (play g (l.take k)).1) :
    ∃ y, (play g (l.take k)).1.ws[wat (play g (l.take k)).1.ws c.id]? = some y ∧ y.f = false ∧ y.t ≤ c.tm ∧ fdm (tg L g) c.id = y.m := by
  have hgl := (List.getElem?_eq_some_iff.1 hg).1
  have hg4 := hL.1
  have hkl := (List.getElem?_eq_some_iff.1 h1).1
  have hall := hL.2 l (List.mem_of_getElem? hg)
  have hk : l.take (k + 1) = l.take k ++ [c] := by rw [List.take_add_one, h1]; rfl
  have hI : Inv g (l.take k) := inv (by omega) fun d hd => hall d (List.mem_of_mem_take hd)
  rw [hk, play_snoc] at h3
  cases does (g := (g : Int)) (c := c) hI.m (by omega) (hall c (List.mem_of_getElem? h1)) with
  | no h => exact absurd (congrArg Prod.fst h) h3
  | asg ha _ _ => exact absurd ha.1 (by omega)
  | fin _ w hw hf ht =>
    refine ⟨w, hw, hf, ht, ?_⟩
    obtain ⟨y', hy', hyi⟩ := wat_some (List.getElem?_eq_some_iff.1 hw).1
    rw [hw] at hy'
    injection hy' with hy'
    subst hy'
    obtain ⟨t, ht1, _⟩ := hI.ws w (List.mem_of_getElem? hw)
    obtain ⟨T, hT⟩ := (begins (g := (g : Int)) (a := l.take k) (b := l.drop k) (by omega) (by rw [List.take_append_drop]; exact hall)).tm
    rw [List.take_append_drop] at hT
    have hm : (t, w.m) ∈ tg L g := by unfold tg; rw [lg_at hg, hT]; exact List.mem_append_left _ ht1
    have := fd_of (T := tg L g) (by have := (hL.inv2 hgl).nd; exact this) hm
    simp only at this
    rw [hyi] at this
    unfold fdm
    rw [this]
    rfl
theorem honest_iff (hL : Logs L) : honest L ↔ oneB L ∧ finB L := by
  constructor
  · rintro ⟨H1, H2⟩
    refine ⟨(one_iff hL).2 H1, fun g hg c hc => ?_⟩
    have hl := List.getElem?_eq_getElem hg
    rw [lg_at hl] at hc
    obtain ⟨k, h1, h2, h3⟩ := mem_fins.1 hc
    obtain ⟨y, y1, y2, y3, y4⟩ := fin_at hL hl h1 h2 h3
    rw [y4]
    exact H2 g _ hl k c h1 h2 y y1 y2 y3 h3
  · rintro ⟨H1, H2⟩
    refine ⟨(one_iff hL).1 H1, fun g l hg k c h1 h2 y y1 y2 y3 h3 => ?_⟩
    have hgl := (List.getElem?_eq_some_iff.1 hg).1
    obtain ⟨z, z1, _, _, z4⟩ := fin_at hL hg h1 h2 h3
    rw [y1] at z1
    injection z1 with z1
    subst z1
    have := H2 g hgl c (by rw [lg_at hg]; exact mem_fins.2 ⟨k, h1, h2, h3⟩)
    rwa [z4] at this
end
end Go.Proofs.YteebeiaokfenmaaGreat.OM
