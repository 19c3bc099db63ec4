/- Contracts of functions, L06: each as its theorem says. -/
import Derived.Test.YteebeiaokfenmaaGreatL05
import Derived.Deep.DeepCutAuto
set_option linter.unusedVariables false
set_option linter.unusedSimpArgs false
set_option maxRecDepth 100000
set_option maxHeartbeats 16000000
namespace Go.Proofs.YteebeiaokfenmaaGreat
namespace OM
open CM (Mg Cm)
open TM (Sp less ok Up rises)
open KM
def one (s : Sk) (g : Int) (c : Cm) : Sk × List Mg := if (putF s g c).2.2 = true then ((putF s g c).1, (putF s g c).2.1) else (s, [])
def tm1 (s s' : Sk) (c : Cm) : List (Int × Mg) := if s.ws.length < s'.ws.length then [(s'.c, c.m)] else []
def nx (g : Int) (r : Sk × List Mg × List (Int × Mg)) (c : Cm) : Sk × List Mg × List (Int × Mg) := ((one r.1 g c).1, r.2.1 ++ (one r.1 g c).2, r.2.2 ++ tm1 r.1 (one r.1 g c).1 c)
def play (g : Int) (l : List Cm) : Sk × List Mg × List (Int × Mg) := l.foldl (nx g) (KM.zero, [], [])
theorem play_snoc (g : Int) (l : List Cm) (c : Cm) : play g (l ++ [c]) = nx g (play g l) c := by unfold play; rw [List.foldl_append]; rfl
theorem drain_no : ∀ (n : Nat) (ws : List Wt) (ds : List Sp) (out : List Mg), HeadOk ws → KM.drain n ws ds out = (ws, ds, out)
 | 0, _, _, _, _ => rfl
 | n + 1, ws, ds, out, h => by
  rw [headOk_iff] at h
  unfold KM.drain
  rcases hk : ws[lst ws]? with _ | w
  ·rfl
  ·simp [h w hk]
theorem drain_mem : ∀ (n : Nat) (ws : List Wt) (ds : List Sp) (out : List Mg), (∀ d ∈ ds, d ∈ (KM.drain n ws ds out).2.1) ∧ ∀ w ∈ ws, w ∈ (KM.drain n ws ds out).1 ∨ stp w ∈ (KM.drain n ws ds out).2.1
 | 0, ws, ds, out => ⟨fun _ h => h, fun _ h => .inl h⟩
 | n + 1, ws, ds, out => by
  unfold KM.drain
  rcases hk : ws[lst ws]? with _ | x
  ·exact ⟨fun _ h => h, fun _ h => .inl h⟩
  ·simp only
   split
   ·obtain ⟨h1, h2⟩ := drain_mem n (ws.eraseIdx (lst ws)) (ds ++ [stp x]) (out ++ [x.m])
    refine ⟨fun d hd => h1 d (List.mem_append_left _ hd), fun w hw => ?_⟩
    by_cases hwx : w = x
    ·subst hwx
     exact .inr (h1 _ (by simp))
    ·obtain ⟨j, hj⟩ := List.getElem?_of_mem hw
     refine h2 w (List.mem_eraseIdx_iff_getElem?.2 ⟨j, fun e => ?_, hj⟩)
     rw [e, hk] at hj
     injection hj with hj
     exact hwx hj.symm
   ·exact ⟨fun _ h => h, fun _ h => .inl h⟩
theorem stp_eq {ws : List Wt} (h : ws.Pairwise fun a b => a.m.id < b.m.id) {a b : Wt} (ha : a ∈ ws) (hb : b ∈ ws) (he : a.m.id = b.m.id) : a = b := by
 obtain ⟨i, hi⟩ := List.getElem?_of_mem ha
 obtain ⟨j, hj⟩ := List.getElem?_of_mem hb
 by_cases hij : i = j
 ·subst hij
  rw [hi] at hj
  injection hj
 ·exact absurd he (ids_ne h hi hj hij)
theorem head_ins {s : Sk} {m : Mg} (h : may s) (hw : ∀ y ∈ s.ws, y.m.id ≠ m.id) : HeadOk (ins s.ws ⟨m, s.c + 1, false⟩) := by
 rw [headOk_iff]
 intro w hk
 have hmem := (mem_ins (w := ⟨m, s.c + 1, false⟩) hw).1 (List.mem_of_getElem? hk)
 rcases hmem with rfl | hmem
 ·rfl
 rcases hf : w.f with _ | _
 ·rfl
 exfalso
 have hne : s.ws ≠ [] := by rintro e; rw [e] at hmem; cases hmem
 obtain ⟨v, hv, hv1, _⟩ := lst_least s.ws hne
 have hvf := headOk_iff.1 h.2.2.2 v hv
 have hvm := List.mem_of_getElem? hv
 have hine : ins s.ws ⟨m, s.c + 1, false⟩ ≠ [] := by rintro e; rw [e] at hk; cases hk
 obtain ⟨w', hw', hw1, _⟩ := lst_least _ hine
 rw [hk] at hw'
 injection hw' with hw'
 subst hw'
 obtain ⟨i, hi⟩ := List.getElem?_of_mem hmem
 have l1 := hv1 i w hi
 obtain ⟨j, hj⟩ := List.getElem?_of_mem ((mem_ins (w := ⟨m, s.c + 1, false⟩) hw).2 (.inr hvm))
 have l2 := hw1 j v hj
 have he : w.m.id = v.m.id := by
  simp only [less, decide_eq_false_iff_not] at l1 l2
  unfold TM.lt stp at l1 l2
  simp only at l1 l2
  omega
 have := stp_eq h.2.2.1.2 hmem hvm he
 subst this
 rw [hf] at hvf
 cases hvf
inductive Does (s : Sk) (g : Int) (c : Cm) : Prop where
 | no (h : one s g c = (s, []))
 | asg (h1 : asg s g c) (h2 : ¬ full s) (h : one s g c = (⟨s.c + 1, ins s.ws ⟨c.m, s.c + 1, false⟩, s.ds⟩, []))
 | fin (hk : c.k = 2) (w : Wt) (hw : s.ws[wat s.ws c.id]? = some w) (hf : w.f = false) (ht : w.t ≤ c.tm) (rest gone : List Wt) (h : one s g c = (⟨max s.c c.tm, rest, s.ds ++ gone.map stp⟩, gone.map Wt.m))
   (hg : ∀ x ∈ gone, x.f = true ∧ x ∈ s.ws.set (wat s.ws c.id) ⟨w.m, c.tm, true⟩) (hr : ∀ x ∈ rest, x ∈ s.ws.set (wat s.ws c.id) ⟨w.m, c.tm, true⟩)
   (ha : ∀ x ∈ s.ws.set (wat s.ws c.id) ⟨w.m, c.tm, true⟩, x ∈ rest ∨ stp x ∈ s.ds ++ gone.map stp) (hl : rest.length ≤ s.ws.length)
theorem one_may {s : Sk} {g : Int} {c : Cm} (hm : may s) (hg : 0 ≤ g ∧ g < 4) (hc : CM.may c) : may (one s g c).1 ∧ s.c ≤ (one s g c).1.c := by
 unfold one
 split
 ·rename_i hp
  have e : applyF s g c = ((putF s g c).1, (putF s g c).2.1, 0) := by rw [applyF, if_neg (fun k => k hm), if_neg (fun k => k hg), if_neg (fun k => k hc), if_pos hp]
  have h := apply_ok (s := s) (g := g) (c := c) (by rw [e])
  rw [e] at h
  exact ⟨h.2.1, h.2.2.1⟩
 ·exact ⟨hm, Int.le_refl _⟩
theorem does {s : Sk} {g : Int} {c : Cm} (hm : may s) (hg : 0 ≤ g ∧ g < 4) (hc : CM.may c) : Does s g c := by
 by_cases hf : asg s g c ∧ full s
 ·refine .no ?_
  unfold one
  rw [putF, if_pos hf]
  rfl
 by_cases ha : asg s g c
 ·have hfn : ¬ full s := fun k => hf ⟨ha, k⟩
  have hw := wat_no.1 ha.2.1
  have hpre : pre s g c = ⟨s.c + 1, ins s.ws ⟨c.m, s.c + 1, false⟩, s.ds⟩ := by unfold pre; rw [if_pos ha]
  have hk1 := ha.1
  have hfnl : fnl (pre s g c) c = pre s g c := by
   unfold fnl
   rcases (pre s g c).ws[wat (pre s g c).ws c.id]? with _ | w
   ·rfl
   ·simp only
    rw [if_neg (fun k => by have := k.1; omega)]
  have hd := drain_no (ins s.ws ⟨c.m, s.c + 1, false⟩).length (ins s.ws ⟨c.m, s.c + 1, false⟩) s.ds [] (head_ins hm hw)
  refine .asg ha hfn ?_
  unfold one
  rw [putF, if_neg hf, hfnl, hpre]
  simp only [hd]
  rw [if_pos (by simpa using hm.1.2.2.2)]
 have hpre : pre s g c = s := by unfold pre; rw [if_neg ha]
 have hno : fnl s c = s → Does s g c := fun hfs => by
  refine .no ?_
  have hd := drain_no s.ws.length s.ws s.ds [] hm.2.2.2
  unfold one
  rw [putF, if_neg hf, hpre, hfs]
  simp only [hd]
  rw [if_pos (by simpa using hm.1.2.2.2)]
 rcases hk : s.ws[wat s.ws c.id]? with _ | w
 ·exact hno (by unfold fnl; rw [hk])
 by_cases hcond : c.k = 2 ∧ w.f = false ∧ w.t ≤ c.tm
 rotate_left
 ·exact hno (by unfold fnl; rw [hk]; simp only; rw [if_neg hcond])
 have hfnl : fnl s c = ⟨max s.c c.tm, s.ws.set (wat s.ws c.id) ⟨w.m, c.tm, true⟩, s.ds⟩ := by unfold fnl; rw [hk]; simp only; rw [if_pos hcond]
 have hh := half_fnl (s := s) (c := c) (may_half hm) hc
 rw [hfnl] at hh
 obtain ⟨h0, h1, h2, h3⟩ := hh
 obtain ⟨gone, g1, g2, g3, g4, g5, g6, g7, g8, g9⟩ := drain_is (s.ws.set (wat s.ws c.id) ⟨w.m, c.tm, true⟩).length (max s.c c.tm) (s.ws.set (wat s.ws c.id) ⟨w.m, c.tm, true⟩) s.ds [] h1 h2 h3 n!
 have hall := (drain_mem (s.ws.set (wat s.ws c.id) ⟨w.m, c.tm, true⟩).length (s.ws.set (wat s.ws c.id) ⟨w.m, c.tm, true⟩) s.ds []).2
 by_cases hp : (putF s g c).2.2 = true
 rotate_left
 ·exact .no (by unfold one; rw [if_neg hp])
 refine .fin hcond.1 w hk hcond.2.1 hcond.2.2 (KM.drain (s.ws.set (wat s.ws c.id) ⟨w.m, c.tm, true⟩).length (s.ws.set (wat s.ws c.id) ⟨w.m, c.tm, true⟩) s.ds []).1 gone ?_ (fun x hx => ⟨(g1 x hx).2, (g1 x hx).1⟩) g8 (fun x hx => by rw [← g2]; exact hall x hx) (by have e : (s.ws.set (wat s.ws c.id) ⟨w.m, c.tm, true⟩).length = s.ws.length := List.length_set; omega)
 unfold one
 rw [if_pos hp, putF, if_neg hf, hpre, hfnl]
 simp only [g2, g3]
 simp
def Fl (g : Int) (l : List Cm) (w : Wt) : Prop := ∃ k c, l[k]? = some c ∧ c.k = 2 ∧ c.id = w.m.id ∧ c.tm = w.t ∧
 ∃ y, (play g (l.take k)).1.ws[wat (play g (l.take k)).1.ws c.id]? = some y ∧ y.m = w.m ∧ y.f = false ∧ y.t ≤ c.tm ∧ (play g (l.take (k + 1))).1 ≠ (play g (l.take k)).1
def Hv (g : Int) (l : List Cm) (w : Wt) : Prop := ∃ t, (t, w.m) ∈ (play g l).2.2 ∧ t ≤ w.t ∧ (w.f = false → w.t = t) ∧ (w.f = true → Fl g l w)
structure Inv (g : Int) (l : List Cm) : Prop where
 m : may (play g l).1
 ds : ∃ D : List Wt, (play g l).1.ds = D.map stp ∧ (play g l).2.1 = D.map Wt.m ∧ ∀ w ∈ D, w.f = true ∧ Hv g l w
 ws : ∀ w ∈ (play g l).1.ws, Hv g l w
 tm : ∀ p ∈ (play g l).2.2, 1 ≤ p.1 ∧ p.1 ≤ (play g l).1.c ∧ g ∈ p.2.gs ∧ CM.mgOk p.2 ∧ ((∃ w ∈ (play g l).1.ws, w.m = p.2) ∨ ∃ d ∈ (play g l).1.ds, d.i = p.2.id)
 nd : ((play g l).2.2.map (fun p => p.2.id)).Nodup
section
variable {g : Int} {l : List Cm} {c : Cm} {w : Wt}
theorem take_snoc {k : Nat} (h : k ≤ l.length) : (l ++ [c]).take k = l.take k := List.take_append_of_le_length h
theorem Fl.snoc (h : Fl g l w) : Fl g (l ++ [c]) w := by
 obtain ⟨k, d, h1, h2, h3, h4, y, h5⟩ := h
 have hk := (List.getElem?_eq_some_iff.1 h1).1
 refine ⟨k, d, by rw [List.getElem?_append_left hk]; exact h1, h2, h3, h4, y, ?_⟩
 rw [take_snoc (by omega), take_snoc (by omega)]
 exact h5
theorem times_snoc : (play g (l ++ [c])).2.2 = (play g l).2.2 ++ tm1 (play g l).1 (play g (l ++ [c])).1 c := by rw [play_snoc]; rfl
theorem Hv.snoc (h : Hv g l w) : Hv g (l ++ [c]) w := by
 obtain ⟨t, h1, h2, h3, h4⟩ := h
 exact ⟨t, by rw [times_snoc]; exact List.mem_append_left _ h1, h2, h3, fun f => (h4 f).snoc⟩
theorem take_self (l : List Cm) : (l ++ [c]).take (l.length + 1) = l ++ [c] := by rw [List.take_of_length_le]; simp
theorem inv_next (hg : 0 ≤ g ∧ g < 4) (hc : CM.may c) (h : Inv g l) : Inv g (l ++ [c]) := by
 have hm := one_may (g := g) (c := c) h.m hg hc
 have e1 : (play g (l ++ [c])).1 = (one (play g l).1 g c).1 := by rw [play_snoc]; rfl
 have e2 : (play g (l ++ [c])).2.1 = (play g l).2.1 ++ (one (play g l).1 g c).2 := by rw [play_snoc]; rfl
 have e3 : (play g (l ++ [c])).2.2 = (play g l).2.2 ++ tm1 (play g l).1 (one (play g l).1 g c).1 c := by rw [play_snoc]; rfl
 have hmay : may (play g (l ++ [c])).1 := by rw [e1]; exact hm.1
 obtain ⟨D, d1, d2, d3⟩ := h.ds
 cases does (g := g) (c := c) h.m hg hc with
 | no ho =>
  rw [ho] at e1 e2 e3
  have et : tm1 (play g l).1 (play g l).1 c = [] := by unfold tm1; rw [if_neg (Nat.lt_irrefl _)]
  simp only [et, List.append_nil] at e1 e2 e3
  refine ⟨hmay, ⟨D, by rw [e1, d1], by rw [e2, d2], fun w hw => ⟨(d3 w hw).1, (d3 w hw).2.snoc⟩⟩, fun w hw => ?_, fun p hp => ?_, by rw [e3]; exact h.nd⟩
  ·rw [e1] at hw
   exact (h.ws w hw).snoc
  ·rw [e3] at hp
   rw [e1]
   exact h.tm p hp
 | asg ha hf ho =>
  have hnw := wat_no.1 ha.2.1
  have hok : CM.mgOk c.m := by
   rcases hc with rfl | k | k | k | k | k
   ·exact absurd ha.1 (by decide)
   ·exact k.2.1
   all_goals (have := k.1; have := ha.1; omega)
  rw [ho] at e1 e2 e3
  have et : tm1 (play g l).1 ⟨(play g l).1.c + 1, ins (play g l).1.ws ⟨c.m, (play g l).1.c + 1, false⟩, (play g l).1.ds⟩ c = [((play g l).1.c + 1, c.m)] := by
   unfold tm1
   rw [if_pos (by show _ < (ins (play g l).1.ws ⟨c.m, (play g l).1.c + 1, false⟩).length; rw [ins_len hnw]; omega)]
  simp only [et, List.append_nil] at e1 e2 e3
  refine ⟨hmay, ⟨D, by rw [e1]; exact d1, by rw [e2, d2], fun w hw => ⟨(d3 w hw).1, (d3 w hw).2.snoc⟩⟩, fun w hw => ?_, fun p hp => ?_, ?_⟩
  ·rw [e1] at hw
   rcases (mem_ins (w := ⟨c.m, (play g l).1.c + 1, false⟩) hnw).1 hw with rfl | hw
   ·exact ⟨(play g l).1.c + 1, by rw [e3]; simp, Int.le_refl _, fun _ => rfl, fun k => by cases k⟩
   ·exact (h.ws w hw).snoc
  ·rw [e3] at hp
   rw [e1]
   rcases List.mem_append.1 hp with hp | hp
   ·obtain ⟨t1, t2, t3, t4, t5⟩ := h.tm p hp
    refine ⟨t1, by show p.1 ≤ (play g l).1.c + 1; omega, t3, t4, ?_⟩
    rcases t5 with ⟨w, hw, hwm⟩ | t5
    ·exact .inl ⟨w, (mem_ins hnw).2 (.inr hw), hwm⟩
    ·exact .inr t5
   ·rw [List.mem_singleton] at hp
    subst hp
    have h0 := h.m.1.1
    exact ⟨by show 1 ≤ (play g l).1.c + 1; omega, Int.le_refl _, ha.2.2.2, hok, .inl ⟨_, (mem_ins (w := ⟨c.m, (play g l).1.c + 1, false⟩) hnw).2 (.inl rfl), rfl⟩⟩
  ·rw [e3, List.map_append, List.nodup_append]
   refine ⟨h.nd, by simp, fun a ha2 b hb => ?_⟩
   obtain ⟨p, hp, rfl⟩ := List.mem_map.1 ha2
   simp at hb
   subst hb
   rcases (h.tm p hp).2.2.2.2 with ⟨w, hw, hwm⟩ | ⟨d, hd, hdi⟩
   ·rw [← hwm]; exact hnw w hw
   ·rw [← hdi]; exact doneF_no.1 ha.2.2.1 d hd
 | fin hk w hw hf ht rest gone ho hgo hr hal hl =>
  rw [ho] at e1 e2 e3
  have et : tm1 (play g l).1 ⟨max (play g l).1.c c.tm, rest, (play g l).1.ds ++ gone.map stp⟩ c = [] := by unfold tm1; rw [if_neg (by show ¬ _ < rest.length; omega)]
  simp only [et, List.append_nil] at e1 e2 e3
  have hwm := List.mem_of_getElem? hw
  have hwi : w.m.id = c.id := by
   obtain ⟨y, hy, hyi⟩ := wat_some (List.getElem?_eq_some_iff.1 hw).1
   rw [hw] at hy
   injection hy with hy
   rw [hy]; exact hyi
  -- the state has changed: w is not there as it was
  have hnotin : ∀ x ∈ (play g l).1.ws.set (wat (play g l).1.ws c.id) ⟨w.m, c.tm, true⟩, x ≠ w := fun x hx e => by
   subst e
   obtain ⟨j, hj⟩ := List.getElem?_of_mem hx
   rw [List.getElem?_set] at hj
   split at hj
   ·split at hj
    ·injection hj with hj
     rw [← hj] at hf
     cases hf
    ·cases hj
   ·rename_i hne
    exact ids_ne h.m.2.2.1.2 hw hj hne rfl
  have hch : (play g (l ++ [c])).1 ≠ (play g l).1 := fun e => by
   rw [e1] at e
   have : rest = (play g l).1.ws := congrArg Sk.ws e
   rw [← this] at hwm
   exact hnotin w (hr w hwm) rfl
  -- what is in the turned list has a time
  have hset : ∀ x ∈ (play g l).1.ws.set (wat (play g l).1.ws c.id) ⟨w.m, c.tm, true⟩, Hv g (l ++ [c]) x := fun x hx => by
   rcases List.mem_or_eq_of_mem_set hx with hx | rfl
   ·exact (h.ws x hx).snoc
   ·obtain ⟨t, t1, t2, t3, _⟩ := h.ws w hwm
    refine ⟨t, by rw [e3]; exact t1, by show t ≤ c.tm; omega, fun k => (by cases k), fun _ => ⟨l.length, c, by simp, hk, hwi.symm, rfl, w, ?_⟩⟩
    rw [take_snoc n!, take_self, List.take_length]
    exact ⟨hw, rfl, hf, ht, hch⟩
  refine ⟨hmay, ⟨D ++ gone, by rw [e1]; simp [d1], by rw [e2, d2]; simp, fun x hx => ?_⟩, fun x hx => ?_, fun p hp => ?_, by rw [e3]; exact h.nd⟩
  ·rcases List.mem_append.1 hx with hx | hx
   ·exact ⟨(d3 x hx).1, (d3 x hx).2.snoc⟩
   ·exact ⟨(hgo x hx).1, hset x (hgo x hx).2⟩
  ·rw [e1] at hx
   exact hset x (hr x hx)
  ·rw [e3] at hp
   rw [e1]
   obtain ⟨t1, t2, t3, t4, t5⟩ := h.tm p hp
   refine ⟨t1, by show p.1 ≤ max (play g l).1.c c.tm; omega, t3, t4, ?_⟩
   rcases t5 with ⟨x, hx, hxm⟩ | ⟨d, hd, hdi⟩
   ·have : ∃ x2 ∈ (play g l).1.ws.set (wat (play g l).1.ws c.id) ⟨w.m, c.tm, true⟩, x2.m = p.2 := by
     obtain ⟨j, hj⟩ := List.getElem?_of_mem hx
     by_cases hjk : wat (play g l).1.ws c.id = j
     ·refine ⟨⟨w.m, c.tm, true⟩, List.mem_of_getElem? (i := j) ?_, ?_⟩
      ·rw [List.getElem?_set, if_pos hjk, if_pos (List.getElem?_eq_some_iff.1 hw).1]
      ·rw [← hjk, hw] at hj
       injection hj with hj
       rw [hj]; exact hxm
     ·exact ⟨x, List.mem_of_getElem? (i := j) (by rw [List.getElem?_set, if_neg hjk]; exact hj), hxm⟩
    obtain ⟨x2, hx2, hx2m⟩ := this
    rcases hal x2 hx2 with k | k
    ·exact .inl ⟨x2, k, hx2m⟩
    ·exact .inr ⟨stp x2, k, by show x2.m.id = _; rw [hx2m]⟩
   ·exact .inr ⟨d, List.mem_append_left _ hd, hdi⟩
theorem inv_rev (hg : 0 ≤ g ∧ g < 4) : ∀ r : List Cm, (∀ c ∈ r, CM.may c) → Inv g r.reverse
 | [], _ => ⟨(show may KM.zero by decide), ⟨[], rfl, rfl, fun _ h => (by cases h)⟩, fun _ h => (by cases h), fun _ h => (by cases h), List.nodup_nil⟩
 | c :: r, h => by
  rw [List.reverse_cons]
  exact inv_next hg (h c (List.mem_cons_self ..)) (inv_rev hg r fun d hd => h d (List.mem_cons_of_mem _ hd))
theorem inv (hg : 0 ≤ g ∧ g < 4) (h : ∀ c ∈ l, CM.may c) : Inv g l := by
 have := inv_rev hg l.reverse fun c hc => h c (List.mem_reverse.1 hc)
 rwa [List.reverse_reverse] at this
end
end OM
namespace CP
open Go.RowKit
open CM (Mg Cm)
theorem text_ne {a b : ByteArray} (h : a ≠ b) : (a.toList == b.toList) = false := by
 simpa using fun e : a.toList = b.toList => h (by
  rw [ByteArray.toList_eq, ByteArray.toList_eq] at e
  obtain ⟨⟨x⟩⟩ := a
  obtain ⟨⟨y⟩⟩ := b
  simp at e
  rw [e])
theorem sameMessage_any (a b : Mg) (va vb : Value) (w : World) (ha : MgIs w va a) (hb : MgIs w vb b) :
  Calls Tryz.prog 48 #[va, vb] w (BoolIs (decide (a = b)) w) := by
 obtain ⟨A, c, rfl, r1, r1c, r1m⟩ := ha
 obtain ⟨B, d, rfl, r2, r2c, r2m⟩ := hb
 obtain ⟨ai, ag, at', ak, ab⟩ := a
 obtain ⟨bi, bg, bt, bk, bb⟩ := b
 simp only at r1 r1c r2 r2c
 have hiff : ((⟨ai, ag, at', ak, ab⟩ : Mg) = ⟨bi, bg, bt, bk, bb⟩) ↔ (ai = bi ∧ ag = bg ∧ at' = bt ∧ ak = bk ∧ ab = bb) := by simp
 have hno : ¬ (ai = bi ∧ ag = bg ∧ at' = bt ∧ ak = bk ∧ ab = bb) → false = decide ((⟨ai, ag, at', ak, ab⟩ : Mg) = ⟨bi, bg, bt, bk, bb⟩) := fun h => by
  have : ¬ ((⟨ai, ag, at', ak, ab⟩ : Mg) = ⟨bi, bg, bt, bk, bb⟩) := fun e => h (hiff.1 e)
  rw [decide_eq_false this]
 have hyes : (ai = bi ∧ ag = bg ∧ at' = bt ∧ ak = bk ∧ ab = bb) → true = decide ((⟨ai, ag, at', ak, ab⟩ : Mg) = ⟨bi, bg, bt, bk, bb⟩) := fun h => by
  rw [decide_eq_true (hiff.2 h)]
 have HNO := h! hno
 have HYES := h! hyes
 clear hno hyes hiff
 generalize decide ((⟨ai, ag, at', ak, ab⟩ : Mg) = ⟨bi, bg, bt, bk, bb⟩) = r at HNO HYES ⊢
 show Calls _ _ #[.agg #[.int .i64 ai, .slice A ag.length c, .int .i64 at', .string ak, .string ab], .agg #[.int .i64 bi, .slice B bg.length d, .int .i64 bt, .string bk, .string bb]] _ _
 have hb0 : ∀ o1 o2 : Obj, Below w.heap.size w ((w.alloc o1).alloc o2) := fun o1 o2 => ((Below.refl _ _).alloc n! _).alloc (by simp) _
 have hs : ∀ o1 o2 : Obj, ((w.alloc o1).alloc o2).heap.size = w.heap.size + 2 := fun _ _ => by simp
 have hX : Box ((w.alloc (.cells #[.int .i64 ai, .slice A ag.length c, .int .i64 at', .string ak, .string ab] 33)).alloc (.cells #[.int .i64 bi, .slice B bg.length d, .int .i64 bt, .string bk, .string bb] 33)) w.heap.size 33 #[.int .i64 ai, .slice A ag.length c, .int .i64 at', .string ak, .string ab] := (Box.new _ _ _).alloc _
 have hY : Box ((w.alloc (.cells #[.int .i64 ai, .slice A ag.length c, .int .i64 at', .string ak, .string ab] 33)).alloc (.cells #[.int .i64 bi, .slice B bg.length d, .int .i64 bt, .string bk, .string bb] 33)) (w.heap.size + 1) 33 #[.int .i64 bi, .slice B bg.length d, .int .i64 bt, .string bk, .string bb] := Box.new_at _ (by simp)
 have C := h! (same_ints_any A B c d ag bg _ (r1.below (hb0 (.cells #[.int .i64 ai, .slice A ag.length c, .int .i64 at', .string ak, .string ab] 33) (.cells #[.int .i64 bi, .slice B bg.length d, .int .i64 bt, .string bk, .string bb] 33))) (r2.below (hb0 _ _)) (by omega) (by omega))
 have HX := h! hX
 have HY := h! hY
 have HB := h! (hb0 (.cells #[.int .i64 ai, .slice A ag.length c, .int .i64 at', .string ak, .string ab] 33) (.cells #[.int .i64 bi, .slice B bg.length d, .int .i64 bt, .string bk, .string bb] 33))
 clear hX hY hb0 hs r1 r2
 go_enter Tryz.func48, Tryz.ntmps48
 go_upto_region 1 with (fail)
 generalize (w.alloc (.cells #[.int .i64 ai, .slice A ag.length c, .int .i64 at', .string ak, .string ab] 33)).alloc (.cells #[.int .i64 bi, .slice B bg.length d, .int .i64 bt, .string bk, .string bb] 33) = w1 at HX HY HB C ⊢
 have G1 := h! HX.out.lt
 have G2 := h! HY.out.lt
 generalize hg1 : w.heap.size + 1 = g1 at HY G2 ⊢
 clear hg1
 generalize hg0 : w.heap.size = g0 at HX G1 ⊢
 clear hg0
 by_cases h1 : ai = bi
 rotate_left
 ·have HF := h! (HNO.out (fun h => h1 h.1))
  have b1 : (ai == bi) = false := by simpa using h1
  obtain ⟨x0, x1, x2, x3, x4⟩ := box_mg HX.out
  obtain ⟨y0, y1, y2, y3, y4⟩ := box_mg HY.out
  clear h1 HNO HYES C HX HY
  go_wp2_with fail
  go_ret
  exact bool_ret HF.out HB.out
 subst h1
 have b1 : (ai == ai) = true := by simp
 obtain ⟨x0, x1, x2, x3, x4⟩ := box_mg HX.out
 obtain ⟨y0, y1, y2, y3, y4⟩ := box_mg HY.out
 go_wp2_with fail
 refine (C.out).mono ?_
 rintro e w2 ⟨rfl, hb2⟩
 clear x0 x1 x2 x3 x4 y0 y1 y2 y3 y4
 obtain ⟨x0, x1, x2, x3, x4⟩ := box_mg (HX.out.below hb2 G1.out)
 obtain ⟨y0, y1, y2, y3, y4⟩ := box_mg (HY.out.below hb2 G2.out)
 replace HB := h! (HB.out.trans (hb2.mono HB.out.size))
 clear C HX HY G1 G2 hb2
 by_cases h2 : ag = bg
 rotate_left
 ·have HF := h! (HNO.out (fun h => h2 h.2.1))
  have b2 : decide (ag = bg) = false := by simpa using h2
  rw [b2]
  clear h2 HNO HYES b2
  go_wp2_with fail
  go_ret
  exact bool_ret HF.out HB.out
 rw [decide_eq_true h2]
 by_cases h3 : at' = bt
 rotate_left
 ·have HF := h! (HNO.out (fun h => h3 h.2.2.1))
  have b3 : (at' == bt) = false := by simpa using h3
  clear h2 h3 HNO HYES
  go_wp2_with fail
  go_ret
  exact bool_ret HF.out HB.out
 subst h3
 have b3 : (at' == at') = true := by simp
 by_cases h4 : ak = bk
 rotate_left
 ·have HF := h! (HNO.out (fun h => h4 h.2.2.2.1))
  have b4 := text_ne h4
  clear h2 HNO HYES
  go_wp2_with fail
  go_ret
  exact bool_ret HF.out HB.out
 subst h4
 have b4 : (ak.toList == ak.toList) = true := by simp
 by_cases h5 : ab = bb
 rotate_left
 ·have HF := h! (HNO.out (fun h => h5 h.2.2.2.2))
  have b5 := text_ne h5
  clear h2 HNO HYES
  go_wp2_with fail
  go_ret
  exact bool_ret HF.out HB.out
 subst h5
 have b5 : (ab.toList == ab.toList) = true := by simp
 have HF := h! (HYES.out ⟨by simp, h2, by simp, by simp, by simp⟩)
 clear h2 HNO HYES
 go_wp2_with fail
 go_ret
 exact bool_ret HF.out HB.out
theorem rise_no {p z : Int} {l : List Int} (h : ¬ (0 ≤ z ∧ z < 4)) (hp : -1 ≤ p) : CM.riseG p (z :: l) = false := by
 simp only [CM.riseG]
 by_cases h1 : p < z
 ·have : ¬ z < 4 := by omega
  simp [this]
 ·simp [h1]
theorem rise_le {p z : Int} {l : List Int} (h : z ≤ p) : CM.riseG p (z :: l) = false := by
 simp only [CM.riseG]
 have : ¬ p < z := by omega
 simp [this]
theorem rise_up {p z : Int} {l : List Int} (h : p < z) (h4 : z < 4) : CM.riseG p (z :: l) = CM.riseG z l := by
 simp [CM.riseG, h, h4]
end CP
namespace OM
open CM (Mg Cm)
open TM (Sp less ok Up rises)
open KM
def tOf (T : List (Int × Mg)) (m : Mg) : Int := T.foldl (fun t p => if p.2 = m then p.1 else t) 0
theorem tOf_snoc (T : List (Int × Mg)) (p : Int × Mg) (m : Mg) : tOf (T ++ [p]) m = if p.2 = m then p.1 else tOf T m := by unfold tOf; rw [List.foldl_append]; rfl
theorem tOf_rev (m : Mg) : ∀ r : List (Int × Mg), tOf r.reverse m = 0 ∧ (∀ p ∈ r, p.2 ≠ m) ∨ (tOf r.reverse m, m) ∈ r
 | [] => .inl ⟨rfl, fun _ h => (by cases h)⟩
 | p :: r => by
  rw [List.reverse_cons, tOf_snoc]
  split
  ·rename_i h
   subst h
   exact .inr (List.mem_cons_self ..)
  ·rename_i h
   rcases tOf_rev m r with ⟨h1, h2⟩ | h1
   ·exact .inl ⟨h1, fun q hq => by
     rcases List.mem_cons.1 hq with rfl | hq
     ·exact h
     ·exact h2 q hq⟩
   ·exact .inr (List.mem_cons_of_mem _ h1)
theorem tOf_cases (T : List (Int × Mg)) (m : Mg) : (tOf T m = 0 ∧ ∀ p ∈ T, p.2 ≠ m) ∨ (tOf T m, m) ∈ T := by
 have := tOf_rev m T.reverse
 rw [List.reverse_reverse] at this
 rcases this with ⟨h1, h2⟩ | h
 ·exact .inl ⟨h1, fun p hp => h2 p (List.mem_reverse.2 hp)⟩
 ·exact .inr (List.mem_reverse.1 h)
theorem nd_eq {T : List (Int × Mg)} (h : (T.map (fun p => p.2.id)).Nodup) {p q : Int × Mg} (hp : p ∈ T) (hq : q ∈ T) (he : p.2.id = q.2.id) : p = q := by
 obtain ⟨i, hi⟩ := List.getElem?_of_mem hp
 obtain ⟨j, hj⟩ := List.getElem?_of_mem hq
 have hil := (List.getElem?_eq_some_iff.1 hi).1
 have hjl := (List.getElem?_eq_some_iff.1 hj).1
 by_cases hij : i = j
 ·subst hij
  rw [hi] at hj
  injection hj
 ·exfalso
  rw [List.nodup_iff_pairwise_ne, List.pairwise_iff_getElem] at h
  have key : ∀ a b : Nat, ∀ u v : Int × Mg, T[a]? = some u → T[b]? = some v → a < b → u.2.id ≠ v.2.id := fun a b u v ha hb hab => by
   have hal := (List.getElem?_eq_some_iff.1 ha)
   have hbl := (List.getElem?_eq_some_iff.1 hb)
   have := h a b (by simpa using hal.1) (by simpa using hbl.1) hab
   simp only [List.getElem_map, hal.2, hbl.2] at this
   exact this
  rcases Nat.lt_or_gt_of_ne hij with k | k
  ·exact key i j p q hi hj k he
  ·exact key j i q p hj hi k he.symm
def lg (L : List (List Cm)) (g : Int) : List Cm := if 0 ≤ g then L.getD g.toNat [] else []
def tg (L : List (List Cm)) (g : Int) : List (Int × Mg) := (play g (lg L g)).2.2
def lastG (L : List (List Cm)) (m : Mg) : List Int → Int → Int × Bool
 | [], most => (most, true)
 | g :: r, most => if (L.length : Int) ≤ g then (0, false) else if tOf (tg L g) m = 0 then (0, false) else lastG L m r (max most (tOf (tg L g) m))
def lastF (L : List (List Cm)) (m : Mg) : Int × Bool := lastG L m m.gs 0
def one1 (L : List (List Cm)) : Prop := ∀ g h : Nat, g < L.length → h < L.length → ∀ p ∈ tg L g, ∀ q ∈ tg L h, p.2.id = q.2.id → p.2 = q.2
def fair1 (L : List (List Cm)) (g : Int) (l : List Cm) (k : Nat) (c : Cm) : Prop := c.k = 2 → ∀ y, (play g (l.take k)).1.ws[wat (play g (l.take k)).1.ws c.id]? = some y → y.f = false → y.t ≤ c.tm →
 (play g (l.take (k + 1))).1 ≠ (play g (l.take k)).1 → lastF L y.m = (c.tm, true)
def honest (L : List (List Cm)) : Prop := one1 L ∧ ∀ (g : Nat) l, L[g]? = some l → ∀ (k : Nat) c, l[k]? = some c → fair1 L g l k c
def Logs (L : List (List Cm)) : Prop := L.length ≤ 4 ∧ ∀ l ∈ L, ∀ c ∈ l, CM.may c
section
variable {L : List (List Cm)} {g : Nat} {l : List Cm}
theorem lg_at (h : L[g]? = some l) : lg L g = l := by unfold lg; rw [if_pos (by omega), List.getD_eq_getElem?_getD]; simp [h]
theorem Logs.inv (hL : Logs L) (h : L[g]? = some l) : Inv g l := by
 have := (List.getElem?_eq_some_iff.1 h).1
 have := hL.1
 exact OM.inv (by omega) (hL.2 l (List.mem_of_getElem? h))
end
def com (a b : List Sp) : List Sp := a.filter fun x => b.any fun y => y.i == x.i
def agreeF (a b : List Sp) : Bool := decide ((com a b).take (min (com a b).length (com b a).length) = (com b a).take (min (com a b).length (com b a).length))
end OM
section
open Go.RowKit
theorem may_any (n : Int) (w : World) (h : 0 ≤ n ∧ n ≤ 1099511627776) :
  Calls Tryz.prog 93 #[.int .i64 n] w fun e w' => e = .returned (.bool true) ∧ w = w' := by
 obtain ⟨h1, h2⟩ := h
 go_enter Tryz.func93, Tryz.ntmps93
 go_wp2
 go_ret
 exact ⟨rfl, rfl⟩
theorem may_not (n : Int) (w : World) (h : ¬ (0 ≤ n ∧ n ≤ 1099511627776)) :
  Calls Tryz.prog 93 #[.int .i64 n] w fun e w' => e = .returned (.bool false) ∧ w = w' := by
 by_cases h1 : 0 ≤ n
 ·have h2 : decide (n ≤ 1099511627776) = false := by simp; omega
  clear h
  go_enter Tryz.func93, Tryz.ntmps93
  go_wp2
  go_ret
  exact ⟨rfl, rfl⟩
 ·have h2 : n < 0 := by omega
  clear h h1
  go_enter Tryz.func93, Tryz.ntmps93
  go_wp2
  go_ret
  exact ⟨rfl, rfl⟩
theorem put_ok (n : Nat) (w : World) (hn : n ≤ 1099511627776) :
  Calls Tryz.prog 68 #[.int .i64 n] w fun e w' => ∃ v, e = .returned (.tuple #[v, .int .i64 0]) ∧ w'.ownsRow w.heap.size 5 1 v (NM.enc n).length (bc (NM.enc n)) ∧ Below w.heap.size w w' := by
 go_enter Tryz.func68, Tryz.ntmps68
 go_wp2_with (first
  | (go_at_call 93; refine (may_any _ _ ⟨by omega, by omega⟩).mono ?_; rintro e w' ⟨rfl, rfl⟩)
  | (go_at_call 94; refine (appendNumber_any w.heap.size _ 0 [] n _ hn (by omega) (World.ownsRow_nil _ _ _ _) n!).mono ?_; rintro e w' ⟨v', rfl, hown, hg, hob⟩))
 go_ret2
 exact ⟨v', rfl, by simpa using hown, below_of_grown hg (by simp [Value.ownBlock])⟩
end
namespace OM
open CM (Mg Cm)
open TM (Sp less ok Up rises)
open KM
structure Bg (x y : Sk × List Mg × List (Int × Mg)) : Prop where
 ds : ∃ D, y.1.ds = x.1.ds ++ D
 out : ∃ O, y.2.1 = x.2.1 ++ O
 tm : ∃ T, y.2.2 = x.2.2 ++ T
 c : x.1.c ≤ y.1.c
theorem Bg.refl (x : Sk × List Mg × List (Int × Mg)) : Bg x x := ⟨⟨[], by simp⟩, ⟨[], by simp⟩, ⟨[], by simp⟩, Int.le_refl _⟩
theorem Bg.trans {x y z : Sk × List Mg × List (Int × Mg)} (h : Bg x y) (k : Bg y z) : Bg x z := by
 obtain ⟨⟨D, d⟩, ⟨O, o⟩, ⟨T, t⟩, c⟩ := h
 obtain ⟨⟨D', d'⟩, ⟨O', o'⟩, ⟨T', t'⟩, c'⟩ := k
 exact ⟨⟨D ++ D', by rw [d', d]; simp⟩, ⟨O ++ O', by rw [o', o]; simp⟩, ⟨T ++ T', by rw [t', t]; simp⟩, Int.le_trans c c'⟩
section
variable {g : Int} {l a b : List Cm} {c : Cm}
theorem bg_next (hg : 0 ≤ g ∧ g < 4) (hc : CM.may c) (h : Inv g l) : Bg (play g l) (play g (l ++ [c])) := by
 have hm := one_may (g := g) (c := c) h.m hg hc
 rw [play_snoc]
 refine ⟨?_, ⟨_, rfl⟩, ⟨_, rfl⟩, hm.2⟩
 show ∃ D, (one (play g l).1 g c).1.ds = _
 cases does (g := g) (c := c) h.m hg hc with
 | no ho => rw [ho]; exact ⟨[], by simp⟩
 | asg _ _ ho => rw [ho]; exact ⟨[], by simp⟩
 | fin _ w _ _ _ rest gone ho => rw [ho]; exact ⟨_, rfl⟩
theorem bg_rev (hg : 0 ≤ g ∧ g < 4) : ∀ r : List Cm, (∀ c ∈ a ++ r.reverse, CM.may c) → Bg (play g a) (play g (a ++ r.reverse))
 | [], _ => by simpa using Bg.refl _
 | c :: r, h => by
  have e : a ++ (c :: r).reverse = (a ++ r.reverse) ++ [c] := by simp
  rw [e] at h ⊢
  have h1 : ∀ d ∈ a ++ r.reverse, CM.may d := fun d hd => h d (List.mem_append_left _ hd)
  exact (bg_rev hg r h1).trans (bg_next hg (h c (by simp)) (inv hg h1))
theorem begins (hg : 0 ≤ g ∧ g < 4) (h : ∀ c ∈ a ++ b, CM.may c) : Bg (play g a) (play g (a ++ b)) := by
 have := bg_rev (a := a) hg b.reverse (by rwa [List.reverse_reverse])
 rwa [List.reverse_reverse] at this
end
theorem mg_groups {m : Mg} (h : CM.mgOk m) : m.gs ≠ [] ∧ ∀ g ∈ m.gs, 0 ≤ g ∧ g < 4 := ⟨h.2.1, fun g hg => by have := CM.riseG_mem h.2.2.1 g hg; omega⟩
section
variable {L : List (List Cm)} {x : Mg} {t : Int}
end
theorem tm1_is {s : Sk} {g : Int} {c : Cm} (hm : may s) (hg : 0 ≤ g ∧ g < 4) (hc : CM.may c) : tm1 s (one s g c).1 c = if c.k = 1 ∧ (one s g c).1 ≠ s then [((one s g c).1.c, c.m)] else [] := by
 cases does (g := g) (c := c) hm hg hc with
 | no h => rw [h]; unfold tm1; rw [if_neg (Nat.lt_irrefl _), if_neg (fun k => k.2 rfl)]
 | asg ha hf h =>
  have hl := ins_len (w := ⟨c.m, s.c + 1, false⟩) (wat_no.1 ha.2.1)
  rw [h]
  unfold tm1
  rw [if_pos (by show _ < (ins s.ws ⟨c.m, s.c + 1, false⟩).length; omega), if_pos ⟨ha.1, fun e => by have := congrArg (fun s => s.ws.length) e; simp only at this; omega⟩]
 | fin hk w hw hf ht rest gone h _ _ _ hl => rw [h]; unfold tm1; rw [if_neg (by show ¬ _ < rest.length; omega), if_neg (fun k => by have := k.1; omega)]
def fin1 (s s' : Sk) (c : Cm) : List Cm := if c.k = 2 ∧ s' ≠ s then [c] else []
def nf (g : Int) (r : Sk × List Cm) (c : Cm) : Sk × List Cm := ((one r.1 g c).1, r.2 ++ fin1 r.1 (one r.1 g c).1 c)
def playf (g : Int) (l : List Cm) : Sk × List Cm := l.foldl (nf g) (KM.zero, [])
def fins (g : Int) (l : List Cm) : List Cm := (playf g l).2
theorem playf_snoc (g : Int) (l : List Cm) (c : Cm) : playf g (l ++ [c]) = nf g (playf g l) c := by unfold playf; rw [List.foldl_append]; rfl
theorem playf_rev (g : Int) : ∀ r : List Cm, (playf g r.reverse).1 = (play g r.reverse).1
 | [] => rfl
 | c :: r => by rw [List.reverse_cons, playf_snoc, play_snoc]; unfold nf nx; simp only; rw [playf_rev g r]
theorem playf_fst (g : Int) (l : List Cm) : (playf g l).1 = (play g l).1 := by have := playf_rev g l.reverse; rwa [List.reverse_reverse] at this
theorem fins_snoc (g : Int) (l : List Cm) (c : Cm) : fins g (l ++ [c]) = fins g l ++ fin1 (play g l).1 (one (play g l).1 g c).1 c := by unfold fins; rw [playf_snoc, ← playf_fst]; rfl
theorem fins_rev (g : Int) (c : Cm) : ∀ r : List Cm, c ∈ fins g r.reverse ↔ ∃ k, r.reverse[k]? = some c ∧ c.k = 2 ∧ (play g (r.reverse.take (k + 1))).1 ≠ (play g (r.reverse.take k)).1
 | [] => by
  constructor
  ·intro h; cases h
  ·rintro ⟨k, h, _⟩; cases h
 | d :: r => by
  rw [List.reverse_cons, fins_snoc, List.mem_append, fins_rev g c r]
  constructor
  ·rintro (⟨k, h1, h2, h3⟩ | h)
   ·have hk := (List.getElem?_eq_some_iff.1 h1).1
    exact ⟨k, by rw [List.getElem?_append_left hk]; exact h1, h2, by rw [take_snoc (by omega), take_snoc (by omega)]; exact h3⟩
   ·unfold fin1 at h
    split at h
    ·rename_i hh
     obtain rfl := List.mem_singleton.1 h
     refine ⟨r.reverse.length, by simp, hh.1, ?_⟩
     rw [take_snoc n!, take_self, List.take_length, play_snoc]
     exact hh.2
    ·cases h
  ·rintro ⟨k, h1, h2, h3⟩
   have hk := (List.getElem?_eq_some_iff.1 h1).1
   rw [List.length_append, List.length_singleton] at hk
   by_cases hkl : k < r.reverse.length
   ·left
    rw [List.getElem?_append_left hkl] at h1
    rw [take_snoc (by omega), take_snoc (by omega)] at h3
    exact ⟨k, h1, h2, h3⟩
   ·right
    obtain rfl : k = r.reverse.length := by omega
    rw [List.getElem?_append_right n!] at h1
    simp at h1
    subst h1
    rw [take_snoc n!, take_self, List.take_length, play_snoc] at h3
    unfold fin1
    rw [if_pos ⟨h2, h3⟩]
    exact List.mem_singleton.2 rfl
theorem mem_fins {g : Int} {l : List Cm} {c : Cm} : c ∈ fins g l ↔ ∃ k, l[k]? = some c ∧ c.k = 2 ∧ (play g (l.take (k + 1))).1 ≠ (play g (l.take k)).1 := by have := fins_rev g c l.reverse; rwa [List.reverse_reverse] at this
def fd (T : List (Int × Mg)) (id : Int) : Option (Int × Mg) := T.find? fun p => p.2.id == id
theorem fd_some {T : List (Int × Mg)} {id : Int} {p : Int × Mg} (h : fd T id = some p) : p ∈ T ∧ p.2.id = id := ⟨List.mem_of_find?_eq_some h, by simpa using List.find?_some h⟩
theorem fd_none {T : List (Int × Mg)} {id : Int} (h : fd T id = none) : ∀ p ∈ T, p.2.id ≠ id := fun p hp => by simpa using List.find?_eq_none.1 h p hp
theorem fd_of {T : List (Int × Mg)} (hn : (T.map (fun p => p.2.id)).Nodup) {p : Int × Mg} (hp : p ∈ T) : fd T p.2.id = some p := by
 rcases h : fd T p.2.id with _ | q
 ·exact absurd rfl (fd_none h p hp)
 ·rw [nd_eq hn (fd_some h).1 hp (fd_some h).2]
theorem tOf_fd {T : List (Int × Mg)} (hn : (T.map (fun p => p.2.id)).Nodup) {m : Mg} {p : Int × Mg} (h : fd T m.id = some p) : tOf T m = if p.2 = m then p.1 else 0 := by
 obtain ⟨h1, h2⟩ := fd_some h
 by_cases e : p.2 = m
 ·rw [if_pos e]
  rcases tOf_cases T m with ⟨_, k⟩ | k
  ·exact absurd e (k p h1)
  ·have := nd_eq hn k h1 h2.symm
   rw [← this]
 ·rw [if_neg e]
  rcases tOf_cases T m with ⟨k, _⟩ | k
  ·exact k
  ·have := nd_eq hn k h1 h2.symm
   rw [← this] at e
   exact absurd rfl e
theorem tOf_fd0 {T : List (Int × Mg)} {m : Mg} (h : fd T m.id = none) : tOf T m = 0 := by
 rcases tOf_cases T m with ⟨k, _⟩ | k
 ·exact k
 ·exact absurd rfl (fd_none h _ k)
def fdm (T : List (Int × Mg)) (id : Int) : Mg := ((fd T id).getD (0, CM.mz)).2
def oneB (L : List (List Cm)) : Prop := ∀ g h : Nat, h < g → g < L.length → ∀ p ∈ tg L g, ∀ q, fd (tg L h) p.2.id = some q → q.2 = p.2
def finB (L : List (List Cm)) : Prop := ∀ g : Nat, g < L.length → ∀ c ∈ fins g (lg L g), lastF L (fdm (tg L g) c.id) = (c.tm, true)
section
variable {L : List (List Cm)}
theorem Logs.inv2 (hL : Logs L) {g : Nat} (h : g < L.length) : Inv g (lg L g) := by
 rw [lg_at (List.getElem?_eq_getElem h)]
 exact hL.inv (List.getElem?_eq_getElem h)
theorem one_iff (hL : Logs L) : oneB L ↔ one1 L := by
 constructor
 ·intro H g h hg hh p hp q hq e
  rcases Nat.lt_trichotomy g h with k | rfl | k
  ·exact H h g k hh q hq p (by rw [← e]; exact fd_of (hL.inv2 hg).nd hp)
  ·rw [nd_eq (hL.inv2 hg).nd hp hq e]
  ·exact (H g h k hg p hp q (by rw [e]; exact fd_of (hL.inv2 hh).nd hq)).symm
 ·intro H g h hk hg p hp q hq
  obtain ⟨h1, h2⟩ := fd_some hq
  exact (H g h hg (by omega) p hp q h1 h2.symm).symm
theorem fin_at (hL : Logs L) {g : Nat} {l : List Cm} (hg : L[g]? = some l) {k : Nat} {c : Cm} (h1 : l[k]? = some c) (h2 : c.k = 2) (h3 : (play g (l.take (k + 1))).1 ≠ (play g (l.take k)).1) :
  ∃ y, (play g (l.take k)).1.ws[wat (play g (l.take k)).1.ws c.id]? = some y ∧ y.f = false ∧ y.t ≤ c.tm ∧ fdm (tg L g) c.id = y.m := by
 have hgl := (List.getElem?_eq_some_iff.1 hg).1
 have hg4 := hL.1
 have hkl := (List.getElem?_eq_some_iff.1 h1).1
 have hall := hL.2 l (List.mem_of_getElem? hg)
 have hk : l.take (k + 1) = l.take k ++ [c] := by rw [List.take_add_one, h1]; rfl
 have hI : Inv g (l.take k) := inv (by omega) fun d hd => hall d (List.mem_of_mem_take hd)
 rw [hk, play_snoc] at h3
 cases does (g := (g : Int)) (c := c) hI.m (by omega) (hall c (List.mem_of_getElem? h1)) with
 | no h => exact absurd (congrArg Prod.fst h) h3
 | asg ha _ _ => exact absurd ha.1 (by omega)
 | fin _ w hw hf ht =>
  refine ⟨w, hw, hf, ht, ?_⟩
  obtain ⟨y', hy', hyi⟩ := wat_some (List.getElem?_eq_some_iff.1 hw).1
  rw [hw] at hy'
  injection hy' with hy'
  subst hy'
  obtain ⟨t, ht1, _⟩ := hI.ws w (List.mem_of_getElem? hw)
  obtain ⟨T, hT⟩ := (begins (g := (g : Int)) (a := l.take k) (b := l.drop k) (by omega) (by rw [List.take_append_drop]; exact hall)).tm
  rw [List.take_append_drop] at hT
  have hm : (t, w.m) ∈ tg L g := by unfold tg; rw [lg_at hg, hT]; exact List.mem_append_left _ ht1
  have := fd_of (T := tg L g) (by have := (hL.inv2 hgl).nd; exact this) hm
  simp only at this
  rw [hyi] at this
  unfold fdm
  rw [this]
  rfl
theorem honest_iff (hL : Logs L) : honest L ↔ oneB L ∧ finB L := by
 constructor
 ·rintro ⟨H1, H2⟩
  refine ⟨(one_iff hL).2 H1, fun g hg c hc => ?_⟩
  have hl := List.getElem?_eq_getElem hg
  rw [lg_at hl] at hc
  obtain ⟨k, h1, h2, h3⟩ := mem_fins.1 hc
  obtain ⟨y, y1, y2, y3, y4⟩ := fin_at hL hl h1 h2 h3
  rw [y4]
  exact H2 g _ hl k c h1 h2 y y1 y2 y3 h3
 ·rintro ⟨H1, H2⟩
  refine ⟨(one_iff hL).1 H1, fun g l hg k c h1 h2 y y1 y2 y3 h3 => ?_⟩
  have hgl := (List.getElem?_eq_some_iff.1 hg).1
  obtain ⟨z, z1, _, _, z4⟩ := fin_at hL hg h1 h2 h3
  rw [y1] at z1
  injection z1 with z1
  subst z1
  have := H2 g hgl c (by rw [lg_at hg]; exact mem_fins.2 ⟨k, h1, h2, h3⟩)
  rwa [z4] at this
end
end OM
end Go.Proofs.YteebeiaokfenmaaGreat
