/-
  A group's clock, and what it delivers: which may be, what a command does to it. No program.
-/
import Derived.Test.YtnpgjcapekopnaaGreatCmdMath
import Derived.Test.YtnpgjcapekopnaaGreatSpMath
namespace Go.Proofs.YtnpgjcapekopnaaGreat.KM
open CM (Mg Cm)
open TM (Sp less ok Up rises)
set_option linter.unusedVariables false
set_option linter.unusedSimpArgs false

/-- what waits: a message, its time, whether it is final -/
structure Wt where
  m : Mg
  t : Int
  f : Bool
  deriving DecidableEq
structure Sk where
  c : Int
  ws : List Wt
  ds : List Sp
  deriving DecidableEq
instance : Inhabited Wt := ⟨⟨CM.mz, 0, false⟩⟩
def zero : Sk := ⟨0, [], []⟩
def stp (w : Wt) : Sp := ⟨w.t, w.m.id⟩

-- the order of stamps, as a linear one
theorem less_neg {a b c : Sp} (h1 : less b a = false) (h2 : less c b = false) : less c a = false := by
  simp only [less, decide_eq_false_iff_not] at *
  unfold TM.lt at *
  omega
theorem less_neg_lt {a b c : Sp} (h1 : less b a = false) (h2 : less b c = true) : less a c = true := by
  simp only [less, decide_eq_false_iff_not, decide_eq_true_eq] at *
  unfold TM.lt at *
  omega
theorem less_asymm {a b : Sp} (h : less a b = true) : less b a = false := by
  simp only [less, decide_eq_false_iff_not, decide_eq_true_eq] at *
  unfold TM.lt at *
  omega

/-- where the least of what waits stands: the first one, if there are some -/
def LeastAt (l : List Wt) (k : Nat) : Prop :=
  ∃ a, l[k]? = some a ∧ (∀ (j : Nat) (b : Wt), l[j]? = some b → less (stp b) (stp a) = false) ∧ ∀ (j : Nat) (b : Wt), j < k → l[j]? = some b → less (stp a) (stp b) = true
theorem LeastAt.unique {l : List Wt} {k k' : Nat} (h : LeastAt l k) (h' : LeastAt l k') : k = k' := by
  obtain ⟨a, ha, h1, h2⟩ := h
  obtain ⟨b, hb, g1, g2⟩ := h'
  rcases Nat.lt_trichotomy k k' with hk | hk | hk
  · have x := g2 k a hk ha
    rw [h1 k' b hb] at x; cases x
  · exact hk
  · have x := h2 k' b hk hb
    rw [g1 k a ha] at x; cases x
def lst : List Wt → Nat
  | [] => 0
  | a :: r => match r[lst r]? with
    | none => 0
    | some b => if less (stp b) (stp a) then lst r + 1 else 0
theorem lst_least : ∀ l : List Wt, l ≠ [] → LeastAt l (lst l)
  | [], h => absurd rfl h
  | [a], _ => ⟨a, rfl, fun j b hj => by
      rcases j with _ | j
      · simp at hj; subst hj; exact TM.less_irrefl _
      · simp at hj, fun j b hj => by simp [lst] at hj⟩
  | a :: c :: r, _ => by
    obtain ⟨b, hb, h1, h2⟩ := lst_least (c :: r) (by simp)
    generalize hk : lst (c :: r) = k at hb h2
    have e : lst (a :: c :: r) = if less (stp b) (stp a) then k + 1 else 0 := by
      show (match (c :: r)[lst (c :: r)]? with | none => 0 | some b => if less (stp b) (stp a) then lst (c :: r) + 1 else 0) = _
      rw [hk, hb]
    rcases hl : less (stp b) (stp a) with _ | _
    · rw [e, hl]
      refine ⟨a, rfl, fun j x hj => ?_, fun j x hj => absurd hj (by simp)⟩
      rcases j with _ | j
      · simp at hj; subst hj; exact TM.less_irrefl _
      · exact less_neg hl (h1 j x (by simpa using hj))
    · rw [e, hl]
      refine ⟨b, by simpa using hb, fun j x hj => ?_, fun j x hjk hj => ?_⟩
      · rcases j with _ | j
        · simp at hj; subst hj; exact less_asymm hl
        · exact h1 j x (by simpa using hj)
      · rcases j with _ | j
        · simp at hj; subst hj; exact hl
        · exact h2 j x (by simp at hjk; omega) (by simpa using hj)
theorem lst_lt {l : List Wt} (h : l ≠ []) : lst l < l.length := by
  obtain ⟨a, ha, _⟩ := lst_least l h
  exact (List.getElem?_eq_some_iff.1 ha).1
theorem lst_eq {l : List Wt} {k : Nat} (h : LeastAt l k) : lst l = k := by
  have hne : l ≠ [] := by rintro rfl; obtain ⟨a, ha, _⟩ := h; cases ha
  exact (lst_least l hne).unique h
/-- where an id waits: behind the last one, if nowhere -/
def wat (l : List Wt) (id : Int) : Nat := l.findIdx fun w => w.m.id == id
def doneF (l : List Sp) (id : Int) : Bool := l.any fun x => x.i == id
theorem doneF_no {l : List Sp} {id : Int} : doneF l id = false ↔ ∀ x ∈ l, x.i ≠ id := by
  unfold doneF
  rw [List.any_eq_false]
  simp
theorem wat_le (l : List Wt) (id : Int) : wat l id ≤ l.length := List.findIdx_le_length
theorem wat_some {l : List Wt} {id : Int} (h : wat l id < l.length) : ∃ w, l[wat l id]? = some w ∧ w.m.id = id := by
  refine ⟨_, List.getElem?_eq_getElem h, ?_⟩
  have := List.findIdx_getElem (xs := l) (p := fun w : Wt => w.m.id == id) (w := h)
  exact beq_iff_eq.1 this
theorem wat_no {l : List Wt} {id : Int} : wat l id = l.length ↔ ∀ w ∈ l, w.m.id ≠ id := by
  unfold wat
  rw [List.findIdx_eq_length]
  simp
/-- found: nothing ahead of it has that id -/
theorem wat_eq {l : List Wt} {id : Int} {k : Nat} {w : Wt} (hk : l[k]? = some w) (hw : w.m.id = id) (hno : ∀ j x, j < k → l[j]? = some x → x.m.id ≠ id) : wat l id = k := by
  have hlt := (List.getElem?_eq_some_iff.1 hk)
  obtain ⟨hl, he⟩ := hlt
  unfold wat
  rw [List.findIdx_eq hl]
  refine ⟨by simp [he, hw], fun j hj => ?_⟩
  have := hno j _ hj (List.getElem?_eq_getElem (by omega))
  simpa using this
-- which may be
def DoneOk (c : Int) (ds : List Sp) : Prop := (∀ x ∈ ds, ok x ∧ 1 ≤ x.t ∧ x.t ≤ c) ∧ rises ds = true ∧ (ds.map Sp.i).Nodup
def WaitOk (c : Int) (ds : List Sp) (ws : List Wt) : Prop :=
  (∀ w ∈ ws, CM.mgOk w.m ∧ (1 ≤ w.t ∧ w.t ≤ c) ∧ doneF ds w.m.id = false ∧ (ds.getLast?.all fun z => less z (stp w)) = true) ∧ ws.Pairwise fun a b => a.m.id < b.m.id
def HeadOk (ws : List Wt) : Prop := (ws[lst ws]?.all fun w => !w.f) = true
def SizeOk (s : Sk) : Prop := 0 ≤ s.c ∧ s.c ≤ 1073741824 ∧ s.ws.length ≤ 200 ∧ s.ds.length ≤ 200
def may (s : Sk) : Prop := SizeOk s ∧ DoneOk s.c s.ds ∧ WaitOk s.c s.ds s.ws ∧ HeadOk s.ws
instance (c : Int) (ds : List Sp) : Decidable (DoneOk c ds) := by unfold DoneOk; infer_instance
instance (c : Int) (ds : List Sp) (ws : List Wt) : Decidable (WaitOk c ds ws) := by unfold WaitOk; infer_instance
instance (ws : List Wt) : Decidable (HeadOk ws) := by unfold HeadOk; infer_instance
instance (s : Sk) : Decidable (SizeOk s) := by unfold SizeOk; infer_instance
instance (s : Sk) : Decidable (may s) := by unfold may; infer_instance
theorem headOk_iff {ws : List Wt} : HeadOk ws ↔ ∀ w, ws[lst ws]? = some w → w.f = false := by
  unfold HeadOk
  rcases ws[lst ws]? with _ | w <;> simp
theorem last_all {ds : List Sp} {p : Sp → Bool} : (ds.getLast?.all p) = true ↔ ∀ z, ds.getLast? = some z → p z = true := by
  rcases ds.getLast? with _ | z <;> simp
theorem up_snoc {l : List Sp} {x : Sp} : Up (l ++ [x]) ↔ Up l ∧ ∀ z, l.getLast? = some z → less z x = true := by
  constructor
  · intro h
    refine ⟨fun k a b ha hb => h k a b ?_ ?_, fun z hz => ?_⟩
    · rw [List.getElem?_append_left (List.getElem?_eq_some_iff.1 ha).1]; exact ha
    · rw [List.getElem?_append_left (List.getElem?_eq_some_iff.1 hb).1]; exact hb
    · rw [List.getLast?_eq_getElem?] at hz
      have hl := (List.getElem?_eq_some_iff.1 hz).1
      refine h (l.length - 1) z x (by rw [List.getElem?_append_left hl]; exact hz) ?_
      rw [show l.length - 1 + 1 = l.length by omega, List.getElem?_append_right (Nat.le_refl _)]
      simp
  · rintro ⟨h1, h2⟩ k a b ha hb
    have hbl := (List.getElem?_eq_some_iff.1 hb).1
    rw [List.length_append] at hbl
    simp at hbl
    rcases Nat.lt_or_ge (k + 1) l.length with hk | hk
    · rw [List.getElem?_append_left (by omega)] at ha
      rw [List.getElem?_append_left hk] at hb
      exact h1 k a b ha hb
    · have hk2 : k + 1 = l.length := by omega
      rw [List.getElem?_append_left (by omega)] at ha
      rw [hk2, List.getElem?_append_right (Nat.le_refl _)] at hb
      simp at hb
      subst hb
      refine h2 a ?_
      rw [List.getLast?_eq_getElem?, show l.length - 1 = k by omega]
      exact ha
theorem doneOk_snoc {c : Int} {l : List Sp} {x : Sp} : DoneOk c (l ++ [x]) ↔ DoneOk c l ∧ (ok x ∧ 1 ≤ x.t ∧ x.t ≤ c) ∧ (∀ z, l.getLast? = some z → less z x = true) ∧ ∀ y ∈ l, y.i ≠ x.i := by
  unfold DoneOk
  rw [TM.rises_iff, TM.rises_iff, up_snoc, List.map_append, List.nodup_append]
  simp only [List.mem_append, List.mem_singleton, List.map_cons, List.map_nil, List.mem_map]
  constructor
  · rintro ⟨h1, ⟨h2, h3⟩, h4, _, h5⟩
    exact ⟨⟨fun y hy => h1 y (.inl hy), h2, h4⟩, h1 x (.inr rfl), h3, fun y hy => h5 _ ⟨y, hy, rfl⟩ _ rfl⟩
  · rintro ⟨⟨h1, h2, h4⟩, h6, h3, h5⟩
    refine ⟨fun y hy => ?_, ⟨h2, h3⟩, h4, by simp, ?_⟩
    · rcases hy with hy | rfl
      · exact h1 y hy
      · exact h6
    · rintro _ ⟨y, hy, rfl⟩ _ rfl
      exact h5 y hy
theorem pair_last {l : List Wt} (h : l.Pairwise fun a b => a.m.id < b.m.id) {w : Wt} : (∀ z, l.getLast? = some z → z.m.id < w.m.id) ↔ ∀ a ∈ l, a.m.id < w.m.id := by
  constructor
  · intro hz a ha
    rcases List.eq_nil_or_concat l with rfl | ⟨r, z, rfl⟩
    · cases ha
    · rw [List.concat_eq_append] at *
      have h1 := hz z (by simp)
      rw [List.pairwise_append] at h
      rcases List.mem_append.1 ha with ha | ha
      · have := h.2.2 a ha z (by simp)
        omega
      · simp at ha; subst ha; exact h1
  · intro h z hz
    exact h z (List.mem_of_getLast? hz)
theorem waitOk_snoc {c : Int} {ds : List Sp} {l : List Wt} {w : Wt} : WaitOk c ds (l ++ [w]) ↔
    WaitOk c ds l ∧ (CM.mgOk w.m ∧ (1 ≤ w.t ∧ w.t ≤ c) ∧ doneF ds w.m.id = false ∧ (ds.getLast?.all fun z => less z (stp w)) = true) ∧ ∀ z, l.getLast? = some z → z.m.id < w.m.id := by
  unfold WaitOk
  rw [List.pairwise_append]
  simp only [List.mem_append, List.mem_singleton]
  constructor
  · rintro ⟨h1, h2, _, h3⟩
    exact ⟨⟨fun y hy => h1 y (.inl hy), h2⟩, h1 w (.inr rfl), (pair_last h2).2 fun a ha => h3 a ha w rfl⟩
  · rintro ⟨⟨h1, h2⟩, h4, h3⟩
    refine ⟨fun y hy => ?_, h2, by simp, fun a ha b hb => ?_⟩
    · rcases hy with hy | rfl
      · exact h1 y hy
      · exact h4
    · subst hb; exact (pair_last h2).1 h3 a ha
theorem doneOk_nil (c : Int) : DoneOk c [] := ⟨fun _ h => absurd h (by simp), rfl, by simp⟩
theorem waitOk_nil (c : Int) (ds : List Sp) : WaitOk c ds [] := ⟨fun _ h => absurd h (by simp), List.Pairwise.nil⟩
theorem doneOk_take {c : Int} {l : List Sp} (h : DoneOk c l) (k : Nat) : DoneOk c (l.take k) := by
  obtain ⟨h1, h2, h3⟩ := h
  refine ⟨fun x hx => h1 x (List.mem_of_mem_take hx), ?_, ?_⟩
  · rw [TM.rises_iff] at h2 ⊢
    intro j a b ha hb
    refine h2 j a b ?_ ?_
    · rw [List.getElem?_take] at ha; split at ha
      · exact ha
      · cases ha
    · rw [List.getElem?_take] at hb; split at hb
      · exact hb
      · cases hb
  · rw [List.map_take]
    exact h3.sublist (List.take_sublist _ _)
theorem waitOk_take {c : Int} {ds : List Sp} {l : List Wt} (h : WaitOk c ds l) (k : Nat) : WaitOk c ds (l.take k) :=
  ⟨fun x hx => h.1 x (List.mem_of_mem_take hx), h.2.sublist (List.take_sublist _ _)⟩
/-- what waits, with one more, by its id -/
def ins (l : List Wt) (w : Wt) : List Wt := l.filter (fun x => decide (x.m.id < w.m.id)) ++ [w] ++ l.filter (fun x => decide (w.m.id < x.m.id))
/-- the least goes as long as it is final -/
def drain : Nat → List Wt → List Sp → List Mg → List Wt × List Sp × List Mg
  | 0, ws, ds, out => (ws, ds, out)
  | n + 1, ws, ds, out => match ws[lst ws]? with
    | none => (ws, ds, out)
    | some w => if w.f then drain n (ws.eraseIdx (lst ws)) (ds ++ [stp w]) (out ++ [w.m]) else (ws, ds, out)
/-- a command would be assigned -/
def asg (s : Sk) (g : Int) (c : Cm) : Prop := c.k = 1 ∧ wat s.ws c.m.id = s.ws.length ∧ doneF s.ds c.m.id = false ∧ g ∈ c.m.gs
instance (s : Sk) (g : Int) (c : Cm) : Decidable (asg s g c) := by unfold asg; infer_instance
def full (s : Sk) : Prop := s.c = 1073741824 ∨ s.ws.length = 200
instance (s : Sk) : Decidable (full s) := by unfold full; infer_instance
/-- what waits behind an assign -/
def pre (s : Sk) (g : Int) (c : Cm) : Sk := if asg s g c then ⟨s.c + 1, ins s.ws ⟨c.m, s.c + 1, false⟩, s.ds⟩ else s
/-- and behind a final -/
def fnl (s : Sk) (c : Cm) : Sk := match s.ws[wat s.ws c.id]? with
  | none => s
  | some w => if c.k = 2 ∧ w.f = false ∧ w.t ≤ c.tm then ⟨max s.c c.tm, s.ws.set (wat s.ws c.id) ⟨w.m, c.tm, true⟩, s.ds⟩ else s
def putF (s : Sk) (g : Int) (c : Cm) : Sk × List Mg × Bool :=
  if asg s g c ∧ full s then (s, [], false) else
    ((⟨(fnl (pre s g c) c).c, (drain (fnl (pre s g c) c).ws.length (fnl (pre s g c) c).ws (fnl (pre s g c) c).ds []).1, (drain (fnl (pre s g c) c).ws.length (fnl (pre s g c) c).ws (fnl (pre s g c) c).ds []).2.1⟩,
      (drain (fnl (pre s g c) c).ws.length (fnl (pre s g c) c).ws (fnl (pre s g c) c).ds []).2.2, decide ((drain (fnl (pre s g c) c).ws.length (fnl (pre s g c) c).ws (fnl (pre s g c) c).ds []).2.1.length ≤ 200)))
def applyF (s : Sk) (g : Int) (c : Cm) : Sk × List Mg × Int :=
  if ¬ may s then (zero, [], 8) else if ¬ (0 ≤ g ∧ g < 4) then (zero, [], 2) else if ¬ CM.may c then (zero, [], 120) else
    if (putF s g c).2.2 = true then ((putF s g c).1, (putF s g c).2.1, 0) else (zero, [], 9)
def localF (s : Sk) (id : Int) : Int × Bool × Int :=
  if ¬ may s then (0, false, 8) else match s.ws[wat s.ws id]? with
    | none => (0, false, 6)
    | some w => (w.t, w.f, 0)
end Go.Proofs.YtnpgjcapekopnaaGreat.KM
