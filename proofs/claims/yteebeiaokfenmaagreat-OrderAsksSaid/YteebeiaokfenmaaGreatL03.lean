/- Contracts of functions, L03: each as its theorem says. -/
import Derived.Test.YteebeiaokfenmaaGreatL02
import Derived.Deep.AppendSrc
import Derived.RegionTactic
import Derived.OwnWalk
import Derived.Outline
set_option linter.unusedVariables false
set_option linter.unusedSimpArgs false
set_option maxRecDepth 100000
set_option maxHeartbeats 16000000
namespace Go.Proofs.YteebeiaokfenmaaGreat
namespace KM
open CM (Mg Cm)
open TM (Sp less ok Up rises)
structure Wt where
 m : Mg
 t : Int
 f : Bool
 deriving DecidableEq
structure Sk where
 c : Int
 ws : List Wt
 ds : List Sp
 deriving DecidableEq
instance : Inhabited Wt := ⟨⟨CM.mz, 0, false⟩⟩
def zero : Sk := ⟨0, [], []⟩
def stp (w : Wt) : Sp := ⟨w.t, w.m.id⟩
theorem less_neg {a b c : Sp} (h1 : less b a = false) (h2 : less c b = false) : less c a = false := by
 simp only [less, decide_eq_false_iff_not] at *
 unfold TM.lt at *
 omega
theorem less_asymm {a b : Sp} (h : less a b = true) : less b a = false := by
 simp only [less, decide_eq_false_iff_not, decide_eq_true_eq] at *
 unfold TM.lt at *
 omega
def LeastAt (l : List Wt) (k : Nat) : Prop :=
 ∃ a, l[k]? = some a ∧ (∀ (j : Nat) (b : Wt), l[j]? = some b → less (stp b) (stp a) = false) ∧ ∀ (j : Nat) (b : Wt), j < k → l[j]? = some b → less (stp a) (stp b) = true
theorem LeastAt.unique {l : List Wt} {k k' : Nat} (h : LeastAt l k) (h' : LeastAt l k') : k = k' := by
 obtain ⟨a, ha, h1, h2⟩ := h
 obtain ⟨b, hb, g1, g2⟩ := h'
 rcases Nat.lt_trichotomy k k' with hk | hk | hk
 ·have x := g2 k a hk ha
  rw [h1 k' b hb] at x; cases x
 ·exact hk
 ·have x := h2 k' b hk hb
  rw [g1 k a ha] at x; cases x
def lst : List Wt → Nat
 | [] => 0
 | a :: r => match r[lst r]? with
  | none => 0
  | some b => if less (stp b) (stp a) then lst r + 1 else 0
theorem lst_least : ∀ l : List Wt, l ≠ [] → LeastAt l (lst l)
 | [], h => absurd rfl h
 | [a], _ => ⟨a, rfl, fun j b hj => by
   rcases j with _ | j
   ·simp at hj; subst hj; exact TM.less_irrefl _
   ·simp at hj, fun j b hj => by simp [lst] at hj⟩
 | a :: c :: r, _ => by
  obtain ⟨b, hb, h1, h2⟩ := lst_least (c :: r) (by simp)
  generalize hk : lst (c :: r) = k at hb h2
  have e : lst (a :: c :: r) = if less (stp b) (stp a) then k + 1 else 0 := by
   show (match (c :: r)[lst (c :: r)]? with | none => 0 | some b => if less (stp b) (stp a) then lst (c :: r) + 1 else 0) = _
   rw [hk, hb]
  rcases hl : less (stp b) (stp a) with _ | _
  ·rw [e, hl]
   refine ⟨a, rfl, fun j x hj => ?_, fun j x hj => absurd hj (by simp)⟩
   rcases j with _ | j
   ·simp at hj; subst hj; exact TM.less_irrefl _
   ·exact less_neg hl (h1 j x (by simpa using hj))
  ·rw [e, hl]
   refine ⟨b, by simpa using hb, fun j x hj => ?_, fun j x hjk hj => ?_⟩
   ·rcases j with _ | j
    ·simp at hj; subst hj; exact less_asymm hl
    ·exact h1 j x (by simpa using hj)
   ·rcases j with _ | j
    ·simp at hj; subst hj; exact hl
    ·exact h2 j x (by simp at hjk; omega) (by simpa using hj)
theorem lst_lt {l : List Wt} (h : l ≠ []) : lst l < l.length := by
 obtain ⟨a, ha, _⟩ := lst_least l h
 exact (List.getElem?_eq_some_iff.1 ha).1
theorem lst_eq {l : List Wt} {k : Nat} (h : LeastAt l k) : lst l = k := by
 have hne : l ≠ [] := by rintro rfl; obtain ⟨a, ha, _⟩ := h; cases ha
 exact (lst_least l hne).unique h
def wat (l : List Wt) (id : Int) : Nat := l.findIdx fun w => w.m.id == id
def doneF (l : List Sp) (id : Int) : Bool := l.any fun x => x.i == id
theorem doneF_no {l : List Sp} {id : Int} : doneF l id = false ↔ ∀ x ∈ l, x.i ≠ id := by
 unfold doneF
 rw [List.any_eq_false]
 simp
theorem wat_le (l : List Wt) (id : Int) : wat l id ≤ l.length := List.findIdx_le_length
theorem wat_some {l : List Wt} {id : Int} (h : wat l id < l.length) : ∃ w, l[wat l id]? = some w ∧ w.m.id = id := by
 refine ⟨_, List.getElem?_eq_getElem h, ?_⟩
 have := List.findIdx_getElem (xs := l) (p := fun w : Wt => w.m.id == id) (w := h)
 exact beq_iff_eq.1 this
theorem wat_no {l : List Wt} {id : Int} : wat l id = l.length ↔ ∀ w ∈ l, w.m.id ≠ id := by
 unfold wat
 rw [List.findIdx_eq_length]
 simp
theorem wat_eq {l : List Wt} {id : Int} {k : Nat} {w : Wt} (hk : l[k]? = some w) (hw : w.m.id = id) (hno : ∀ j x, j < k → l[j]? = some x → x.m.id ≠ id) : wat l id = k := by
 have hlt := (List.getElem?_eq_some_iff.1 hk)
 obtain ⟨hl, he⟩ := hlt
 unfold wat
 rw [List.findIdx_eq hl]
 refine ⟨by simp [he, hw], fun j hj => ?_⟩
 have := hno j _ hj (List.getElem?_eq_getElem (by omega))
 simpa using this
def DoneOk (c : Int) (ds : List Sp) : Prop := (∀ x ∈ ds, ok x ∧ 1 ≤ x.t ∧ x.t ≤ c) ∧ rises ds = true ∧ (ds.map Sp.i).Nodup
def WaitOk (c : Int) (ds : List Sp) (ws : List Wt) : Prop :=
 (∀ w ∈ ws, CM.mgOk w.m ∧ (1 ≤ w.t ∧ w.t ≤ c) ∧ doneF ds w.m.id = false ∧ (ds.getLast?.all fun z => less z (stp w)) = true) ∧ ws.Pairwise fun a b => a.m.id < b.m.id
def HeadOk (ws : List Wt) : Prop := (ws[lst ws]?.all fun w => !w.f) = true
def SizeOk (s : Sk) : Prop := 0 ≤ s.c ∧ s.c ≤ 1073741824 ∧ s.ws.length ≤ 200 ∧ s.ds.length ≤ 200
def may (s : Sk) : Prop := SizeOk s ∧ DoneOk s.c s.ds ∧ WaitOk s.c s.ds s.ws ∧ HeadOk s.ws
instance (c : Int) (ds : List Sp) : Decidable (DoneOk c ds) := by unfold DoneOk; infer_instance
instance (c : Int) (ds : List Sp) (ws : List Wt) : Decidable (WaitOk c ds ws) := by unfold WaitOk; infer_instance
instance (ws : List Wt) : Decidable (HeadOk ws) := by unfold HeadOk; infer_instance
instance (s : Sk) : Decidable (SizeOk s) := by unfold SizeOk; infer_instance
instance (s : Sk) : Decidable (may s) := by unfold may; infer_instance
theorem headOk_iff {ws : List Wt} : HeadOk ws ↔ ∀ w, ws[lst ws]? = some w → w.f = false := by
 unfold HeadOk
 rcases ws[lst ws]? with _ | w <;> simp
theorem last_all {ds : List Sp} {p : Sp → Bool} : (ds.getLast?.all p) = true ↔ ∀ z, ds.getLast? = some z → p z = true := by
 rcases ds.getLast? with _ | z <;> simp
theorem up_snoc {l : List Sp} {x : Sp} : Up (l ++ [x]) ↔ Up l ∧ ∀ z, l.getLast? = some z → less z x = true := by
 constructor
 ·intro h
  refine ⟨fun k a b ha hb => h k a b ?_ ?_, fun z hz => ?_⟩
  ·rw [List.getElem?_append_left (List.getElem?_eq_some_iff.1 ha).1]; exact ha
  ·rw [List.getElem?_append_left (List.getElem?_eq_some_iff.1 hb).1]; exact hb
  ·rw [List.getLast?_eq_getElem?] at hz
   have hl := (List.getElem?_eq_some_iff.1 hz).1
   refine h (l.length - 1) z x (by rw [List.getElem?_append_left hl]; exact hz) ?_
   rw [show l.length - 1 + 1 = l.length by omega, List.getElem?_append_right n!]
   simp
 ·rintro ⟨h1, h2⟩ k a b ha hb
  have hbl := (List.getElem?_eq_some_iff.1 hb).1
  rw [List.length_append] at hbl
  simp at hbl
  rcases Nat.lt_or_ge (k + 1) l.length with hk | hk
  ·rw [List.getElem?_append_left (by omega)] at ha
   rw [List.getElem?_append_left hk] at hb
   exact h1 k a b ha hb
  ·have hk2 : k + 1 = l.length := by omega
   rw [List.getElem?_append_left (by omega)] at ha
   rw [hk2, List.getElem?_append_right n!] at hb
   simp at hb
   subst hb
   refine h2 a ?_
   rw [List.getLast?_eq_getElem?, show l.length - 1 = k by omega]
   exact ha
theorem doneOk_snoc {c : Int} {l : List Sp} {x : Sp} : DoneOk c (l ++ [x]) ↔ DoneOk c l ∧ (ok x ∧ 1 ≤ x.t ∧ x.t ≤ c) ∧ (∀ z, l.getLast? = some z → less z x = true) ∧ ∀ y ∈ l, y.i ≠ x.i := by
 unfold DoneOk
 rw [TM.rises_iff, TM.rises_iff, up_snoc, List.map_append, List.nodup_append]
 simp only [List.mem_append, List.mem_singleton, List.map_cons, List.map_nil, List.mem_map]
 constructor
 ·rintro ⟨h1, ⟨h2, h3⟩, h4, _, h5⟩
  exact ⟨⟨fun y hy => h1 y (.inl hy), h2, h4⟩, h1 x (.inr rfl), h3, fun y hy => h5 _ ⟨y, hy, rfl⟩ _ rfl⟩
 ·rintro ⟨⟨h1, h2, h4⟩, h6, h3, h5⟩
  refine ⟨fun y hy => ?_, ⟨h2, h3⟩, h4, by simp, ?_⟩
  ·rcases hy with hy | rfl
   ·exact h1 y hy
   ·exact h6
  ·rintro _ ⟨y, hy, rfl⟩ _ rfl
   exact h5 y hy
def ins (l : List Wt) (w : Wt) : List Wt := l.filter (fun x => decide (x.m.id < w.m.id)) ++ [w] ++ l.filter (fun x => decide (w.m.id < x.m.id))
def drain : Nat → List Wt → List Sp → List Mg → List Wt × List Sp × List Mg
 | 0, ws, ds, out => (ws, ds, out)
 | n + 1, ws, ds, out => match ws[lst ws]? with
  | none => (ws, ds, out)
  | some w => if w.f then drain n (ws.eraseIdx (lst ws)) (ds ++ [stp w]) (out ++ [w.m]) else (ws, ds, out)
def asg (s : Sk) (g : Int) (c : Cm) : Prop := c.k = 1 ∧ wat s.ws c.m.id = s.ws.length ∧ doneF s.ds c.m.id = false ∧ g ∈ c.m.gs
instance (s : Sk) (g : Int) (c : Cm) : Decidable (asg s g c) := by unfold asg; infer_instance
def full (s : Sk) : Prop := s.c = 1073741824 ∨ s.ws.length = 200
instance (s : Sk) : Decidable (full s) := by unfold full; infer_instance
def pre (s : Sk) (g : Int) (c : Cm) : Sk := if asg s g c then ⟨s.c + 1, ins s.ws ⟨c.m, s.c + 1, false⟩, s.ds⟩ else s
def fnl (s : Sk) (c : Cm) : Sk := match s.ws[wat s.ws c.id]? with
 | none => s
 | some w => if c.k = 2 ∧ w.f = false ∧ w.t ≤ c.tm then ⟨max s.c c.tm, s.ws.set (wat s.ws c.id) ⟨w.m, c.tm, true⟩, s.ds⟩ else s
def putF (s : Sk) (g : Int) (c : Cm) : Sk × List Mg × Bool :=
 if asg s g c ∧ full s then (s, [], false) else
  ((⟨(fnl (pre s g c) c).c, (drain (fnl (pre s g c) c).ws.length (fnl (pre s g c) c).ws (fnl (pre s g c) c).ds []).1, (drain (fnl (pre s g c) c).ws.length (fnl (pre s g c) c).ws (fnl (pre s g c) c).ds []).2.1⟩,
   (drain (fnl (pre s g c) c).ws.length (fnl (pre s g c) c).ws (fnl (pre s g c) c).ds []).2.2, decide ((drain (fnl (pre s g c) c).ws.length (fnl (pre s g c) c).ws (fnl (pre s g c) c).ds []).2.1.length ≤ 200)))
def applyF (s : Sk) (g : Int) (c : Cm) : Sk × List Mg × Int :=
 if ¬ may s then (zero, [], 8) else if ¬ (0 ≤ g ∧ g < 4) then (zero, [], 2) else if ¬ CM.may c then (zero, [], 120) else
  if (putF s g c).2.2 = true then ((putF s g c).1, (putF s g c).2.1, 0) else (zero, [], 9)
end KM
namespace LM
open CM (Cm)
def cm (s : ByteArray) : Cm := (CM.readF (RM.bsz s)).1
def er (s : ByteArray) : Int := (CM.readF (RM.bsz s)).2
theorem read_is (s : ByteArray) : CM.ReadIs (RM.bsz s) (cm s) (er s) := CM.readIs_read _
theorem er_cases (s : ByteArray) : er s = 0 ∨ er s = 3 ∨ er s = 8 := by
 rcases read_is s with ⟨h, _⟩ | ⟨h, _⟩ | ⟨h, _⟩
 ·exact .inl h
 ·exact .inr (.inl h)
 ·exact .inr (.inr h)
theorem cm_may {s : ByteArray} (h : er s = 0) : CM.may (cm s) ∧ CM.wr (cm s) = RM.bsz s := by
 rcases read_is s with ⟨_, h1, h2⟩ | ⟨h1, _⟩ | ⟨h1, _⟩
 ·exact ⟨h1, h2⟩
 ·rw [h1] at h; exact absurd h (by decide)
 ·rw [h1] at h; exact absurd h (by decide)
def chkF : List ByteArray → Int
 | [] => 0
 | s :: l => if er s = 0 then chkF l else 8
def chk (l : List ByteArray) : Int := if 200 < l.length then 4 else chkF l
theorem chkF_zero : ∀ {l : List ByteArray}, chkF l = 0 ↔ ∀ s ∈ l, er s = 0
 | [] => by simp [chkF]
 | s :: l => by
  unfold chkF
  by_cases h : er s = 0
  ·rw [if_pos h, chkF_zero]; simp [h]
  ·rw [if_neg h]; simp [h]
theorem chk_zero {l : List ByteArray} : chk l = 0 ↔ l.length ≤ 200 ∧ ∀ s ∈ l, er s = 0 := by
 unfold chk
 by_cases h : 200 < l.length
 ·rw [if_pos h]; simp; omega
 ·rw [if_neg h, chkF_zero]; constructor
  ·exact fun k => ⟨by omega, k⟩
  ·exact fun k => k.2
def cmds (l : List ByteArray) : List Cm := l.map cm
end LM
section
open Go.RowKit
theorem below_put {B g : Nat} {a w : World} (h : Below B a w) (hg : B ≤ g) (x y : Value) : Below B a ((w.setCell ⟨g, 0, none⟩ x).setCell ⟨g, 1, none⟩ y) :=
 (h.setCell (p := ⟨g, 0, none⟩) hg x).setCell (p := ⟨g, 1, none⟩) hg y
def Box (w : World) (g : Nat) (t : TypeId) (cs : Array Value) : Prop := w.heap[g]? = some (.cells cs t (0, 0))
section
variable {w w' : World} {g : Nat} {t : TypeId} {cs : Array Value}
theorem Box.lt (h : Box w g t cs) : g < w.heap.size := by
 rcases Nat.lt_or_ge g w.heap.size with hlt | hge
 ·exact hlt
 ·rw [Box, Array.getElem?_eq_none hge] at h; cases h
theorem Box.cell (h : Box w g t cs) (i : Nat) : w.cell? ⟨g, i, none⟩ = cs[i]? := cell_of_row w g i cs t (0, 0) h
theorem Box.frozen (h : Box w g t cs) (i : Nat) : w.frozen? ⟨g, i, none⟩ = false := frozen_of_row w g i cs t h
theorem Box.new (w : World) (t : TypeId) (cs : Array Value) : Box (w.alloc (.cells cs t)) w.heap.size t cs := heap_alloc_new w _
theorem Box.new_at {w : World} {t : TypeId} {cs : Array Value} (g : Nat) (h : w.heap.size = g) : Box (w.alloc (.cells cs t)) g t cs := by subst h; exact Box.new w t cs
theorem Box.alloc (h : Box w g t cs) (o : Obj) : Box (w.alloc o) g t cs := (Below.heap_alloc w o g h.lt).trans h
theorem Box.below {B : Nat} (h : Box w g t cs) (hb : Below B w w') (hg : g < B) : Box w' g t cs := (hb.block g hg).trans h
theorem Box.stored (h : Box w g t cs) (i : Nat) (u : Value) : Box (w.setCell ⟨g, i, none⟩ u) g t (cs.setIfInBounds i u) := heap_setCell_same w g i cs t u h
theorem Box.far (h : Box w g t cs) {p : Addr} (hp : g ≠ p.block) (u : Value) : Box (w.setCell p u) g t cs := (Below.heap_setCell w p u g hp).trans h
end
theorem rd_box {w : World} {g n : Nat} {t : TypeId} {cs : Array Value} {xs : List Value} (h : Box w g t cs) (hx : cs.toList = xs) (hn : xs.length = n) : Rd w (some ⟨g, 0, none⟩) n xs := by
 refine ⟨hn, fun _ => ⟨_, rfl, h.lt, fun j u hu => ?_⟩⟩
 have : (⟨g, 0, none⟩ : Addr).add j = ⟨g, j, none⟩ := by unfold Addr.add; split <;> simp_all
 rw [this, h.cell j, ← hu, ← hx]
 simp
theorem Box.put {w : World} {g : Nat} {t : TypeId} {a b : Value} (h : Box w g t #[a, b]) (x y : Value) : Box ((w.setCell ⟨g, 0, none⟩ x).setCell ⟨g, 1, none⟩ y) g t #[x, y] := by
 have := (h.stored 0 x).stored 1 y
 simpa using this
theorem below_put3 {B g : Nat} {a w : World} (h : Below B a w) (hg : B ≤ g) (x y z : Value) : Below B a (((w.setCell ⟨g, 0, none⟩ x).setCell ⟨g, 1, none⟩ y).setCell ⟨g, 2, none⟩ z) := ((h.setCell (p := ⟨g, 0, none⟩) hg x).setCell (p := ⟨g, 1, none⟩) hg y).setCell (p := ⟨g, 2, none⟩) hg z
theorem Box.put3 {w : World} {g : Nat} {t : TypeId} {a b c : Value} (h : Box w g t #[a, b, c]) (x y z : Value) : Box (((w.setCell ⟨g, 0, none⟩ x).setCell ⟨g, 1, none⟩ y).setCell ⟨g, 2, none⟩ z) g t #[x, y, z] := by
 have := ((h.stored 0 x).stored 1 y).stored 2 z
 simpa using this
theorem Box.putFar3 {w : World} {g g' : Nat} {t : TypeId} {cs : Array Value} (h : Box w g t cs) (hg : g ≠ g') (x y z : Value) : Box (((w.setCell ⟨g', 0, none⟩ x).setCell ⟨g', 1, none⟩ y).setCell ⟨g', 2, none⟩ z) g t cs :=
 ((h.far (p := ⟨g', 0, none⟩) hg x).far (p := ⟨g', 1, none⟩) hg y).far (p := ⟨g', 2, none⟩) hg z
theorem Box.three {w : World} {g : Nat} {t : TypeId} {a b c : Value} (h : Box w g t #[a, b, c]) :
  w.cell? ⟨g, 0, none⟩ = some a ∧ w.cell? ⟨g, 1, none⟩ = some b ∧ w.cell? ⟨g, 2, none⟩ = some c ∧ w.frozen? ⟨g, 0, none⟩ = false ∧ w.frozen? ⟨g, 1, none⟩ = false ∧ w.frozen? ⟨g, 2, none⟩ = false :=
 ⟨h.cell 0, h.cell 1, h.cell 2, h.frozen 0, h.frozen 1, h.frozen 2⟩
end
namespace KM
open CM (Mg Cm)
open TM (Sp less ok Up rises)
def Half (s : Sk) : Prop := 0 ≤ s.c ∧ s.c ≤ 1073741824 ∧ DoneOk s.c s.ds ∧ WaitOk s.c s.ds s.ws
theorem may_half {s : Sk} (h : may s) : Half s := ⟨h.1.1, h.1.2.1, h.2.1, h.2.2.1⟩
theorem doneOk_mono {c c' : Int} {ds : List Sp} (h : DoneOk c ds) (hc : c ≤ c') : DoneOk c' ds := ⟨fun x hx => ⟨(h.1 x hx).1, (h.1 x hx).2.1, Int.le_trans (h.1 x hx).2.2 hc⟩, h.2⟩
theorem waitOk_mono {c c' : Int} {ds : List Sp} {ws : List Wt} (h : WaitOk c ds ws) (hc : c ≤ c') : WaitOk c' ds ws :=
 ⟨fun w hw => ⟨(h.1 w hw).1, ⟨(h.1 w hw).2.1.1, Int.le_trans (h.1 w hw).2.1.2 hc⟩, (h.1 w hw).2.2⟩, h.2⟩
theorem ids_ne {l : List Wt} (h : l.Pairwise fun a b => a.m.id < b.m.id) {i j : Nat} {a b : Wt} (ha : l[i]? = some a) (hb : l[j]? = some b) (hij : i ≠ j) : a.m.id ≠ b.m.id := by
 obtain ⟨h1, rfl⟩ := List.getElem?_eq_some_iff.1 ha
 obtain ⟨h2, rfl⟩ := List.getElem?_eq_some_iff.1 hb
 rw [List.pairwise_iff_getElem] at h
 rcases Nat.lt_or_gt_of_ne hij with k | k
 ·have := h i j h1 h2 k; omega
 ·have := h j i h2 h1 k; omega
theorem mem_erase {l : List Wt} {k : Nat} {b : Wt} (h : b ∈ l.eraseIdx k) : ∃ j, j ≠ k ∧ l[j]? = some b := by
 obtain ⟨i, hi⟩ := List.getElem?_of_mem h
 rw [List.getElem?_eraseIdx] at hi
 split at hi
 ·exact ⟨i, by omega, hi⟩
 ·exact ⟨i + 1, by omega, hi⟩
theorem half_drop {c : Int} {ds : List Sp} {ws : List Wt} {w : Wt} (hc : c ≤ 1073741824) (hd : DoneOk c ds) (hw : WaitOk c ds ws) (hk : ws[lst ws]? = some w) :
  DoneOk c (ds ++ [stp w]) ∧ WaitOk c (ds ++ [stp w]) (ws.eraseIdx (lst ws)) := by
 have hne : ws ≠ [] := by rintro rfl; cases hk
 obtain ⟨a, ha, h1, h2⟩ := lst_least ws hne
 rw [hk] at ha
 injection ha with ha
 subst ha
 have hmem := List.mem_of_getElem? hk
 obtain ⟨g1, g2, g3, g4⟩ := hw.1 w hmem
 refine ⟨doneOk_snoc.2 ⟨hd, ⟨⟨by show 0 ≤ w.t; omega, by show w.t ≤ _; omega, g1.1.1, g1.1.2⟩, g2⟩, last_all.1 g4, doneF_no.1 g3⟩, fun b hb => ?_, hw.2.sublist (List.eraseIdx_sublist _ _)⟩
 obtain ⟨j, hj, hbj⟩ := mem_erase hb
 obtain ⟨e1, e2, e3, _⟩ := hw.1 b (List.mem_of_getElem? hbj)
 have hid := ids_ne hw.2 hbj hk hj
 refine ⟨e1, e2, doneF_no.2 fun x hx => ?_, last_all.2 fun z hz => ?_⟩
 ·rcases List.mem_append.1 hx with hx | hx
  ·exact doneF_no.1 e3 x hx
  ·simp at hx; subst hx; exact fun h => hid h.symm
 ·simp at hz
  subst hz
  have := h1 j b hbj
  have hsw := TM.less_swap (a := stp w) (b := stp b) (fun e => hid (by have := congrArg Sp.i e; exact this.symm))
  rw [this] at hsw
  rcases hl : less (stp w) (stp b) with _ | _
  ·rw [hl] at hsw; cases hsw
  ·rfl
theorem drain_is : ∀ (n : Nat) (c : Int) (ws : List Wt) (ds : List Sp) (out : List Mg), c ≤ 1073741824 → DoneOk c ds → WaitOk c ds ws → ws.length ≤ n →
  ∃ (gone : List Wt), (∀ w ∈ gone, w ∈ ws ∧ w.f = true) ∧ (drain n ws ds out).2.1 = ds ++ gone.map stp ∧ (drain n ws ds out).2.2 = out ++ gone.map Wt.m ∧
   DoneOk c (drain n ws ds out).2.1 ∧ WaitOk c (drain n ws ds out).2.1 (drain n ws ds out).1 ∧ HeadOk (drain n ws ds out).1 ∧ (drain n ws ds out).1.length + gone.length = ws.length ∧ (∀ w, w ∈ (drain n ws ds out).1 → w ∈ ws) ∧ ∀ w ∈ ws, w.f = false → w ∈ (drain n ws ds out).1
 | 0, c, ws, ds, out, hc, hd, hw, hl => by
  obtain rfl := List.length_eq_zero_iff.1 (Nat.le_zero.1 hl)
  exact ⟨[], fun _ h => by simp at h, by simp [drain], by simp [drain], hd, hw, by simp [drain, HeadOk], rfl, fun _ h => h, fun _ h => by simp at h⟩
 | n + 1, c, ws, ds, out, hc, hd, hw, hl => by
  rcases hk : ws[lst ws]? with _ | w
  ·have hnil : ws = [] := by
    rcases ws with _ | ⟨a, r⟩
    ·rfl
    ·have := lst_lt (l := a :: r) (by simp)
     rw [List.getElem?_eq_getElem this] at hk; cases hk
   subst hnil
   exact ⟨[], fun _ h => by simp at h, by simp [drain], by simp [drain], hd, hw, by simp [drain, HeadOk], rfl, fun _ h => h, fun _ h => by simp at h⟩
  ·have hlt := (List.getElem?_eq_some_iff.1 hk).1
   rcases hf : w.f with _ | _
   ·have e : drain (n + 1) ws ds out = (ws, ds, out) := by simp [drain, hk, hf]
    rw [e]
    exact ⟨[], fun _ h => by simp at h, by simp, by simp, hd, hw, headOk_iff.2 fun x hx => by rw [hk] at hx; injection hx with hx; subst hx; exact hf, by simp, fun _ h => h, fun _ h _ => h⟩
   ·have e : drain (n + 1) ws ds out = drain n (ws.eraseIdx (lst ws)) (ds ++ [stp w]) (out ++ [w.m]) := by simp [drain, hk, hf]
    obtain ⟨hd2, hw2⟩ := half_drop hc hd hw hk
    have hlen : (ws.eraseIdx (lst ws)).length + 1 = ws.length := by rw [List.length_eraseIdx]; split <;> omega
    obtain ⟨gone, h1, h2, h3, h4, h5, h6, h7, h8, h9⟩ := drain_is n c (ws.eraseIdx (lst ws)) (ds ++ [stp w]) (out ++ [w.m]) hc hd2 hw2 (by omega)
    have hin : ∀ x, x ∈ ws.eraseIdx (lst ws) → x ∈ ws := fun x hx => (List.eraseIdx_sublist _ _).subset hx
    rw [e]
    refine ⟨w :: gone, fun x hx => ?_, by rw [h2]; simp, by rw [h3]; simp, h4, h5, h6, by rw [List.length_cons]; omega, fun x hx => hin x (h8 x hx), fun x hx hxf => ?_⟩
    ·rcases List.mem_cons.1 hx with rfl | hx
     ·exact ⟨List.mem_of_getElem? hk, hf⟩
     ·exact ⟨hin x (h1 x hx).1, (h1 x hx).2⟩
    ·refine h9 x ?_ hxf
     obtain ⟨j, hj⟩ := List.getElem?_of_mem hx
     have hjk : j ≠ lst ws := by
      rintro rfl
      rw [hk] at hj; injection hj with hj; subst hj; rw [hf] at hxf; cases hxf
     refine List.mem_eraseIdx_iff_getElem?.2 ⟨j, hjk, hj⟩
theorem mem_ins {l : List Wt} {w x : Wt} (hne : ∀ y ∈ l, y.m.id ≠ w.m.id) : x ∈ ins l w ↔ x = w ∨ x ∈ l := by
 unfold ins
 simp only [List.mem_append, List.mem_filter, List.mem_singleton, decide_eq_true_eq]
 constructor
 ·rintro ((⟨h, _⟩ | h) | ⟨h, _⟩)
  ·exact .inr h
  ·exact .inl h
  ·exact .inr h
 ·rintro (h | h)
  ·exact .inl (.inr h)
  ·have := hne x h
   rcases Int.lt_or_gt_of_ne this with k | k
   ·exact .inl (.inl ⟨h, k⟩)
   ·exact .inr ⟨h, k⟩
theorem ins_len : ∀ {l : List Wt} {w : Wt}, (∀ y ∈ l, y.m.id ≠ w.m.id) → (ins l w).length = l.length + 1
 | [], w, _ => rfl
 | a :: l, w, hne => by
  have ih := ins_len (l := l) (w := w) fun y hy => hne y (List.mem_cons_of_mem _ hy)
  have ha := hne a (List.mem_cons_self ..)
  unfold ins at ih ⊢
  simp only [List.length_append, List.length_singleton] at ih
  rcases Int.lt_or_gt_of_ne ha with k | k
  ·have k2 : ¬ w.m.id < a.m.id := by omega
   simp only [List.filter_cons, k, k2, decide_true, decide_false, if_true, List.length_append, List.length_cons, List.length_nil]
   simp only [Bool.false_eq_true, if_false]
   omega
  ·have k2 : ¬ a.m.id < w.m.id := by omega
   have k3 : w.m.id < a.m.id := k
   simp only [List.filter_cons, k3, k2, decide_true, decide_false, if_true, List.length_append, List.length_cons, List.length_nil]
   simp only [Bool.false_eq_true, if_false]
   omega
theorem half_ins {s : Sk} {m : Mg} (h : Half s) (hm : CM.mgOk m) (hw : ∀ y ∈ s.ws, y.m.id ≠ m.id) (hd : doneF s.ds m.id = false) (hc : s.c ≠ 1073741824) : Half ⟨s.c + 1, ins s.ws ⟨m, s.c + 1, false⟩, s.ds⟩ := by
 obtain ⟨h0, h1, h2, h3⟩ := h
 refine ⟨by show 0 ≤ s.c + 1; omega, by show s.c + 1 ≤ _; omega, doneOk_mono h2 (by show s.c ≤ s.c + 1; omega), fun x hx => ?_, ?_⟩
 ·rcases (mem_ins (w := ⟨m, s.c + 1, false⟩) hw).1 hx with rfl | hx
  ·refine ⟨hm, ⟨by show 1 ≤ s.c + 1; omega, Int.le_refl _⟩, hd, last_all.2 fun z hz => ?_⟩
   have := (h2.1 z (List.mem_of_getLast? hz)).2.2
   simp only [less, decide_eq_true_eq]
   exact .inl (by show z.t < s.c + 1; omega)
  ·have := (waitOk_mono h3 (show s.c ≤ s.c + 1 by omega)).1 x hx
   exact this
 ·unfold ins
  rw [List.pairwise_append, List.pairwise_append]
  refine ⟨⟨h3.2.filter _, by simp, fun a ha b hb => ?_⟩, h3.2.filter _, fun a ha b hb => ?_⟩
  ·simp at ha hb; subst hb; exact ha.2
  ·simp at ha hb
   rcases ha with ha | rfl
   ·omega
   ·exact hb.2
theorem half_pre {s : Sk} {g : Int} {c : Cm} (h : Half s) (hc : CM.may c) (hf : ¬ (asg s g c ∧ full s)) : Half (pre s g c) := by
 unfold pre
 split
 ·rename_i ha
  have hf2 : ¬ full s := fun k => hf ⟨ha, k⟩
  obtain ⟨h1, h2, h3, _⟩ := ha
  have hm : CM.mgOk c.m := by
   rcases hc with rfl | k | k | k | k | k
   ·cases h1
   ·exact k.2.1
   all_goals (have := k.1; omega)
  exact half_ins h hm (wat_no.1 h2) h3 (fun k => hf2 (.inl k))
 ·exact h
theorem half_fnl {s : Sk} {c : Cm} (h : Half s) (hc : CM.may c) : Half (fnl s c) := by
 obtain ⟨h0, h1, h2, h3⟩ := h
 unfold fnl
 rcases hk : s.ws[wat s.ws c.id]? with _ | w
 ·exact ⟨h0, h1, h2, h3⟩
 ·simp only
  split
  ·rename_i ha
   obtain ⟨ka, kf, kt⟩ := ha
   have ht : c.tm ≤ 1073741824 := by
    rcases hc with rfl | k | k | k | k | k
    ·cases ka
    all_goals first | (have := k.1; omega) | exact k.2.2.2.1.2
   have hmx : s.c ≤ max s.c c.tm := Int.le_max_left ..
   have hmy : c.tm ≤ max s.c c.tm := Int.le_max_right ..
   have hkl := (List.getElem?_eq_some_iff.1 hk).1
   have hwm := (waitOk_mono h3 hmx).1 w (List.mem_of_getElem? hk)
   refine ⟨by show 0 ≤ max s.c c.tm; omega, by show max s.c c.tm ≤ _; omega, doneOk_mono h2 hmx, fun x hx => ?_, ?_⟩
   ·rcases List.mem_or_eq_of_mem_set hx with hx | rfl
    ·exact (waitOk_mono h3 hmx).1 x hx
    ·refine ⟨hwm.1, ⟨by show 1 ≤ c.tm; have := hwm.2.1.1; omega, hmy⟩, hwm.2.2.1, last_all.2 fun z hz => ?_⟩
     have hz2 := last_all.1 hwm.2.2.2 z hz
     simp only [less, decide_eq_true_eq] at hz2 ⊢
     unfold TM.lt at hz2 ⊢
     simp only [stp] at hz2 ⊢
     omega
   ·have := h3.2
    rw [List.pairwise_iff_getElem] at this ⊢
    obtain ⟨_, hwe⟩ := List.getElem?_eq_some_iff.1 hk
    have key : ∀ i (hi : i < (s.ws.set (wat s.ws c.id) ⟨w.m, c.tm, true⟩).length), ((s.ws.set (wat s.ws c.id) ⟨w.m, c.tm, true⟩)[i]).m = (s.ws[i]'(by simpa using hi)).m := fun i hi => by
     rw [List.getElem_set]
     split
     ·rename_i e; subst e; rw [hwe]
     ·rfl
    intro i j hi hj hij
    have := this i j (by simpa using hi) (by simpa using hj) hij
    rw [key i hi, key j hj]
    exact this
  ·exact ⟨h0, h1, h2, h3⟩
theorem pre_c {s : Sk} {g : Int} {c : Cm} : s.c ≤ (pre s g c).c ∧ (pre s g c).ds = s.ds := by
 unfold pre
 split
 ·exact ⟨by show s.c ≤ s.c + 1; omega, rfl⟩
 ·exact ⟨Int.le_refl _, rfl⟩
theorem fnl_c {s : Sk} {c : Cm} : s.c ≤ (fnl s c).c ∧ (fnl s c).ds = s.ds := by
 unfold fnl
 rcases s.ws[wat s.ws c.id]? with _ | w
 ·exact ⟨Int.le_refl _, rfl⟩
 ·simp only
  split
  ·exact ⟨Int.le_max_left .., rfl⟩
  ·exact ⟨Int.le_refl _, rfl⟩
theorem pre_len {s : Sk} {g : Int} {c : Cm} : (pre s g c).ws.length = s.ws.length ∨ (asg s g c ∧ (pre s g c).ws.length = s.ws.length + 1) := by
 unfold pre
 split
 ·rename_i h; exact .inr ⟨h, ins_len (wat_no.1 h.2.1)⟩
 ·exact .inl rfl
theorem fnl_len {s : Sk} {c : Cm} : (fnl s c).ws.length = s.ws.length := by
 unfold fnl
 rcases s.ws[wat s.ws c.id]? with _ | w
 ·rfl
 ·simp only
  split
  ·simp
  ·rfl
def From (s : Sk) (g : Int) (c : Cm) (w : Wt) : Prop := w ∈ s.ws ∨ (c.k = 1 ∧ w.m = c.m ∧ g ∈ c.m.gs ∧ w.f = false) ∨ (c.k = 2 ∧ w.m.id = c.id ∧ w.t = c.tm ∧ w.f = true ∧ ∃ x ∈ s.ws, x.m = w.m)
theorem mem_fnl_pre {s : Sk} {g : Int} {c : Cm} {w : Wt} (h : w ∈ (fnl (pre s g c) c).ws) : From s g c w := by
 unfold fnl at h
 rcases hk : (pre s g c).ws[wat (pre s g c).ws c.id]? with _ | x
 ·rw [hk] at h
  simp only at h
  unfold pre at h
  split at h
  ·rename_i ha
   rcases (mem_ins (w := ⟨c.m, s.c + 1, false⟩) (wat_no.1 ha.2.1)).1 h with rfl | h
   ·exact .inr (.inl ⟨ha.1, rfl, ha.2.2.2, rfl⟩)
   ·exact .inl h
  ·exact .inl h
 ·rw [hk] at h
  simp only at h
  by_cases h2 : c.k = 2
  ·have hp : pre s g c = s := by
    unfold pre
    rw [if_neg (fun k => by have := k.1; omega)]
   rw [hp] at h hk
   split at h
   ·rename_i ha
    rcases List.mem_or_eq_of_mem_set h with h | rfl
    ·exact .inl h
    ·have hx := wat_some (l := s.ws) (id := c.id) (List.getElem?_eq_some_iff.1 hk).1
     obtain ⟨y, hy, hyi⟩ := hx
     rw [hk] at hy; injection hy with hy; subst hy
     exact .inr (.inr ⟨h2, hyi, rfl, rfl, x, List.mem_of_getElem? hk, rfl⟩)
   ·exact .inl h
  ·rw [if_neg (fun k => h2 k.1)] at h
   unfold pre at h
   split at h
   ·rename_i ha
    rcases (mem_ins (w := ⟨c.m, s.c + 1, false⟩) (wat_no.1 ha.2.1)).1 h with rfl | h
    ·exact .inr (.inl ⟨ha.1, rfl, ha.2.2.2, rfl⟩)
    ·exact .inl h
   ·exact .inl h
theorem apply_ok {s : Sk} {g : Int} {c : Cm} (h : (applyF s g c).2.2 = 0) :
  may s ∧ may (applyF s g c).1 ∧ s.c ≤ (applyF s g c).1.c ∧ ∃ gone : List Wt, (applyF s g c).1.ds = s.ds ++ gone.map stp ∧ (applyF s g c).2.1 = gone.map Wt.m ∧ (∀ w ∈ gone, w.f = true ∧ From s g c w) ∧ (∀ w ∈ (applyF s g c).1.ws, From s g c w) := by
 by_cases hm : may s
 rotate_left
 ·rw [applyF, if_pos hm] at h; exact absurd h (by decide)
 by_cases hg : 0 ≤ g ∧ g < 4
 rotate_left
 ·rw [applyF, if_neg (fun k => k hm), if_pos hg] at h; exact absurd h (by decide)
 by_cases hc : CM.may c
 rotate_left
 ·rw [applyF, if_neg (fun k => k hm), if_neg (fun k => k hg), if_pos hc] at h; exact absurd h (by decide)
 by_cases hp : (putF s g c).2.2 = true
 rotate_left
 ·rw [applyF, if_neg (fun k => k hm), if_neg (fun k => k hg), if_neg (fun k => k hc), if_neg hp] at h; exact absurd h (by decide)
 have e : applyF s g c = ((putF s g c).1, (putF s g c).2.1, 0) := by rw [applyF, if_neg (fun k => k hm), if_neg (fun k => k hg), if_neg (fun k => k hc), if_pos hp]
 rw [e]
 simp only
 by_cases hf : asg s g c ∧ full s
 ·rw [putF, if_pos hf] at hp; exact absurd hp (by simp)
 have hpre := half_pre (may_half hm) hc hf
 have hfnl := half_fnl hpre hc
 have hlen : (fnl (pre s g c) c).ws.length ≤ 200 := by
  rw [fnl_len]
  rcases pre_len (s := s) (g := g) (c := c) with k | ⟨k, k2⟩
  ·rw [k]; exact hm.1.2.2.1
  ·rw [k2]
   have := hm.1.2.2.1
   have : s.ws.length ≠ 200 := fun q => hf ⟨k, .inr q⟩
   omega
 have hds : (fnl (pre s g c) c).ds = s.ds := by rw [fnl_c.2, pre_c.2]
 have hcc : s.c ≤ (fnl (pre s g c) c).c := Int.le_trans pre_c.1 fnl_c.1
 rw [putF, if_neg hf] at hp ⊢
 simp only at hp ⊢
 have hmem : ∀ w ∈ (fnl (pre s g c) c).ws, From s g c w := fun w hw => mem_fnl_pre hw
 generalize fnl (pre s g c) c = p at *
 obtain ⟨h0, h1, h2, h3⟩ := hfnl
 obtain ⟨gone, g1, g2, g3, g4, g5, g6, g7, g8, g9⟩ := drain_is p.ws.length p.c p.ws p.ds [] h1 h2 h3 n!
 have hdl := of_decide_eq_true hp
 refine ⟨hm, ⟨⟨h0, h1, by show (drain p.ws.length p.ws p.ds []).1.length ≤ 200; omega, hdl⟩, g4, g5, g6⟩, hcc, gone, by rw [g2, hds], by rw [g3]; rfl, fun w hw => ⟨(g1 w hw).2, hmem w (g1 w hw).1⟩, fun w hw => hmem w (g8 w hw)⟩
end KM
section
open Go.RowKit
theorem ret_int {k : IntKind} {a b : Int} (h : a = b) : Ending.returned (.int k a) = .returned (.int k b) := by rw [h]
theorem ret_eq {a b : Bool} (h : a = b) : Ending.returned (.bool a) = .returned (.bool b) := by rw [h]
theorem info_u8 : (Tryz.prog.info? 5).map (fun i => (i.zero, i.size, i.bytes)) = some (some (.int .u8 0), 1, 1) := by kernel_rfl
theorem info_int : (Tryz.prog.info? 3).map (fun i => (i.zero, i.size, i.bytes)) = some (some (.int .i64 0), 1, 8) := by kernel_rfl
theorem appendNumber_any (base : Nat) (v : Value) (len : Nat) (xs : List Value) (n : Nat) (w : World) (hn : n ≤ 1099511627776) (hlen : len ≤ 1000000) (hown : w.ownsRow base 5 1 v len xs) (hbase : base ≤ w.heap.size) :
  Calls Tryz.prog 94 #[v, .int .i64 n] w fun e w' => ∃ v', e = .returned v' ∧ w'.ownsRow base 5 1 v' (len + (NM.enc n).length) (xs ++ bc (NM.enc n)) ∧ w.grownBy w' v.ownBlock ∧
   (v'.ownBlock = v.ownBlock ∨ ∀ g, v'.ownBlock = some g → w.heap.size ≤ g) := by
 obtain ⟨i0, hi, hz0, hz1, hz2⟩ := info_parts info_u8
 go_enter Tryz.func94, Tryz.ntmps94
 go_wp2
 go_loopw [0, 1] (fun u i wr => ∃ (f m : Nat) (pre : List UInt8), i = .int .i64 m ∧ f + pre.length = 5 ∧ m < 128 ^ (f + 1) ∧ m ≤ n ∧ pre ++ NM.encF f m = NM.enc n ∧ wr.ownsRow base 5 1 u (len + pre.length) (xs ++ bc pre) ∧
   w.grownBy wr v.ownBlock ∧ (u.ownBlock = v.ownBlock ∨ ∀ g, u.ownBlock = some g → w.heap.size ≤ g)) (fun _ i _ => (intOf i).toNat)
 case atStart => exact ⟨5, n, [], rfl, rfl, by omega, Nat.le_refl _, rfl, by simpa [bc] using hown, World.grownBy.refl _ _, .inl rfl⟩
 case round =>
  obtain ⟨f, m, pre, rfl, hf, hm, hmn, hpre, hown1, hg, hob⟩ := hrel
  have hml : m < 9223372036854775808 := by omega
  have hbsz : base ≤ wr.heap.size := Nat.le_trans hbase hg.size
  by_cases hlt : 127 < m
  ·have hf1 : 0 < f := by
    rcases Nat.eq_zero_or_pos f with h0 | h0
    ·subst h0; simp at hm; omega
    ·exact h0
   obtain ⟨f, rfl⟩ : ∃ g, f = g + 1 := ⟨f - 1, by omega⟩
   have hm2 : m / 128 < 128 ^ (f + 1) := by rw [Nat.pow_succ] at hm; omega
   have hpre2 : (pre ++ [UInt8.ofNat (m % 128 + 128)]) ++ NM.encF f (m / 128) = NM.enc n := by
    rw [← hpre, NM.encF, if_neg (by omega)]; simp
   have hb1 := NB.and127 m hml
   have hb2 := NB.or128 (m % 128) (by omega)
   obtain ⟨y, hy⟩ : ∃ y, y = m % 128 + 128 := ⟨_, rfl⟩
   obtain ⟨x, hx⟩ : ∃ x, x = m % 128 := ⟨_, rfl⟩
   rw [← hx] at hb1 hb2
   rw [← hx] at hy
   rw [← hy] at hb2
   have hb3 : (y : Int) % 256 = y := by omega
   have hby : (UInt8.ofNat y).toNat = y := NM.toNat_ofNat y (by omega)
   have HM := h! hm2; clear hm2
   have HP := h! hpre2; clear hpre2 hpre
   have HX := h! hx; clear hx
   have HY := h! hy; clear hy
   have HB := h! hby; clear hby
   have HF := h! hf; clear hf hm
   have HO := h! hob; clear hob
   go_wp2_with (at_builtin; refine wpList_append_rd _ rfl _ _ 120 rfl base 5 i0 (.int .u8 0) 1 Tryz.underlying120 hi hz0 hz1 hz2 rfl _ _ _ rfl (hown1.alloc _) (some ⟨wr.heap.size, 0, none⟩) 1 1 [.int .u8 (y : Int)] rfl (rd_new _ _ _) (by intro u hu; simp at hu; subst hu; rfl) (by have := HF.out; unfold maxLen; omega) (by have := HF.out; omega) (by simp; omega) ?_; intro v2 w2 hown2 hg2 hob2)
   have hgA := grown_more (grown_alloc hg _) hg2 HO.out
   have hobA := ob_more HO.out hob2 (by have := hg.size; simp; omega)
   clear hg2 hob2
   go_roundw
   case rel =>
    refine ⟨f, m / 128, pre ++ [UInt8.ofNat y], ?_, by have := HF.out; simp; omega, HM.out, by omega, by rw [HY.out, HX.out]; exact HP.out, own_snoc hown2 HB.out, hgA, hobA⟩
    go_num
   case measure => simp [intOf]; omega
  ·go_wp2_with (at_builtin; refine wpList_append_rd _ rfl _ _ 120 rfl base 5 i0 (.int .u8 0) 1 Tryz.underlying120 hi hz0 hz1 hz2 rfl _ _ _ rfl (hown1.alloc _) (some ⟨wr.heap.size, 0, none⟩) 1 1 [.int .u8 (m : Int)] rfl (rd_new _ _ _) (by intro u hu; simp at hu; subst hu; rfl) (by unfold maxLen; omega) (by omega) (by simp; omega) ?_; intro v2 w2 hown2 hg2 hob2)
   have hgA := grown_more (grown_alloc hg _) hg2 hob
   have hobA := ob_more hob hob2 (by have := hg.size; simp; omega)
   go_ret
   have hme : NM.enc n = pre ++ [UInt8.ofNat m] := by
    rw [← hpre]
    cases f with
    | zero => rfl
    | succ f => rw [NM.encF, if_pos (by omega)]
   refine ⟨v2, rfl, ?_, hgA, hobA⟩
   rw [hme]
   exact own_snoc hown2 (NM.toNat_ofNat m (by omega))
def getRes : Option (Nat × Nat) → Value
 | none => .tuple #[.int .i64 0, .int .i64 0, .int .i64 8]
 | some (n, k) => .tuple #[.int .i64 n, .int .i64 k, .int .i64 0]
theorem get_any (A : Option Addr) (n c : Nat) (l : List UInt8) (w : World) (hr : Rd w A n (bc l)) (hm : n ≤ maxLen) :
  Calls Tryz.prog 124 #[.slice A n c] w fun e w' => e = .returned (getRes (NM.dec l)) ∧ w = w' := by
 unfold maxLen at hm
 have hl : l.length = n := by have := hr.1; rwa [bc_length] at this
 have HL := h! hl; clear hl
 go_enter Tryz.func124, Tryz.ntmps124
 go_wp2
 go_loop [2, 3] (fun nv sv => ∃ k acc : Nat, k ≤ n ∧ k ≤ 6 ∧ sv = .int .i64 k ∧ nv = .int .i64 acc ∧ acc < 128 ^ k ∧ NM.lift acc k (NM.decR (6 - k) (l.drop k)) = NM.decR 6 l) (fun _ s => 6 - (intOf s).toNat)
 case atStart => exact ⟨0, 0, by omega, by omega, rfl, rfl, by simp, by rw [NM.lift_zero]; rfl⟩
 case round =>
  obtain ⟨k, acc, hk, hk6, rfl, rfl, hacc, hrel⟩ := hrel
  have HR := h! hrel; clear hrel
  by_cases hlt : k < n
  ·by_cases hlt6 : k < 6
   ·obtain ⟨ad, u, rfl, _, hu, hcell⟩ := hr.at_ hlt
    have hkl : k < l.length := by have := HL.out; omega
    rw [bc_get l k hkl] at hu
    injection hu with hu
    subst hu
    obtain ⟨p, hp⟩ : ∃ p, p = l[k].toNat := ⟨_, rfl⟩
    have hp256 : p < 256 := by rw [hp]; exact UInt8.toNat_lt _
    rw [← hp] at hcell
    have HP := h! hp; clear hp
    obtain ⟨x, hx⟩ : ∃ x, x = p % 128 := ⟨_, rfl⟩
    have hx128 : x < 128 := by omega
    obtain ⟨y, hy⟩ : ∃ y, y = 128 ^ k * x := ⟨_, rfl⟩
    obtain ⟨z, hz⟩ : ∃ z, z = acc + 128 ^ k * x := ⟨_, rfl⟩
    have hzs : z < 4398046511104 := by rw [hz]; exact NM.acc_small acc k x hacc hx128 hlt6
    have hb1 : bits .and .i64 (p : Int) 127 = (x : Int) := by rw [NB.and127 p (by omega), hx]
    have hb2 : wrap64 ((x : Int) * 2 ^ (7 * k)) = (y : Int) := by rw [NB.shl_wrap x k hx128 hlt6, hy]
    have hb3 : bits .or .i64 (acc : Int) (y : Int) = (z : Int) := by rw [hy, NB.or_add acc x k hacc hx128 hlt6, hz]
    have hb4 := NB.neq128 p hp256
    have hzl : z < 128 ^ (k + 1) := by rw [hz]; exact NM.acc_lt acc k x hacc hx128
    have HX := h! hx; clear hx
    have HY := h! hy; clear hy
    have HZ := h! hz; clear hz
    have HZL := h! hzl; clear hzl hacc
    by_cases h128 : 128 ≤ p
    ·have hb5 : (bits .and .i64 (p : Int) 128 != 0) = true := by rw [hb4]; simpa using h128
     clear hb4
     go_wp2
     go_round
     case rel =>
      refine ⟨k + 1, z, by omega, by omega, by go_num, rfl, HZL.out, ?_⟩
      have e := NM.step_more acc k l _ hkl hlt6 HR.out (by have := HP.out; omega)
      rw [← HP.out, ← HX.out, ← HZ.out] at e
      exact e
     case measure => simp [intOf]; omega
    ·have hb5 : (bits .and .i64 (p : Int) 128 != 0) = false := by rw [hb4]; simpa using h128
     clear hb4
     have hfin := NM.step_last acc k l hkl hlt6 HR.out (by have := HP.out; omega)
     rw [← HP.out, show p = x by have := HX.out; omega, ← HZ.out] at hfin
     have HFin := h! hfin; clear hfin
     by_cases hbig : 1099511627776 < z
     ·go_wp2
      go_ret3
      refine ⟨?_, rfl⟩
      rw [HFin.out, if_pos (Or.inr hbig)]; rfl
     ·have hbig' : z ≤ 1099511627776 := by omega
      by_cases hp0 : p = 0
      ·have hp0' : ((p : Int) == 0) = true := by simp [hp0]
       have HX0 : x = 0 := by have := HX.out; omega
       have HXH := h! HX0; clear HX0
       have HP0 := h! hp0; clear hp0
       by_cases hk0 : 0 < k
       ·go_wp2
        all_goals go_ret3
        all_goals refine ⟨?_, rfl⟩
        all_goals (rw [HFin.out, if_pos (Or.inl ⟨hk0, HXH.out⟩)]; rfl)
       ·go_wp2
        all_goals go_ret3
        all_goals refine ⟨?_, rfl⟩
        all_goals (rw [HFin.out, if_neg (by omega)]; rfl)
      ·have hp0' : ((p : Int) == 0) = false := by simp [hp0]
       have HXH : x ≠ 0 := by have := HX.out; omega
       go_wp2
       all_goals go_ret3
       all_goals refine ⟨?_, rfl⟩
       all_goals (rw [HFin.out, if_neg (by omega)]; rfl)
   ·have hfin := NM.step_end acc k l (by omega) hk6 HR.out
    have HFin := h! hfin; clear hfin
    go_wp2
    go_ret3
    refine ⟨?_, rfl⟩
    rw [HFin.out]; rfl
  ·have hfin := NM.step_end acc k l (by have := HL.out; omega) hk6 HR.out
   have HFin := h! hfin; clear hfin
   go_wp2
   go_ret3
   refine ⟨?_, rfl⟩
   rw [HFin.out]; rfl
end
end Go.Proofs.YteebeiaokfenmaaGreat
