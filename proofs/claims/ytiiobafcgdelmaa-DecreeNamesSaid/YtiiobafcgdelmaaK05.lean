/-
  Worlds of one slot in memory: rows of votes, mail, choices, attempts; a variable that holds a world of its own. No walk.
-/
import Derived.Test.YtiiobafcgdelmaaK03
import Derived.Test.YtiiobafcgdelmaaK04
import Derived.Laws.OwnMore
namespace Go.Proofs.Ytiiobafcgdelmaa
open Go.RowKit
set_option linter.unusedVariables false
set_option linter.unusedSimpArgs false

-- rows of elements of s cells
def flat {α : Type} (f : α → List Value) (l : List α) : List Value := l.flatMap f
section
variable {α : Type} {f : α → List Value} {s : Nat}
theorem flat_cons (a : α) (l : List α) : flat f (a :: l) = f a ++ flat f l := rfl
theorem flat_append (l r : List α) : flat f (l ++ r) = flat f l ++ flat f r := by simp [flat]
theorem flat_one (a : α) : flat f [a] = f a := by simp [flat]
theorem flat_length : ∀ {l : List α}, (∀ a ∈ l, (f a).length = s) → (flat f l).length = l.length * s
  | [], _ => by simp [flat]
  | a :: l, h => by
    rw [flat_cons, List.length_append, h a (List.mem_cons_self ..), flat_length (fun b hb => h b (List.mem_cons_of_mem _ hb)), List.length_cons, Nat.add_mul, Nat.one_mul, Nat.add_comm]
theorem flat_get : ∀ {l : List α} {k : Nat} {a : α}, (∀ a ∈ l, (f a).length = s) → l[k]? = some a → ∀ j, j < s → (flat f l)[k * s + j]? = (f a)[j]?
  | [], k, a, _, h, j, _ => by simp at h
  | b :: l, 0, a, hf, h, j, hj => by
    simp at h; subst h
    have := hf b (List.mem_cons_self ..)
    rw [flat_cons, Nat.zero_mul, Nat.zero_add, List.getElem?_append_left (by omega)]
  | b :: l, k + 1, a, hf, h, j, hj => by
    have hb := hf b (List.mem_cons_self ..)
    have ih := flat_get (l := l) (k := k) (a := a) (fun b hb => hf b (List.mem_cons_of_mem _ hb)) (by simpa using h) j hj
    rw [flat_cons, Nat.add_mul, Nat.one_mul, List.getElem?_append_right (by omega), hb, ← ih]
    congr 1; omega
def puts : List Value → Nat → List Value → List Value
  | xs, _, [] => xs
  | xs, i, c :: cs => puts (xs.set i c) (i + 1) cs
theorem puts_front : ∀ (p xs cs : List Value) (i : Nat), puts (p ++ xs) (p.length + i) cs = p ++ puts xs i cs
  | p, xs, [], i => rfl
  | p, xs, c :: cs, i => by
    show puts ((p ++ xs).set (p.length + i) c) (p.length + i + 1) cs = p ++ puts (xs.set i c) (i + 1) cs
    rw [← puts_front p (xs.set i c) cs (i + 1), List.set_append_right _ _ (Nat.le_add_right _ _), Nat.add_sub_cancel_left]
    rfl
theorem puts_all : ∀ (xs ys cs : List Value), xs.length = cs.length → puts (xs ++ ys) 0 cs = cs ++ ys
  | [], ys, [], _ => rfl
  | x :: xs, ys, c :: cs, h => by
    show puts ((x :: (xs ++ ys)).set 0 c) 1 cs = c :: (cs ++ ys)
    rw [List.set_cons_zero]
    have := puts_front [c] (xs ++ ys) cs 0
    simp only [List.length_cons, List.length_nil, Nat.zero_add, Nat.add_zero, List.cons_append, List.nil_append] at this
    rw [this, puts_all xs ys cs (by simpa using h)]
theorem flat_set : ∀ {l : List α} {k : Nat} {a : α}, (∀ a ∈ l, (f a).length = s) → (f a).length = s → k < l.length → flat f (l.set k a) = puts (flat f l) (k * s) (f a)
  | [], k, a, _, _, h => by simp at h
  | b :: l, 0, a, hf, ha, h => by
    have hb := hf b (List.mem_cons_self ..)
    rw [List.set_cons_zero, flat_cons, flat_cons, Nat.zero_mul, puts_all _ _ _ (by omega)]
  | b :: l, k + 1, a, hf, ha, h => by
    have hb := hf b (List.mem_cons_self ..)
    have ih := flat_set (l := l) (k := k) (a := a) (fun b hb => hf b (List.mem_cons_of_mem _ hb)) ha (by simpa using h)
    rw [List.set_cons_succ, flat_cons, flat_cons, ih, ← puts_front, hb, Nat.add_mul, Nat.one_mul]
    congr 1; omega
end

def vcell (v : DC.Vt) : List Value := [.int .i64 v.p, .int .i64 v.b, .string v.v]
def mcell (m : DC.Ml) : List Value := [.int .i64 m.f, .int .i64 m.t, .int .u8 m.k, .int .i64 m.g, .int .i64 m.s, .int .i64 m.b, .int .i64 m.p, .string m.v, .int .i64 m.i, .int .i64 m.m]
def ccell (c : DC.Ch) : List Value := [.int .i64 c.n, .string c.v]
def tcell (v : Value) : List Value := (fs v).toList
theorem one_flat {α : Type} {f : α → List Value} (h : ∀ a, ∀ u ∈ f a, u.oneCell' = true) (l : List α) : ∀ u ∈ flat f l, u.oneCell' = true := by
  intro u hu
  unfold flat at hu
  obtain ⟨a, _, hu⟩ := List.mem_flatMap.1 hu
  exact h a u hu
theorem v_one (v : DC.Vt) : ∀ u ∈ vcell v, u.oneCell' = true := by intro u hu; simp [vcell] at hu; rcases hu with rfl | rfl | rfl <;> rfl
theorem c_one (v : DC.Ch) : ∀ u ∈ ccell v, u.oneCell' = true := by intro u hu; simp [ccell] at hu; rcases hu with rfl | rfl <;> rfl
theorem m_one (v : DC.Ml) : ∀ u ∈ mcell v, u.oneCell' = true := by intro u hu; simp [mcell] at hu; rcases hu with rfl | rfl | rfl | rfl | rfl | rfl | rfl | rfl | rfl | rfl <;> rfl

/-- blocks of element types outside S are as they were -/
structure Kept (S : TypeId → Prop) (a b : World) : Prop where
  os : b.os = a.os
  tape : b.tape = a.tape
  output : b.output = a.output
  size : a.heap.size ≤ b.heap.size
  box : ∀ (g : Nat) (e : TypeId) (cs : Array Value), ¬ S e → Box a g e cs → Box b g e cs
section
variable {S : TypeId → Prop} {a b c : World}
theorem Kept.refl (S : TypeId → Prop) (a : World) : Kept S a a := ⟨rfl, rfl, rfl, Nat.le_refl _, fun _ _ _ _ h => h⟩
theorem Kept.trans (h : Kept S a b) (k : Kept S b c) : Kept S a c := ⟨k.os.trans h.os, k.tape.trans h.tape, k.output.trans h.output, Nat.le_trans h.size k.size, fun g e cs he hb => k.box g e cs he (h.box g e cs he hb)⟩
theorem Kept.of_below (h : Below a.heap.size a b) : Kept S a b := ⟨h.os, h.tape, h.output, h.size, fun g e cs _ hb => hb.below h hb.lt⟩
theorem Kept.more (h : Kept S a b) (k : Below b.heap.size b c) : Kept S a c := h.trans (Kept.of_below k)
theorem Kept.set {g i : Nat} {e : TypeId} {cs : Array Value} (h : Box a g e cs) (he : S e) (u : Value) : Kept S a (a.setCell ⟨g, i, none⟩ u) := by
  have k : Below g a (a.setCell ⟨g, i, none⟩ u) := (Below.refl g a).setCell (p := ⟨g, i, none⟩) (Nat.le_refl g) u
  refine ⟨k.os, k.tape, k.output, k.size, fun g' e' cs' he' hb => hb.far (p := ⟨g, i, none⟩) (fun e2 => ?_) u⟩
  have e3 : g' = g := e2
  subst e3
  rw [Box] at h hb
  rw [h] at hb
  injection hb with hb
  injection hb with _ hb
  exact he' (hb ▸ he)
theorem Kept.grown {base s n : Nat} {e : TypeId} {v : Value} {xs : List Value} (h : a.ownsRow base e s v n xs) (he : S e) (hg : a.grownBy b v.ownBlock) : Kept S a b := by
  refine ⟨hg.os, hg.tape, hg.output, hg.size, fun g' e' cs' he' hb => hb.grown hg (fun e2 => ?_)⟩
  obtain ⟨_, cur, hx⟩ := own_block h e2.symm
  rw [Box] at hx hb
  rw [hx] at hb
  injection hb with hb
  injection hb with _ hb
  exact he' (hb ▸ he)
theorem Kept.own {base s n : Nat} {e : TypeId} {v : Value} {xs : List Value} (k : Kept S a b) (h : a.ownsRow base e s v n xs) (he : ¬ S e) : b.ownsRow base e s v n xs := by
  refine ⟨h.1, ?_⟩
  rcases h.2 with h0 | ⟨g, cap, cur, hv, hb, hx, hrest⟩
  · exact .inl h0
  · exact .inr ⟨g, cap, cur, hv, hb, k.box _ _ _ he hx, hrest⟩
theorem Kept.at_ {base : Nat} {v : Value} {t : AM.At} (k : Kept S a b) (h : AtOwn a base v t) (h1 : ¬ S 3) (h2 : ¬ S 79) : AtOwn b base v t := by
  obtain ⟨x, y, z, e, o1, o2, o3⟩ := h
  exact ⟨x, y, z, e, k.own o1 h1, k.own o2 h2, k.own o3 h1⟩
theorem Kept.mono {S' : TypeId → Prop} (k : Kept S a b) (h : ∀ e, S e → S' e) : Kept S' a b := ⟨k.os, k.tape, k.output, k.size, fun g e cs he hb => k.box g e cs (fun hs => he (h e hs)) hb⟩
end

/-- a row of attempts: each in memory from block 'base' on -/
def TsRow (W : World) (base : Nat) (xs : List Value) (ts : List AM.At) : Prop :=
  ∃ vs : List Value, vs.length = ts.length ∧ xs = flat tcell vs ∧ ∀ (i : Nat) t, ts[i]? = some t → ∃ v, vs[i]? = some v ∧ AtOwn W base v t
theorem tcell_at {W : World} {base : Nat} {v : Value} {t : AM.At} (h : AtOwn W base v t) : (tcell v).length = 7 := by
  obtain ⟨x, y, z, rfl, _⟩ := h; rfl
theorem TsRow.len {W : World} {base : Nat} {vs : List Value} {ts : List AM.At} (hl : vs.length = ts.length) (h : ∀ (i : Nat) t, ts[i]? = some t → ∃ v, vs[i]? = some v ∧ AtOwn W base v t) : ∀ v ∈ vs, (tcell v).length = 7 := by
  intro v hv
  obtain ⟨i, hi⟩ := List.getElem?_of_mem hv
  have hi' : i < ts.length := by rw [← hl]; exact (List.getElem?_eq_some_iff.1 hi).1
  obtain ⟨v', h1, h2⟩ := h i _ (List.getElem?_eq_getElem hi')
  rw [hi] at h1
  injection h1 with h1
  subst h1
  exact tcell_at h2
theorem TsRow.kept {W W' : World} {base : Nat} {xs : List Value} {ts : List AM.At} {S : TypeId → Prop} (h : TsRow W base xs ts) (k : Kept S W W') (h1 : ¬ S 3) (h2 : ¬ S 79) : TsRow W' base xs ts := by
  obtain ⟨vs, hl, e, hall⟩ := h
  exact ⟨vs, hl, e, fun i t ht => by obtain ⟨v, hv, ho⟩ := hall i t ht; exact ⟨v, hv, k.at_ ho h1 h2⟩⟩
/-- an attempt of the row, and the row with another one in its place -/
theorem TsRow.get {W : World} {base : Nat} {xs : List Value} {ts : List AM.At} {i : Nat} {t : AM.At} (h : TsRow W base xs ts) (ht : ts[i]? = some t) :
    ∃ v, AtOwn W base v t ∧ ∀ j, j < 7 → xs[i * 7 + j]? = (tcell v)[j]? := by
  obtain ⟨vs, hl, rfl, hall⟩ := h
  obtain ⟨v, hv, ho⟩ := hall i t ht
  exact ⟨v, ho, flat_get (TsRow.len hl hall) hv⟩
theorem TsRow.set {W : World} {base : Nat} {xs : List Value} {ts : List AM.At} {i : Nat} {t : AM.At} {v : Value} (h : TsRow W base xs ts) (hi : i < ts.length) (ho : AtOwn W base v t) : TsRow W base (puts xs (i * 7) (tcell v)) (ts.set i t) := by
  obtain ⟨vs, hl, rfl, hall⟩ := h
  refine ⟨vs.set i v, by simp [hl], (flat_set (TsRow.len hl hall) (tcell_at ho) (by omega)).symm, fun j x hx => ?_⟩
  by_cases hj : i = j
  · subst hj
    rw [List.getElem?_set_self hi] at hx
    injection hx with hx
    subst hx
    exact ⟨v, List.getElem?_set_self (by omega), ho⟩
  · rw [List.getElem?_set_ne hj] at hx
    rw [List.getElem?_set_ne hj]
    exact hall j x hx

/-- block g holds a world whose rows lie from block 'base' on -/
def WdAt (W : World) (base g : Nat) (w : DC.Wd) : Prop :=
  ∃ A0 c0 A1 c1 A2 c2 A3 c3 A4 c4 xs, base ≤ g ∧ Box W g 28 #[.slice A0 w.ms.length c0, .slice A1 w.vs.length c1, .slice A2 w.ts.length c2, .slice A3 w.ml.length c3, .slice A4 w.ch.length c4] ∧
    W.ownsRow base 3 1 (.slice A0 w.ms.length c0) w.ms.length (ic w.ms) ∧
    W.ownsRow base 53 3 (.slice A1 w.vs.length c1) w.vs.length (flat vcell w.vs) ∧
    W.ownsRow base 49 7 (.slice A2 w.ts.length c2) w.ts.length xs ∧ TsRow W base xs w.ts ∧
    W.ownsRow base 40 10 (.slice A3 w.ml.length c3) w.ml.length (flat mcell w.ml) ∧
    W.ownsRow base 43 2 (.slice A4 w.ch.length c4) w.ch.length (flat ccell w.ch)
theorem WdAt.below {W W' : World} {base g : Nat} {w : DC.Wd} (h : WdAt W base g w) (hb : Below W.heap.size W W') : WdAt W' base g w := by
  obtain ⟨A0, c0, A1, c1, A2, c2, A3, c3, A4, c4, xs, hg, hx, o0, o1, o2, ht, o3, o4⟩ := h
  exact ⟨A0, c0, A1, c1, A2, c2, A3, c3, A4, c4, xs, hg, hx.below hb hx.lt, own_below3 o0 hb, own_below3 o1 hb, own_below3 o2 hb, ht.kept (S := fun _ => False) (Kept.of_below hb) id id, own_below3 o3 hb, own_below3 o4 hb⟩
theorem WdAt.lt {W : World} {base g : Nat} {w : DC.Wd} (h : WdAt W base g w) : base ≤ g ∧ g < W.heap.size := by
  obtain ⟨A0, c0, A1, c1, A2, c2, A3, c3, A4, c4, xs, hg, hx, _⟩ := h
  exact ⟨hg, hx.lt⟩
end Go.Proofs.Ytiiobafcgdelmaa
