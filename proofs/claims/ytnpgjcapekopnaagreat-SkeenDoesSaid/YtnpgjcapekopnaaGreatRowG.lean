/-
  Rows of structs of s cells: what they read as, append of whatever slice onto a row of the call's own, flat lists of cells (parted from AttRow, AttMem, DecMem, DecG). No walk, no program.
-/
import Derived.Test.YtnpgjcapekopnaaGreatMem
import Derived.Test.YtnpgjcapekopnaaGreatBox
import Derived.Laws.OwnMore
import Derived.Deep.AppendSrc
import Derived.Deep.RegionLaw
namespace Go.Proofs.YtnpgjcapekopnaaGreat
open Go.RowKit
set_option linter.unusedVariables false
set_option linter.unusedSimpArgs false

theorem own_below3 {w w' : World} {base s : Nat} {e : TypeId} {v : Value} {n : Nat} {xs : List Value} (h : w.ownsRow base e s v n xs) (hb : Below w.heap.size w w') : w'.ownsRow base e s v n xs := by
  refine ⟨h.1, ?_⟩
  rcases h.2 with h0 | ⟨g, cap, cur, hv, hbg, hg, hrest⟩
  · exact .inl h0
  · have hlt : g < w.heap.size := by
      rcases Nat.lt_or_ge g w.heap.size with hlt | hge
      · exact hlt
      · rw [Array.getElem?_eq_none hge] at hg; cases hg
    exact .inr ⟨g, cap, cur, hv, hbg, (hb.block g hlt).trans hg, hrest⟩
theorem own_base {w : World} {base base' s : Nat} {e : TypeId} {v : Value} {n : Nat} {xs : List Value} (h : w.ownsRow base e s v n xs) (hb : base' ≤ base) : w.ownsRow base' e s v n xs := by
  refine ⟨h.1, ?_⟩
  rcases h.2 with h0 | ⟨g, cap, cur, hv, hbg, hrest⟩
  · exact .inl h0
  · exact .inr ⟨g, cap, cur, hv, Nat.le_trans hb hbg, hrest⟩
theorem own_form {w : World} {base s : Nat} {e : TypeId} {v : Value} {n : Nat} {xs : List Value} (h : w.ownsRow base e s v n xs) :
    ∃ A c, v = .slice A n c ∧ n ≤ c ∧ c ≤ maxLen := by
  rcases h.2 with ⟨rfl, rfl⟩ | ⟨g, cap, cur, rfl, _, _, hnc, hcm, _⟩
  · exact ⟨none, 0, rfl, Nat.le_refl _, Nat.zero_le _⟩
  · exact ⟨_, cap, rfl, hnc, hcm⟩
/-- n elements of s cells at A read as xs -/
def RdG (w : World) (s : Nat) (A : Option Addr) (m : Nat) (xs : List Value) : Prop :=
  xs.length = m * s ∧ (0 < m → ∃ ad, A = some ad ∧ ad.block < w.heap.size ∧ ∀ j u, xs[j]? = some u → w.cell? (ad.add j) = some u)
theorem Rd.g {w : World} {A : Option Addr} {m : Nat} {xs : List Value} (h : Rd w A m xs) : RdG w 1 A m xs := ⟨by rw [h.1]; omega, h.2⟩
theorem RdG.below {w w' : World} {s m : Nat} {A : Option Addr} {xs : List Value} (h : RdG w s A m xs) (hb : Below w.heap.size w w') : RdG w' s A m xs :=
  ⟨h.1, fun hn => by
    obtain ⟨ad, e, hB, hc⟩ := h.2 hn
    exact ⟨ad, e, Nat.lt_of_lt_of_le hB hb.size, fun j u hu => (hb.cell (by rw [block_of_add]; exact hB)).trans (hc j u hu)⟩⟩
theorem RdG.alloc {w : World} {s m : Nat} {A : Option Addr} {xs : List Value} (h : RdG w s A m xs) (o : Obj) : RdG (w.alloc o) s A m xs := h.below ((Below.refl _ _).alloc (Nat.le_refl _) o)
theorem rdG_box {w : World} {g n s : Nat} {t : TypeId} {cs : Array Value} {xs : List Value} (h : Box w g t cs) (hx : cs.toList = xs) (hn : xs.length = n * s) : RdG w s (some ⟨g, 0, none⟩) n xs := by
  refine ⟨hn, fun _ => ⟨_, rfl, h.lt, fun j u hu => ?_⟩⟩
  have : (⟨g, 0, none⟩ : Addr).add j = ⟨g, j, none⟩ := by unfold Addr.add; split <;> simp_all
  rw [this, h.cell j, ← hu, ← hx]
  simp

theorem run_append_g {P : Program} (w : World) (base : Nat) (t ty e : TypeId) (i : TypeInfo) (z : Value) (s bytes : Nat) (ht : P.underlying t = some (.slice e)) (hi : P.info? e = some i) (hz : i.zero = some z)
    (hsize : i.size = s) (hby : i.bytes = bytes) (hzs : z.cells.size = s) (hsz : 0 < s)
    (v : Value) (n : Nat) (xs : List Value) (hown : w.ownsRow base e s v n xs)
    (A : Option Addr) (m c : Nat) (news : List Value) (hr : RdG w s A m news) (h1 : ∀ u ∈ news, u.oneCell' = true)
    (h63 : n + m ≤ maxLen) (hbytes : (n + m) * bytes ≤ 140737488355328) (hbase : base ≤ w.heap.size) :
    ∃ v' w', (Builtin.append_ #[t, t] ty #[v, .slice A m c]).run P w = .ok v' w' ∧ w'.ownsRow base e s v' (n + m) (xs ++ news) ∧ w.grownBy w' v.ownBlock ∧
      (v'.ownBlock = v.ownBlock ∨ v'.ownBlock = some w.heap.size) := by
  rcases A with _ | ad
  · have hm : m = 0 := by
      rcases Nat.eq_zero_or_pos m with h0 | h0
      · exact h0
      · obtain ⟨ad, h, _⟩ := hr.2 h0; cases h
    subst hm
    have hn : news = [] := List.eq_nil_of_length_eq_zero (by rw [hr.1]; omega)
    subst hn
    refine ⟨v, w, ?_, by simpa using hown, World.grownBy.refl w _, .inl rfl⟩
    rcases hown.2 with ⟨rfl, rfl⟩ | ⟨g, cap, cur, rfl, _, _, hnc, _⟩
    · simp [Builtin.append_, run_underlying ht, sizeOf, typeInfo, hi, Builtin.lenOf, Builtin.firstCells]
    · simp [Builtin.append_, run_underlying ht, sizeOf, typeInfo, hi, Builtin.lenOf, Builtin.firstCells, hnc, storeCells]
  · have hcells : ∀ j u, news[j]? = some u → w.cell? (ad.add j) = some u := by
      intro j u hu
      rcases Nat.eq_zero_or_pos m with h0 | h0
      · subst h0
        have hn : news = [] := List.eq_nil_of_length_eq_zero (by rw [hr.1]; omega)
        subst hn
        simp at hu
      · obtain ⟨ad', h, _, hc⟩ := hr.2 h0
        injection h with h
        subst h
        exact hc j u hu
    obtain ⟨v', w', hrun, h2, h3, _, h5⟩ := run_append_own_at (P := P) w base t ty e i z s bytes ht hi hz hsize hby hzs hsz v n xs hown ad m c news hr.1 hcells h1 h63 hbytes hbase
    exact ⟨v', w', hrun, h2, h3, h5⟩

theorem wpList_append_g {P : Program} (w : World) {ops : Array Oper} {rest : List Oper} {o : Oper} {a : Act} {Q : Exit → Act → World → Prop} (hgd : o.guard = none) (so x : Operand) (t : TypeId)
    (ho : o.op = .call { callee := .builtin .append, args := #[so, x], argTypes := #[t, t] })
    (base : Nat) (e : TypeId) (i : TypeInfo) (z : Value) (s bytes : Nat) (ht : P.underlying t = some (.slice e)) (hi : P.info? e = some i) (hz : i.zero = some z)
    (hsize : i.size = s) (hby : i.bytes = bytes) (hzs : z.cells.size = s) (hsz : 0 < s)
    (v : Value) (n : Nat) (xs : List Value) (hs : a.eval so = v) (hown : w.ownsRow base e s v n xs)
    (A : Option Addr) (m c : Nat) (news : List Value) (hx : a.eval x = .slice A m c) (hr : RdG w s A m news) (h1 : ∀ u ∈ news, u.oneCell' = true)
    (h63 : n + m ≤ maxLen) (hbytes : (n + m) * bytes ≤ 140737488355328) (hbase : base ≤ w.heap.size)
    (h : ∀ v' w', w'.ownsRow base e s v' (n + m) (xs ++ news) → w.grownBy w' v.ownBlock → (v'.ownBlock = v.ownBlock ∨ v'.ownBlock = some w.heap.size) → wpList P ops Q rest (a.put o.dst v') w') : wpList P ops Q (o :: rest) a w := by
  refine wpList_plain hgd fun K hK => ?_
  obtain ⟨v', w', hrun, h2, h3, h4⟩ := run_append_g (P := P) w base t o.type e i z s bytes ht hi hz hsize hby hzs hsz v n xs hown A m c news hr h1 h63 hbytes hbase
  unfold Oper.wp execOp
  simp only [ho, resolve, invoke, builtin, Sem.run_bind, Sem.run_pure, Result.andThen_ok, List.map_toArray, List.map_cons, List.map_nil, hs, hx, hrun]
  exact hK _ _ (h v' w' h2 h3 h4)

/-- the block of an owned row -/
theorem own_block {w : World} {base s n g : Nat} {e : TypeId} {v : Value} {xs : List Value} (h : w.ownsRow base e s v n xs) (hg : v.ownBlock = some g) : base ≤ g ∧ ∃ cur, Box w g e cur := by
  rcases h.2 with ⟨rfl, _⟩ | ⟨g', cap, cur, rfl, hb, hx, _⟩
  · cases hg
  · injection hg with hg
    subst hg
    exact ⟨hb, cur, hx⟩
/-- what a row's growth leaves below -/
theorem below_row {w0 w w' : World} {base s n : Nat} {e : TypeId} {v : Value} {xs : List Value} (hb : Below base w0 w) (h : w.ownsRow base e s v n xs) (hB : base ≤ w.heap.size) (hg : w.grownBy w' v.ownBlock) : Below base w0 w' :=
  hb.grown hg hB fun g hgu => (own_block h hgu).1
theorem Box.grown {w w' : World} {g : Nat} {t : TypeId} {cs : Array Value} {r : Option Nat} (h : Box w g t cs) (hg : w.grownBy w' r) (hr : some g ≠ r) : Box w' g t cs := (hg.block g h.lt hr).trans h
/-- an owned row in another block stays -/
theorem own_grown {w w' : World} {base s n : Nat} {e : TypeId} {v : Value} {xs : List Value} {r : Option Nat} (h : w.ownsRow base e s v n xs) (hg : w.grownBy w' r) (hr : ∀ g, v.ownBlock = some g → some g ≠ r) : w'.ownsRow base e s v n xs := by
  refine ⟨h.1, ?_⟩
  rcases h.2 with h0 | ⟨g, cap, cur, rfl, hb, hx, hrest⟩
  · exact .inl h0
  · exact .inr ⟨g, cap, cur, rfl, hb, Box.grown hx hg (hr g rfl), hrest⟩
theorem Rd.grownBy {w w' : World} {A : Option Addr} {n : Nat} {xs : List Value} {base : Nat} {r : Option Nat} (h : Rd w A n xs) (hg : w.grownBy w' r) (hb : w.heap.size ≤ w'.heap.size) (hr : ∀ ad, A = some ad → some ad.block ≠ r) : Rd w' A n xs :=
  h.grown hg fun ad e _ => hr ad e
-- rows of elements of s cells
def flat {α : Type} (f : α → List Value) (l : List α) : List Value := l.flatMap f
section
variable {α : Type} {f : α → List Value} {s : Nat}
theorem flat_cons (a : α) (l : List α) : flat f (a :: l) = f a ++ flat f l := rfl
theorem flat_append (l r : List α) : flat f (l ++ r) = flat f l ++ flat f r := by simp [flat]
theorem flat_one (a : α) : flat f [a] = f a := by simp [flat]
theorem flat_length : ∀ {l : List α}, (∀ a ∈ l, (f a).length = s) → (flat f l).length = l.length * s
  | [], _ => by simp [flat]
  | a :: l, h => by
    rw [flat_cons, List.length_append, h a (List.mem_cons_self ..), flat_length (fun b hb => h b (List.mem_cons_of_mem _ hb)), List.length_cons, Nat.add_mul, Nat.one_mul, Nat.add_comm]
theorem flat_get : ∀ {l : List α} {k : Nat} {a : α}, (∀ a ∈ l, (f a).length = s) → l[k]? = some a → ∀ j, j < s → (flat f l)[k * s + j]? = (f a)[j]?
  | [], k, a, _, h, j, _ => by simp at h
  | b :: l, 0, a, hf, h, j, hj => by
    simp at h; subst h
    have := hf b (List.mem_cons_self ..)
    rw [flat_cons, Nat.zero_mul, Nat.zero_add, List.getElem?_append_left (by omega)]
  | b :: l, k + 1, a, hf, h, j, hj => by
    have hb := hf b (List.mem_cons_self ..)
    have ih := flat_get (l := l) (k := k) (a := a) (fun b hb => hf b (List.mem_cons_of_mem _ hb)) (by simpa using h) j hj
    rw [flat_cons, Nat.add_mul, Nat.one_mul, List.getElem?_append_right (by omega), hb, ← ih]
    congr 1; omega
def puts : List Value → Nat → List Value → List Value
  | xs, _, [] => xs
  | xs, i, c :: cs => puts (xs.set i c) (i + 1) cs
theorem puts_front : ∀ (p xs cs : List Value) (i : Nat), puts (p ++ xs) (p.length + i) cs = p ++ puts xs i cs
  | p, xs, [], i => rfl
  | p, xs, c :: cs, i => by
    show puts ((p ++ xs).set (p.length + i) c) (p.length + i + 1) cs = p ++ puts (xs.set i c) (i + 1) cs
    rw [← puts_front p (xs.set i c) cs (i + 1), List.set_append_right _ _ (Nat.le_add_right _ _), Nat.add_sub_cancel_left]
    rfl
theorem puts_all : ∀ (xs ys cs : List Value), xs.length = cs.length → puts (xs ++ ys) 0 cs = cs ++ ys
  | [], ys, [], _ => rfl
  | x :: xs, ys, c :: cs, h => by
    show puts ((x :: (xs ++ ys)).set 0 c) 1 cs = c :: (cs ++ ys)
    rw [List.set_cons_zero]
    have := puts_front [c] (xs ++ ys) cs 0
    simp only [List.length_cons, List.length_nil, Nat.zero_add, Nat.add_zero, List.cons_append, List.nil_append] at this
    rw [this, puts_all xs ys cs (by simpa using h)]
theorem flat_set : ∀ {l : List α} {k : Nat} {a : α}, (∀ a ∈ l, (f a).length = s) → (f a).length = s → k < l.length → flat f (l.set k a) = puts (flat f l) (k * s) (f a)
  | [], k, a, _, _, h => by simp at h
  | b :: l, 0, a, hf, ha, h => by
    have hb := hf b (List.mem_cons_self ..)
    rw [List.set_cons_zero, flat_cons, flat_cons, Nat.zero_mul, puts_all _ _ _ (by omega)]
  | b :: l, k + 1, a, hf, ha, h => by
    have hb := hf b (List.mem_cons_self ..)
    have ih := flat_set (l := l) (k := k) (a := a) (fun b hb => hf b (List.mem_cons_of_mem _ hb)) ha (by simpa using h)
    rw [List.set_cons_succ, flat_cons, flat_cons, ih, ← puts_front, hb, Nat.add_mul, Nat.one_mul]
    congr 1; omega
end

theorem one_flat {α : Type} {f : α → List Value} (h : ∀ a, ∀ u ∈ f a, u.oneCell' = true) (l : List α) : ∀ u ∈ flat f l, u.oneCell' = true := by
  intro u hu
  unfold flat at hu
  obtain ⟨a, _, hu⟩ := List.mem_flatMap.1 hu
  exact h a u hu
theorem step_append_h {P : Program} {ops : Array Oper} {o : Oper} {a : Act} {w : World} {K : Act → World → Prop} {Q : Exit → Act → World → Prop} {E : Prop}
    (hgd : o.guard = none) (so x : Operand) (t : TypeId)
    (ho : o.op = .call { callee := .builtin .append, args := #[so, x], argTypes := #[t, t] })
    (base : Nat) (e : TypeId) (i : TypeInfo) (z : Value) (s bytes : Nat) (ht : P.underlying t = some (.slice e)) (hi : P.info? e = some i) (hz : i.zero = some z)
    (hsize : i.size = s) (hby : i.bytes = bytes) (hzs : z.cells.size = s) (hsz : 0 < s)
    (v : Value) (n : Nat) (xs : List Value) (hs : a.eval so = v) (hown : w.ownsRow base e s v n xs)
    (A : Option Addr) (m c : Nat) (news : List Value) (hx : a.eval x = .slice A m c) (hr : RdG w s A m news) (h1 : ∀ u ∈ news, u.oneCell' = true)
    (h63 : n + m ≤ maxLen) (hbytes : (n + m) * bytes ≤ 140737488355328) (hbase : base ≤ w.heap.size)
    (hK : ∀ v' w', w'.ownsRow base e s v' (n + m) (xs ++ news) → w.grownBy w' v.ownBlock → (v'.ownBlock = v.ownBlock ∨ v'.ownBlock = some w.heap.size) → K (a.put o.dst v') w') :
    if Region.wanted o (yielded ops a.tmps) = true then Oper.wp P o a w K Q else E := by
  have hw : Region.wanted o (yielded ops a.tmps) = true := by simp [Region.wanted, hgd]
  rw [if_pos hw]
  obtain ⟨v', w', hrun, h2, h3, h4⟩ := run_append_g (P := P) w base t o.type e i z s bytes ht hi hz hsize hby hzs hsz v n xs hown A m c news hr h1 h63 hbytes hbase
  unfold Oper.wp execOp
  simp only [ho, resolve, invoke, builtin, Sem.run_bind, Sem.run_pure, Result.andThen_ok, List.map_toArray, List.map_cons, List.map_nil, hs, hx, hrun]
  exact hK _ _ h2 h3 h4
theorem own_some {w : World} {base s n c : Nat} {e : TypeId} {A : Option Addr} {xs : List Value} (h : w.ownsRow base e s (.slice A n c) n xs) (hn : 0 < n) : ∃ q, A = some ⟨q, 0, none⟩ ∧ base ≤ q ∧ ∀ j u, xs[j]? = some u → w.cell? ⟨q, j, none⟩ = some u := by
  obtain ⟨g, cap, hv, hb, hlt⟩ := h.form hn
  have hA : A = some ⟨g, 0, none⟩ := by injection hv
  subst hA
  refine ⟨g, rfl, hb, fun j u hu => ?_⟩
  have := h.cells (g := g) rfl j u hu
  rwa [show (⟨g, 0, none⟩ : Addr).add j = ⟨g, j, none⟩ by unfold Addr.add; split <;> simp_all] at this

/-- blocks of element types outside S are as they were -/
structure Kept (S : TypeId → Prop) (a b : World) : Prop where
  os : b.os = a.os
  tape : b.tape = a.tape
  output : b.output = a.output
  size : a.heap.size ≤ b.heap.size
  box : ∀ (g : Nat) (e : TypeId) (cs : Array Value), ¬ S e → Box a g e cs → Box b g e cs
section
variable {S : TypeId → Prop} {a b c : World}
theorem Kept.refl (S : TypeId → Prop) (a : World) : Kept S a a := ⟨rfl, rfl, rfl, Nat.le_refl _, fun _ _ _ _ h => h⟩
theorem Kept.trans (h : Kept S a b) (k : Kept S b c) : Kept S a c := ⟨k.os.trans h.os, k.tape.trans h.tape, k.output.trans h.output, Nat.le_trans h.size k.size, fun g e cs he hb => k.box g e cs he (h.box g e cs he hb)⟩
theorem Kept.of_below (h : Below a.heap.size a b) : Kept S a b := ⟨h.os, h.tape, h.output, h.size, fun g e cs _ hb => hb.below h hb.lt⟩
theorem Kept.more (h : Kept S a b) (k : Below b.heap.size b c) : Kept S a c := h.trans (Kept.of_below k)
theorem Kept.set {g i : Nat} {e : TypeId} {cs : Array Value} (h : Box a g e cs) (he : S e) (u : Value) : Kept S a (a.setCell ⟨g, i, none⟩ u) := by
  have k : Below g a (a.setCell ⟨g, i, none⟩ u) := (Below.refl g a).setCell (p := ⟨g, i, none⟩) (Nat.le_refl g) u
  refine ⟨k.os, k.tape, k.output, k.size, fun g' e' cs' he' hb => hb.far (p := ⟨g, i, none⟩) (fun e2 => ?_) u⟩
  have e3 : g' = g := e2
  subst e3
  rw [Box] at h hb
  rw [h] at hb
  injection hb with hb
  injection hb with _ hb
  exact he' (hb ▸ he)
theorem Kept.grown {base s n : Nat} {e : TypeId} {v : Value} {xs : List Value} (h : a.ownsRow base e s v n xs) (he : S e) (hg : a.grownBy b v.ownBlock) : Kept S a b := by
  refine ⟨hg.os, hg.tape, hg.output, hg.size, fun g' e' cs' he' hb => hb.grown hg (fun e2 => ?_)⟩
  obtain ⟨_, cur, hx⟩ := own_block h e2.symm
  rw [Box] at hx hb
  rw [hx] at hb
  injection hb with hb
  injection hb with _ hb
  exact he' (hb ▸ he)
theorem Kept.own {base s n : Nat} {e : TypeId} {v : Value} {xs : List Value} (k : Kept S a b) (h : a.ownsRow base e s v n xs) (he : ¬ S e) : b.ownsRow base e s v n xs := by
  refine ⟨h.1, ?_⟩
  rcases h.2 with h0 | ⟨g, cap, cur, hv, hb, hx, hrest⟩
  · exact .inl h0
  · exact .inr ⟨g, cap, cur, hv, hb, k.box _ _ _ he hx, hrest⟩
theorem Kept.mono {S' : TypeId → Prop} (k : Kept S a b) (h : ∀ e, S e → S' e) : Kept S' a b := ⟨k.os, k.tape, k.output, k.size, fun g e cs he hb => k.box g e cs (fun hs => he (h e hs)) hb⟩
end
end Go.Proofs.YtnpgjcapekopnaaGreat
