/- Contracts of functions of towncrier, layers 5 to 9, and of the document's own ones, part 1; each as its theorem says. -/
import Derived.Deep.RegionHeld3
import Derived.Deep.RegionHeld
import Derived.WalkKit
import Derived.IntWalk
import Derived.Lib.Hide
import Derived.Below
import Derived.Laws.OwnMore
import Derived.Laws.AppendOwnNone
import Derived.Deep.AppendLies
import Derived.Deep.Draws
import Derived.Maps.AppendAt
import Derived.Laws.IdiomStrings
import Derived.Lib.AppendStr
import Derived.Lib.BufferRead
import Derived.Deep.AppendSrc
import Derived.RegionTactic
import Derived.OwnWalk
import Derived.Lib.BitFns
set_option linter.unusedVariables false
set_option linter.unusedSimpArgs false
namespace Go.Proofs.YtiiobafcgdelmaaGreat
open Go.RowKit
theorem h! {p : Prop} (h : p) : Hid p := Lib.hid h
theorem n! {n : Nat} : n ≤ n := Nat.le_refl n
theorem b! {w : World} {o : Obj} : Below w.heap.size w (w.alloc o) := (Below.refl _ _).alloc (Nat.le_refl _) _
theorem qq : (∀ {α : Type} (l : List α) (i : Nat) (a : α), l.toArray.setIfInBounds i a = (l.set i a).toArray) ∧ (∀ {α : Type} (x : α) (xs : List α) (a : α), (x :: xs).set 0 a = a :: xs) ∧
    (∀ {α : Type} (x : α) (xs : List α) (n : Nat) (a : α), (x :: xs).set (n + 1) a = x :: xs.set n a) ∧ (∀ {α : Type} {xs : List α} {i : Nat} (h : i < xs.toArray.size), xs.toArray[i] = xs[i]'(by simpa using h)) ∧
    (∀ {α : Type} (a : α) (as : List α) (h : 0 < (a :: as).length), (a :: as)[0] = a) ∧ (∀ {α : Type} (a : α) (as : List α) (i : Nat) (h : i + 1 < (a :: as).length), (a :: as)[i + 1] = as[i]'(Nat.lt_of_succ_lt_succ h)) :=
  ⟨fun _ _ _ => List.setIfInBounds_toArray .., fun _ _ _ => rfl, fun _ _ _ _ => rfl, fun _ => rfl, fun _ _ _ => rfl, fun _ _ _ _ => rfl⟩
section
variable {P : Program} {ops : Array Oper} {Q : Exit → Act → World → Prop} {md : Region.Mode} {S : World → Prop} {oi : Oper} {v : Value} {fuel : Nat} {listed : Array Bool} {a : Act} {w : World}
theorem qT (i : Nat) (h : wpAnyH P md ops Q S fuel (listed.setIfInBounds i true) (a.put oi.dst v) w) (hi : ops[i]? = some oi := by rfl)
    (hs : Region.noSelect ops = true := by kernel_rfl) (hf : Region.free md ops listed i = true := by kernel_rfl) (hr : (Region.ready md ops listed).contains i = true := by kernel_rfl)
    (hy : YieldsIf P ops S oi v a := by exact Or.inl ⟨by rfl, by intro w' hSw; (try dsimp only at hSw); go_simp; all_goals (with_reducible rfl)⟩)
    (hQ : ∀ c a w, Q (.panic c) (a.put oi.dst v) w → Q (.panic c) a w := by exact fun _ _ _ h => h) (hS : S w := by assumption) : wpAnyH P md ops Q S (fuel + 1) listed a w :=
  wpAnyH_take hi hs hf hr hQ hy hS h
theorem qS (i : Nat) (h : wpAnyH P md ops Q S fuel (listed.setIfInBounds i true) (a.put oi.dst undef) w) (hi : ops[i]? = some oi := by rfl)
    (hs : Region.noSelect ops = true := by kernel_rfl) (hf : Region.free md ops listed i = true := by kernel_rfl) (hr : (Region.ready md ops listed).contains i = true := by kernel_rfl)
    (hy : YieldsIf P ops S oi undef a := by exact Or.inr ⟨by rfl, rfl⟩) (hQ : ∀ c a w, Q (.panic c) (a.put oi.dst undef) w → Q (.panic c) a w := by exact fun _ _ _ h => h) (hS : S w := by assumption) : wpAnyH P md ops Q S (fuel + 1) listed a w :=
  wpAnyH_take hi hs hf hr hQ hy hS h
theorem qR (i : Nat) (h : ∀ K' : Act → World → Prop, Shut (∀ a w, S w → (S w → wpAnyH P md ops Q S fuel (listed.setIfInBounds i true) a w) → K' a w) → if Region.wanted oi (yielded ops a.tmps) = true then Oper.wp P oi a w K' Q else K' (a.put oi.dst undef) w)
    (hr : Region.ready md ops listed = [i] := by kernel_rfl) (ho : ops[i]? = some oi := by rfl) : wpAnyH P md ops Q S (fuel + 1) listed a w :=
  wpAnyH_ready hr (by simp) (AllReadyH.cons ho h AllReadyH.nil)
end
theorem block_of_add (a : Addr) (n : Nat) : (a.add n).block = a.block := by unfold Addr.add; split <;> rfl
theorem add_of_add (a : Addr) (i j : Nat) : (a.add i).add j = a.add (i + j) := by
 unfold Addr.add
 by_cases hi : i = 0 <;> by_cases hj : j = 0 <;> simp [hi, hj, Nat.add_assoc]
def ic (l : List Int) : List Value := l.map (Value.int .i64)
theorem ic_length (l : List Int) : (ic l).length = l.length := by simp [ic]
theorem ic_append (l r : List Int) : ic (l ++ r) = ic l ++ ic r := by simp [ic]
theorem ic_one (l : List Int) : ∀ u ∈ ic l, u.oneCell' = true := by
 intro u hu
 simp only [ic, List.mem_map] at hu
 obtain ⟨b, _, rfl⟩ := hu
 rfl
theorem ic_get (l : List Int) (k : Nat) (h : k < l.length) : (ic l)[k]? = some (.int .i64 l[k]) := by simp [ic, h]
theorem ic_drop (l : List Int) (k : Nat) : (ic l).drop k = ic (l.drop k) := by simp [ic]
theorem ic_take (l : List Int) (k : Nat) : (ic l).take k = ic (l.take k) := by simp [ic]
def Rd (w : World) (A : Option Addr) (n : Nat) (xs : List Value) : Prop :=
 xs.length = n ∧ (0 < n → ∃ ad, A = some ad ∧ ad.block < w.heap.size ∧ ∀ j u, xs[j]? = some u → w.cell? (ad.add j) = some u)
section
variable {w w' : World} {n : Nat} {A : Option Addr} {xs : List Value}
theorem Rd.nil : Rd w A 0 [] := ⟨rfl, fun h => absurd h (by omega)⟩
theorem Rd.at_ {k : Nat} (h : Rd w A n xs) (hk : k < n) : ∃ ad u, A = some ad ∧ ad.block < w.heap.size ∧ xs[k]? = some u ∧ w.cell? (ad.add k) = some u := by
 obtain ⟨ad, e, hb, hc⟩ := h.2 (by omega)
 have hl : k < xs.length := by have := h.1; omega
 exact ⟨ad, xs[k], e, hb, List.getElem?_eq_getElem hl, hc k _ (List.getElem?_eq_getElem hl)⟩
theorem Rd.below (h : Rd w A n xs) (hb : Below w.heap.size w w') : Rd w' A n xs :=
 ⟨h.1, fun hn => by
  obtain ⟨ad, e, hB, hc⟩ := h.2 hn
  exact ⟨ad, e, Nat.lt_of_lt_of_le hB hb.size, fun j u hu => (hb.cell (by rw [block_of_add]; exact hB)).trans (hc j u hu)⟩⟩
theorem Rd.drewN (h : Rd w A n xs) (k : Nat) : Rd (w.drewN k) A n xs := h
theorem Rd.alloc (h : Rd w A n xs) (o : Obj) : Rd (w.alloc o) A n xs := h.below ((Below.refl _ _).alloc n! o)
theorem Rd.cutm (h : Rd w A n xs) {k : Nat} (hk : k ≤ n) : Rd w (A.map (fun x => x.add k)) (n - k) (xs.drop k) := by
 refine ⟨by rw [List.length_drop, h.1], fun hn => ?_⟩
 obtain ⟨ad, rfl, hb, hcell⟩ := h.2 (by omega)
 refine ⟨ad.add k, rfl, by rw [block_of_add]; exact hb, fun j u hu => ?_⟩
 rw [add_of_add]
 exact hcell _ u (by rw [← hu, List.getElem?_drop])
theorem Rd.front (h : Rd w A n xs) {k : Nat} (hk : k ≤ n) : Rd w A k (xs.take k) := by
 refine ⟨by rw [List.length_take, h.1]; omega, fun hn => ?_⟩
 obtain ⟨ad, e, hb, hcell⟩ := h.2 (by omega)
 refine ⟨ad, e, hb, fun j u hu => hcell j u ?_⟩
 rw [List.getElem?_take] at hu
 split at hu
 ·exact hu
 ·cases hu
theorem Rd.of_own {base : Nat} {e : TypeId} {c : Nat} (h : w.ownsRow base e 1 (.slice A n c) n xs) : Rd w A n xs := by
 refine ⟨by have := h.1; omega, fun hn => ?_⟩
 obtain ⟨g, cap, hv, _, hlt⟩ := h.form hn
 have hA : A = some ⟨g, 0, none⟩ := by injection hv
 subst hA
 exact ⟨_, rfl, hlt, h.cells (g := g) rfl⟩
end
theorem cell_block {w : World} {a : Addr} {v : Value} (h : w.cell? a = some v) : a.block < w.heap.size := by
 unfold World.cell? at h
 rcases Nat.lt_or_ge a.block w.heap.size with hlt | hge
 ·exact hlt
 ·simp [Array.getElem?_eq_none hge] at h
theorem run_append_rd {P : Program} (w : World) (base : Nat) (t ty e : TypeId) (i : TypeInfo) (z : Value) (bytes : Nat) (ht : P.underlying t = some (.slice e)) (hi : P.info? e = some i) (hz : i.zero = some z)
  (hsize : i.size = 1) (hby : i.bytes = bytes) (hzs : z.cells.size = 1)
  (v : Value) (n : Nat) (xs : List Value) (hown : w.ownsRow base e 1 v n xs)
  (A : Option Addr) (m c : Nat) (news : List Value) (hr : Rd w A m news) (h1 : ∀ u ∈ news, u.oneCell' = true)
  (h63 : n + m ≤ maxLen) (hbytes : (n + m) * bytes ≤ 140737488355328) (hbase : base ≤ w.heap.size) :
  ∃ v' w', (Builtin.append_ #[t, t] ty #[v, .slice A m c]).run P w = .ok v' w' ∧ w'.ownsRow base e 1 v' (n + m) (xs ++ news) ∧ w.grownBy w' v.ownBlock ∧
   (v'.ownBlock = v.ownBlock ∨ v'.ownBlock = some w.heap.size) := by
 rcases A with _ | ad
 ·have hm : m = 0 := by
   rcases Nat.eq_zero_or_pos m with h0 | h0
   ·exact h0
   ·obtain ⟨ad, h, _⟩ := hr.2 h0; cases h
  subst hm
  have hn : news = [] := List.eq_nil_of_length_eq_zero hr.1
  subst hn
  refine ⟨v, w, ?_, by simpa using hown, World.grownBy.refl w _, .inl rfl⟩
  rcases hown.2 with ⟨rfl, rfl⟩ | ⟨g, cap, cur, rfl, _, _, hnc, _⟩
  ·simp [Builtin.append_, run_underlying ht, sizeOf, typeInfo, hi, Builtin.lenOf, Builtin.firstCells]
  ·simp [Builtin.append_, run_underlying ht, sizeOf, typeInfo, hi, Builtin.lenOf, Builtin.firstCells, hnc, storeCells]
 ·have hcells : ∀ j u, news[j]? = some u → w.cell? (ad.add j) = some u := by
   intro j u hu
   rcases Nat.eq_zero_or_pos m with h0 | h0
   ·subst h0
    have hn : news = [] := List.eq_nil_of_length_eq_zero hr.1
    subst hn
    simp at hu
   ·obtain ⟨ad', h, _, hc⟩ := hr.2 h0
    injection h with h
    subst h
    exact hc j u hu
  obtain ⟨v', w', hrun, h2, h3, _, h5⟩ := run_append_own_at (P := P) w base t ty e i z 1 bytes ht hi hz hsize hby hzs (by omega) v n xs hown ad m c news (by have := hr.1; omega) hcells h1 h63 hbytes hbase
  exact ⟨v', w', hrun, h2, h3, h5⟩
theorem wpList_append_rd {P : Program} (w : World) {ops : Array Oper} {rest : List Oper} {o : Oper} {a : Act} {Q : Exit → Act → World → Prop} (hgd : o.guard = none) (s x : Operand) (t : TypeId)
  (ho : o.op = .call { callee := .builtin .append, args := #[s, x], argTypes := #[t, t] })
  (base : Nat) (e : TypeId) (i : TypeInfo) (z : Value) (bytes : Nat) (ht : P.underlying t = some (.slice e)) (hi : P.info? e = some i) (hz : i.zero = some z)
  (hsize : i.size = 1) (hby : i.bytes = bytes) (hzs : z.cells.size = 1)
  (v : Value) (n : Nat) (xs : List Value) (hs : a.eval s = v) (hown : w.ownsRow base e 1 v n xs)
  (A : Option Addr) (m c : Nat) (news : List Value) (hx : a.eval x = .slice A m c) (hr : Rd w A m news) (h1 : ∀ u ∈ news, u.oneCell' = true)
  (h63 : n + m ≤ maxLen) (hbytes : (n + m) * bytes ≤ 140737488355328) (hbase : base ≤ w.heap.size)
  (h : ∀ v' w', w'.ownsRow base e 1 v' (n + m) (xs ++ news) → w.grownBy w' v.ownBlock → (v'.ownBlock = v.ownBlock ∨ v'.ownBlock = some w.heap.size) → wpList P ops Q rest (a.put o.dst v') w') : wpList P ops Q (o :: rest) a w := by
 refine wpList_plain hgd fun K hK => ?_
 obtain ⟨v', w', hrun, h2, h3, h4⟩ := run_append_rd (P := P) w base t o.type e i z bytes ht hi hz hsize hby hzs v n xs hown A m c news hr h1 h63 hbytes hbase
 unfold Oper.wp execOp
 simp only [ho, resolve, invoke, builtin, Sem.run_bind, Sem.run_pure, Result.andThen_ok, List.map_toArray, List.map_cons, List.map_nil, hs, hx, hrun]
 exact hK _ _ (h v' w' h2 h3 h4)
theorem grown_more {a b c : World} {r s : Option Nat} (h : a.grownBy b r) (k : b.grownBy c s) (hs : s = r ∨ ∀ g, s = some g → a.heap.size ≤ g) : a.grownBy c r :=
 ⟨k.os.trans h.os, k.tape.trans h.tape, k.output.trans h.output, Nat.le_trans h.size k.size, fun i hi hne => (k.block i (Nat.lt_of_lt_of_le hi h.size) (by
  rcases hs with rfl | hs
  ·exact hne
  ·intro e; have := hs i e.symm; omega)).trans (h.block i hi hne)⟩
theorem grown_alloc {a b : World} {r : Option Nat} (h : a.grownBy b r) (o : Obj) : a.grownBy (b.alloc o) r :=
 ⟨h.os, h.tape, h.output, Nat.le_trans h.size (by simp), fun i hi hne => (Below.heap_alloc b o i (Nat.lt_of_lt_of_le hi h.size)).trans (h.block i hi hne)⟩
theorem below_of_grown {a b : World} {r : Option Nat} (h : a.grownBy b r) (hr : ∀ g, r = some g → a.heap.size ≤ g) : Below a.heap.size a b :=
 ⟨h.os, h.tape, h.output, h.size, fun i hi => h.block i hi (fun e => by have := hr i e.symm; omega)⟩
theorem below_drewN {B : Nat} {a w : World} (h : Below B a w) (n : Nat) : Below B a (w.drewN n) := ⟨h.os, h.tape, h.output, h.size, h.block⟩
theorem bmore {B : Nat} {a b c : World} (h : Below B a b) (k : Below b.heap.size b c) (hB : B ≤ a.heap.size) : Below B a c := h.trans (k.mono (Nat.le_trans hB h.size))
def Box (w : World) (g : Nat) (t : TypeId) (cs : Array Value) : Prop := w.heap[g]? = some (.cells cs t (0, 0))
section
variable {w w' : World} {g : Nat} {t : TypeId} {cs : Array Value}
theorem Box.lt (h : Box w g t cs) : g < w.heap.size := by
 rcases Nat.lt_or_ge g w.heap.size with hlt | hge
 ·exact hlt
 ·rw [Box, Array.getElem?_eq_none hge] at h; cases h
theorem Box.cell (h : Box w g t cs) (i : Nat) : w.cell? ⟨g, i, none⟩ = cs[i]? := cell_of_row w g i cs t (0, 0) h
theorem Box.frozen (h : Box w g t cs) (i : Nat) : w.frozen? ⟨g, i, none⟩ = false := frozen_of_row w g i cs t h
theorem Box.new (w : World) (t : TypeId) (cs : Array Value) : Box (w.alloc (.cells cs t)) w.heap.size t cs := heap_alloc_new w _
theorem Box.new_at {w : World} {t : TypeId} {cs : Array Value} (g : Nat) (h : w.heap.size = g) : Box (w.alloc (.cells cs t)) g t cs := by subst h; exact Box.new w t cs
theorem Box.alloc (h : Box w g t cs) (o : Obj) : Box (w.alloc o) g t cs := (Below.heap_alloc w o g h.lt).trans h
theorem Box.drew (h : Box w g t cs) : Box w.drew g t cs := h
theorem Box.below {B : Nat} (h : Box w g t cs) (hb : Below B w w') (hg : g < B) : Box w' g t cs := (hb.block g hg).trans h
theorem Box.stored (h : Box w g t cs) (i : Nat) (u : Value) : Box (w.setCell ⟨g, i, none⟩ u) g t (cs.setIfInBounds i u) := heap_setCell_same w g i cs t u h
theorem Box.far (h : Box w g t cs) {p : Addr} (hp : g ≠ p.block) (u : Value) : Box (w.setCell p u) g t cs := (Below.heap_setCell w p u g hp).trans h
end
theorem rd_box {w : World} {g n : Nat} {t : TypeId} {cs : Array Value} {xs : List Value} (h : Box w g t cs) (hx : cs.toList = xs) (hn : xs.length = n) : Rd w (some ⟨g, 0, none⟩) n xs := by
 refine ⟨hn, fun _ => ⟨_, rfl, h.lt, fun j u hu => ?_⟩⟩
 have : (⟨g, 0, none⟩ : Addr).add j = ⟨g, j, none⟩ := by unfold Addr.add; split <;> simp_all
 rw [this, h.cell j, ← hu, ← hx]
 simp
theorem below_put3 {B g : Nat} {a w : World} (h : Below B a w) (hg : B ≤ g) (x y z : Value) : Below B a (((w.setCell ⟨g, 0, none⟩ x).setCell ⟨g, 1, none⟩ y).setCell ⟨g, 2, none⟩ z) := ((h.setCell (p := ⟨g, 0, none⟩) hg x).setCell (p := ⟨g, 1, none⟩) hg y).setCell (p := ⟨g, 2, none⟩) hg z
theorem Box.put3 {w : World} {g : Nat} {t : TypeId} {a b c : Value} (h : Box w g t #[a, b, c]) (x y z : Value) : Box (((w.setCell ⟨g, 0, none⟩ x).setCell ⟨g, 1, none⟩ y).setCell ⟨g, 2, none⟩ z) g t #[x, y, z] := by
 have := ((h.stored 0 x).stored 1 y).stored 2 z
 simpa using this
theorem Box.three {w : World} {g : Nat} {t : TypeId} {a b c : Value} (h : Box w g t #[a, b, c]) :
  w.cell? ⟨g, 0, none⟩ = some a ∧ w.cell? ⟨g, 1, none⟩ = some b ∧ w.cell? ⟨g, 2, none⟩ = some c ∧ w.frozen? ⟨g, 0, none⟩ = false ∧ w.frozen? ⟨g, 1, none⟩ = false ∧ w.frozen? ⟨g, 2, none⟩ = false :=
 ⟨h.cell 0, h.cell 1, h.cell 2, h.frozen 0, h.frozen 1, h.frozen 2⟩
end Go.Proofs.YtiiobafcgdelmaaGreat
namespace BM
def ok (r n : Int) : Prop := 1 ≤ r ∧ r ≤ 1048576 ∧ 0 ≤ n ∧ n < 6
def MakeIs (r n x e : Int) : Prop := (ok r n ∧ x = r * 8 + n ∧ e = 0) ∨ (¬ ok r n ∧ x = 0 ∧ e = 2)
def good (b : Int) : Prop := 8 ≤ b ∧ b ≤ 8388613 ∧ b % 8 < 6
def OfIs (b r n e : Int) : Prop := (good b ∧ r = b / 8 ∧ n = b % 8 ∧ e = 0) ∨ (¬ good b ∧ r = 0 ∧ n = 0 ∧ e = 50)
def asks (a n : Int) : Prop := 0 ≤ n ∧ n < 6 ∧ 0 ≤ a ∧ a ≤ 8388613
def rnd (a n : Int) : Int := if a < 8 then 1 else if n ≤ a % 8 then a / 8 + 1 else a / 8
def NextIs (a n x e : Int) : Prop :=
 (asks a n ∧ rnd a n ≤ 1048576 ∧ x = rnd a n * 8 + n ∧ e = 0) ∨ (asks a n ∧ 1048576 < rnd a n ∧ x = 0 ∧ e = 9) ∨ (¬ asks a n ∧ x = 0 ∧ e = 2)
theorem rnd_pos (a n : Int) : 1 ≤ rnd a n := by
 unfold rnd; split
 ·omega
 ·split <;> omega
theorem ofIs_ex (b : Int) : ∃ r n e, OfIs b r n e := by
 by_cases h : good b
 ·exact ⟨_, _, _, .inl ⟨h, rfl, rfl, rfl⟩⟩
 ·exact ⟨_, _, _, .inr ⟨h, rfl, rfl, rfl⟩⟩
theorem good_iff (b : Int) (h : 0 ≤ b) : good b ↔ ok (b / 8) (b % 8) := by unfold good ok; omega
theorem make_next {a n x y : Int} (h : NextIs a n x y) (ha : asks a n) : ∃ z u, MakeIs (rnd a n) n z u ∧ ((u = 0 ∧ x = z ∧ y = 0) ∨ (u = 2 ∧ x = 0 ∧ y = 9)) := by
 have hr := rnd_pos a n
 have h1 := ha.1
 have h2 := ha.2.1
 rcases h with ⟨_, h5, h6, h7⟩ | ⟨_, h5, h6, h7⟩ | ⟨h, _⟩
 ·exact ⟨_, _, .inl ⟨⟨hr, h5, h1, h2⟩, rfl, rfl⟩, .inl ⟨rfl, h6, h7⟩⟩
 ·exact ⟨_, _, .inr ⟨fun g => by have := g.2.1; omega, rfl, rfl⟩, .inr ⟨rfl, h6, h7⟩⟩
 ·exact absurd ha h
end BM
namespace Go.Proofs.YtiiobafcgdelmaaGreat.QM
def rise : Int → List Int → Bool
 | _, [] => true
 | p, x :: l => decide (p < x) && (decide (x < 6) && rise x l)
def may (l : List Int) : Bool := decide (1 ≤ l.length) && (decide (l.length ≤ 6) && rise (-1) l)
def ChkIs (l : List Int) (y : Int) : Prop := (6 < l.length ∧ y = 4) ∨ (l.length ≤ 6 ∧ may l = false ∧ y = 60) ∨ (may l = true ∧ y = 0)
theorem chkIs_ex (l : List Int) : ∃ y, ChkIs l y := by
 by_cases h : 6 < l.length
 ·exact ⟨4, .inl ⟨h, rfl⟩⟩
 ·by_cases hm : may l = true
  ·exact ⟨0, .inr (.inr ⟨hm, rfl⟩)⟩
  ·exact ⟨60, .inr (.inl ⟨by omega, by simpa using hm, rfl⟩)⟩
theorem may_len {l : List Int} (h : may l = true) : 1 ≤ l.length ∧ l.length ≤ 6 ∧ rise (-1) l = true := by
 unfold may at h
 simpa [Bool.and_eq_true] using h
theorem chkIs_cases {l : List Int} {y : Int} (h : ChkIs l y) : (y = 0 ∧ may l = true) ∨ (may l = false ∧ (y = 4 ∨ y = 60)) := by
 rcases h with ⟨h, rfl⟩ | ⟨_, h, rfl⟩ | ⟨h, rfl⟩
 ·refine .inr ⟨?_, .inl rfl⟩
  rcases hm : may l with _ | _
  ·rfl
  ·have := (may_len hm).2.1; omega
 ·exact .inr ⟨h, .inr rfl⟩
 ·exact .inl ⟨rfl, h⟩
theorem chkIs_eq {l : List Int} {y z : Int} (h : ChkIs l y) (k : ChkIs l z) : y = z := by
 rcases h with ⟨h, rfl⟩ | ⟨h0, h, rfl⟩ | ⟨h, rfl⟩ <;> rcases k with ⟨k, rfl⟩ | ⟨k0, k, rfl⟩ | ⟨k, rfl⟩ <;> first | rfl | omega | (rw [h] at k; cases k) | (have := (may_len k).2.1; omega) | (have := (may_len h).2.1; omega)
def NeedIs (l : List Int) (x y : Int) : Prop := ChkIs l y ∧ ((y = 0 ∧ x = l.length / 2 + 1) ∨ (y ≠ 0 ∧ x = 0))
def has (l : List Int) (x : Int) : Bool := decide (x ∈ l)
def cnt (m n : List Int) : Nat := (m.filter (has n)).length
def MostIs (m n : List Int) (b : Bool) (y : Int) : Prop :=
 (ChkIs m y ∧ y ≠ 0 ∧ b = false) ∨ (ChkIs m 0 ∧ 1000 < n.length ∧ b = false ∧ y = 4) ∨ (ChkIs m 0 ∧ n.length ≤ 1000 ∧ b = decide (m.length / 2 + 1 ≤ cnt m n) ∧ y = 0)
theorem mostIs_ex (m n : List Int) : ∃ b y, MostIs m n b y := by
 obtain ⟨y, h⟩ := chkIs_ex m
 by_cases h0 : y = 0
 ·subst h0
  by_cases h1 : 1000 < n.length
  ·exact ⟨false, 4, .inr (.inl ⟨h, h1, rfl, rfl⟩)⟩
  ·exact ⟨_, 0, .inr (.inr ⟨h, by omega, rfl, rfl⟩)⟩
 ·exact ⟨false, y, .inl ⟨h, h0, rfl⟩⟩
def within (m r : List Int) : Bool := m.all (has r)
def GrpIs (r m : List Int) (y : Int) : Prop :=
 (ChkIs r y ∧ y ≠ 0) ∨ (ChkIs r 0 ∧ ChkIs m y ∧ y ≠ 0) ∨ (ChkIs r 0 ∧ ChkIs m 0 ∧ y = if within m r then 0 else 60)
theorem grpIs_ex (r m : List Int) : ∃ y, GrpIs r m y := by
 obtain ⟨y, h⟩ := chkIs_ex r
 by_cases h0 : y = 0
 ·subst h0
  obtain ⟨z, k⟩ := chkIs_ex m
  by_cases k0 : z = 0
  ·subst k0
   exact ⟨_, .inr (.inr ⟨h, k, rfl⟩)⟩
  ·exact ⟨z, .inr (.inl ⟨h, k, k0⟩)⟩
 ·exact ⟨y, .inl ⟨h, h0⟩⟩
theorem rise_lt : ∀ {p : Int} {l : List Int}, rise p l = true → ∀ x ∈ l, p < x ∧ x < 6
 | _, [], _, x, hx => by simp at hx
 | p, y :: l, h, x, hx => by
  simp only [rise, Bool.and_eq_true, decide_eq_true_eq] at h
  rcases List.mem_cons.1 hx with rfl | hx
  ·exact ⟨h.1, h.2.1⟩
  ·have := rise_lt h.2.2 x hx; omega
theorem rise_nodup : ∀ {p : Int} {l : List Int}, rise p l = true → l.Nodup
 | _, [], _ => List.nodup_nil
 | p, y :: l, h => by
  simp only [rise, Bool.and_eq_true, decide_eq_true_eq] at h
  refine List.nodup_cons.2 ⟨fun hm => ?_, rise_nodup h.2.2⟩
  have := (rise_lt h.2.2 y hm).1
  omega
def add (s : Nat) (x : Int) : Nat := if 0 ≤ x ∧ x < 6 then s ||| 2 ^ x.toNat else s
def setF (s : Nat) (l : List Int) : Nat := l.foldl add s
theorem two_lt {k : Nat} (h : k < 6) : 2 ^ k < 64 := by
 have : 2 ^ k < 2 ^ 6 := Nat.pow_lt_pow_right (by omega) h
 omega
theorem add_lt {s : Nat} {x : Int} (h : s < 64) : add s x < 64 := by
 unfold add
 split
 ·exact Nat.or_lt_two_pow (n := 6) h (two_lt (by omega))
 ·exact h
theorem setF_lt : ∀ {l : List Int} {s : Nat}, s < 64 → setF s l < 64
 | [], s, h => h
 | x :: l, s, h => setF_lt (l := l) (add_lt (x := x) h)
theorem add_bit (s : Nat) (x : Int) (k : Nat) (hk : k < 6) : (add s x).testBit k = (s.testBit k || decide ((k : Int) = x)) := by
 unfold add
 split
 ·rename_i h
  rw [Nat.testBit_or, Nat.testBit_two_pow]
  congr 1
  rw [Bool.eq_iff_iff]
  simp
  omega
 ·rename_i h
  have : ¬ (k : Int) = x := by omega
  simp [this]
theorem setF_bit : ∀ (l : List Int) (s k : Nat), k < 6 → (setF s l).testBit k = (s.testBit k || has l k)
 | [], s, k, _ => by simp [setF, has]
 | x :: l, s, k, hk => by
  have h := setF_bit l (add s x) k hk
  show (setF (add s x) l).testBit k = _
  rw [h, add_bit s x k hk]
  unfold has
  by_cases h1 : (k : Int) = x <;> by_cases h2 : (k : Int) ∈ l <;> simp [h1, h2]
def set (l : List Int) : Nat := setF 0 l
theorem set_lt (l : List Int) : set l < 64 := setF_lt (by omega)
theorem set_bit (l : List Int) (k : Nat) (hk : k < 6) : (set l).testBit k = has l k := by
 rw [set, setF_bit l 0 k hk]; simp
theorem setF_snoc (s : Nat) (l : List Int) (x : Int) : setF s (l ++ [x]) = add (setF s l) x := by simp [setF]
def six (f : Nat → Bool) : Nat := (f 0).toNat + (f 1).toNat + (f 2).toNat + (f 3).toNat + (f 4).toNat + (f 5).toNat
theorem ones_six (x : Nat) (h : x < 64) : Lib.onesCount x = six x.testBit := by
 have : ∀ y : Fin 64, Lib.onesCount y.val = six y.val.testBit := by decide +kernel
 exact this ⟨x, h⟩
theorem six_congr {f g : Nat → Bool} (h : ∀ k, k < 6 → f k = g k) : six f = six g := by
 unfold six
 rw [h 0 (by omega), h 1 (by omega), h 2 (by omega), h 3 (by omega), h 4 (by omega), h 5 (by omega)]
theorem count_six (f : Int → Bool) : ∀ (l : List Int) (p : Int), -1 ≤ p → rise p l = true → (l.filter f).length = six (fun k => has l k && f k)
 | [], p, _, _ => by simp [six, has]
 | x :: l, p, hp, h => by
  have h' := h
  simp only [rise, Bool.and_eq_true, decide_eq_true_eq] at h'
  obtain ⟨h1, h2, h3⟩ := h'
  have ih := count_six f l x (by omega) h3
  have hx : has l x = false := by
   unfold has
   rw [decide_eq_false_iff_not]
   intro hm
   have := (rise_lt h3 x hm).1
   omega
  have hc : ∀ k : Nat, has (x :: l) k = (decide ((k : Int) = x) || has l k) := by
   intro k
   unfold has
   by_cases e1 : (k : Int) = x <;> by_cases e2 : (k : Int) ∈ l <;> simp [e1, e2]
  have hlen : ((x :: l).filter f).length = (f x).toNat + (l.filter f).length := by
   rw [List.filter_cons]
   rcases f x with _ | _ <;> simp [Nat.add_comm]
  rw [hlen, ih]
  simp only [hc]
  obtain ⟨n, rfl⟩ : ∃ n : Nat, x = n := ⟨x.toNat, by omega⟩
  have hn : n < 6 := by omega
  unfold six
  rcases (show n = 0 ∨ n = 1 ∨ n = 2 ∨ n = 3 ∨ n = 4 ∨ n = 5 by omega) with rfl | rfl | rfl | rfl | rfl | rfl <;>
   (simp at hx ⊢; simp [hx]; omega)
theorem ones_cnt {m n : List Int} (h : rise (-1) m = true) : Lib.onesCount (set m &&& set n) = cnt m n := by
 have hlt : set m &&& set n < 64 := Nat.lt_of_le_of_lt Nat.and_le_left (set_lt m)
 rw [ones_six _ hlt, cnt, count_six (has n) m (-1) (by omega) h]
 refine six_congr fun k hk => ?_
 rw [Nat.testBit_and, set_bit m k hk, set_bit n k hk]
theorem within_bits {m r : List Int} (h : rise (-1) m = true) : ((set m &&& (63 ^^^ set r)) = 0) ↔ within m r = true := by
 constructor
 ·intro e
  unfold within
  rw [List.all_eq_true]
  intro x hx
  have hb := rise_lt h x hx
  obtain ⟨k, rfl⟩ : ∃ k : Nat, x = k := ⟨x.toNat, by omega⟩
  have hk : k < 6 := by omega
  have e2 : (set m &&& (63 ^^^ set r)).testBit k = false := by rw [e]; simp
  rw [Nat.testBit_and, Nat.testBit_xor, set_bit m k hk, set_bit r k hk] at e2
  have e3 : has m k = true := by unfold has; simpa using hx
  have e4 : Nat.testBit 63 k = true := by
   have : ∀ j : Fin 6, Nat.testBit 63 j.val = true := by decide
   exact this ⟨k, hk⟩
  rw [e3, e4] at e2
  simpa using e2
 ·intro hw
  unfold within at hw
  rw [List.all_eq_true] at hw
  apply Nat.eq_of_testBit_eq
  intro k
  rw [Nat.zero_testBit, Nat.testBit_and, Nat.testBit_xor]
  rcases Nat.lt_or_ge k 6 with hk | hk
  ·rw [set_bit m k hk, set_bit r k hk]
   have e4 : Nat.testBit 63 k = true := by
    have : ∀ j : Fin 6, Nat.testBit 63 j.val = true := by decide
    exact this ⟨k, hk⟩
   rw [e4]
   by_cases hm : (k : Int) ∈ m
   ·rw [hw _ hm]; simp
   ·have : has m k = false := by unfold has; simpa using hm
    rw [this]; simp
  ·have : (set m).testBit k = false := Nat.testBit_lt_two_pow (Nat.lt_of_lt_of_le (set_lt m) (by
    have : 2 ^ 6 ≤ 2 ^ k := Nat.pow_le_pow_right (by omega) hk
    omega))
   rw [this]; simp
theorem filter_mono {f g : Int → Bool} (l : List Int) (h : ∀ x ∈ l, f x = true → g x = true) : (l.filter f).length ≤ (l.filter g).length := by
 induction l with
 | nil => simp
 | cons x l ih =>
  have h1 := ih (fun y hy => h y (List.mem_cons_of_mem _ hy))
  have h2 := h x (List.mem_cons_self ..)
  rw [List.filter_cons, List.filter_cons]
  rcases hf : f x with _ | _
  ·rcases g x with _ | _
   ·simpa using h1
   ·simp; omega
  ·rw [h2 hf]; simp; omega
theorem cnt_none (m : List Int) : cnt m [] = 0 := by
 unfold cnt
 have : has [] = fun _ => false := by funext x; simp [has]
 rw [this]; simp
theorem cnt_snoc (m n : List Int) (k : Nat) (h : k < m.length) : cnt (m.take (k + 1)) n = cnt (m.take k) n + if has n m[k] then 1 else 0 := by
 unfold cnt
 rw [List.take_succ_eq_append_getElem h, List.filter_append, List.length_append]
 congr 1
 rw [List.filter_cons]
 split <;> simp
end Go.Proofs.YtiiobafcgdelmaaGreat.QM
