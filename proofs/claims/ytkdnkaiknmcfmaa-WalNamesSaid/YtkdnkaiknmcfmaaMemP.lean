/-
  Words for memory: writes that wait (structs of two cells in a row), and disks. No program.
-/
import Derived.Test.YtkdnkaiknmcfmaaMem
import Derived.Test.YtkdnkaiknmcfmaaDiskMath
import Derived.Deep.AppendSrc
import Derived.RegionTactic
import Derived.OwnWalk
namespace Go.Proofs.Ytkdnkaiknmcfmaa
open Go.RowKit

/-- A slice value that reads as bytes. -/
def ByIs (w : World) (v : Value) (b : List UInt8) : Prop := ∃ A c, v = .slice A b.length c ∧ b.length ≤ c ∧ c ≤ maxLen ∧ Rd w A b.length (bc b)
theorem ByIs.below {w w' : World} {v : Value} {b : List UInt8} (h : ByIs w v b) (hb : Below w.heap.size w w') : ByIs w' v b := by
  obtain ⟨A, c, h1, h2, h3, h4⟩ := h
  exact ⟨A, c, h1, h2, h3, h4.below hb⟩
theorem ByIs.of_own {w : World} {base : Nat} {e : TypeId} {v : Value} {b : List UInt8} (h : w.ownsRow base e 1 v b.length (bc b)) : ByIs w v b := by
  obtain ⟨A, c, rfl, h1, h2⟩ := own_slice h
  exact ⟨A, c, rfl, h1, h2, Rd.of_own h⟩
theorem ByIs.nil {w : World} : ByIs w (.slice none 0 0) [] := ⟨none, 0, rfl, Nat.le_refl _, Nat.zero_le _, Rd.nil⟩

/-- A row of pairs: a bool, and a value of one cell. -/
def pc (l : List (Bool × Value)) : List Value := l.flatMap fun p => [Value.bool p.1, p.2]
theorem pc_cons (p : Bool × Value) (l : List (Bool × Value)) : pc (p :: l) = .bool p.1 :: p.2 :: pc l := rfl
theorem pc_append (l r : List (Bool × Value)) : pc (l ++ r) = pc l ++ pc r := by simp [pc]
theorem pc_length (l : List (Bool × Value)) : (pc l).length = l.length * 2 := by
  induction l with
  | nil => rfl
  | cons p l ih => rw [pc_cons, List.length_cons, List.length_cons, ih, List.length_cons]; omega
theorem pc_even : ∀ (l : List (Bool × Value)) (k : Nat) (p : Bool × Value), l[k]? = some p → (pc l)[k * 2]? = some (.bool p.1)
  | [], k, p, h => by simp at h
  | q :: l, 0, p, h => by simp at h; subst h; rfl
  | q :: l, k + 1, p, h => by
    rw [pc_cons, show (k + 1) * 2 = k * 2 + 1 + 1 by omega, List.getElem?_cons_succ, List.getElem?_cons_succ]
    exact pc_even l k p (by simpa using h)
theorem pc_odd : ∀ (l : List (Bool × Value)) (k : Nat) (p : Bool × Value), l[k]? = some p → (pc l)[k * 2 + 1]? = some p.2
  | [], k, p, h => by simp at h
  | q :: l, 0, p, h => by simp at h; subst h; rfl
  | q :: l, k + 1, p, h => by
    rw [pc_cons, show (k + 1) * 2 + 1 = k * 2 + 1 + 1 + 1 by omega, List.getElem?_cons_succ, List.getElem?_cons_succ]
    exact pc_odd l k p (by simpa using h)
theorem pc_take (l : List (Bool × Value)) (k : Nat) : (pc l).take (k * 2) = pc (l.take k) := by
  induction l generalizing k with
  | nil => simp [pc]
  | cons p l ih =>
    cases k with
    | zero => simp [pc]
    | succ k => rw [pc_cons, show (k + 1) * 2 = k * 2 + 1 + 1 by omega, List.take_succ_cons, List.take_succ_cons, ih, List.take_succ_cons, pc_cons]
theorem pc_set (l : List (Bool × Value)) (k : Nat) (u : Value) (b : Bool) (v : Value) (h : l[k]? = some (b, v)) : (pc l).set (k * 2 + 1) u = pc (l.set k (b, u)) := by
  induction l generalizing k with
  | nil => simp at h
  | cons p l ih =>
    cases k with
    | zero => simp at h; subst h; simp [pc]
    | succ k => rw [pc_cons, show (k + 1) * 2 + 1 = k * 2 + 1 + 1 + 1 by omega, List.set_cons_succ, List.set_cons_succ, ih k (by simpa using h), List.set_cons_succ, pc_cons]
theorem pc_one (l : List (Bool × Value)) (h : ∀ p ∈ l, p.2.oneCell' = true) : ∀ u ∈ pc l, u.oneCell' = true := by
  intro u hu
  simp only [pc, List.mem_flatMap] at hu
  obtain ⟨p, hp, hu⟩ := hu
  simp at hu
  rcases hu with rfl | rfl
  · rfl
  · exact h p hp

/-- A slice of n elements (s cells each) at A reads as xs. -/
def RdS (w : World) (s : Nat) (A : Option Addr) (n : Nat) (xs : List Value) : Prop :=
  xs.length = n * s ∧ (0 < n → ∃ ad, A = some ad ∧ ad.block < w.heap.size ∧ ∀ j u, xs[j]? = some u → w.cell? (ad.add j) = some u)
section
variable {w w' : World} {n s : Nat} {A : Option Addr} {xs : List Value}
theorem RdS.nil : RdS w s A 0 [] := ⟨by simp, fun h => absurd h (by omega)⟩
theorem RdS.below (h : RdS w s A n xs) (hb : Below w.heap.size w w') : RdS w' s A n xs :=
  ⟨h.1, fun hn => by
    obtain ⟨ad, e, hB, hc⟩ := h.2 hn
    exact ⟨ad, e, Nat.lt_of_lt_of_le hB hb.size, fun j u hu => (hb.cell (by rw [block_of_add]; exact hB)).trans (hc j u hu)⟩⟩
theorem RdS.of_own {base : Nat} {e : TypeId} {c : Nat} (h : w.ownsRow base e s (.slice A n c) n xs) : RdS w s A n xs := by
  refine ⟨h.1, fun hn => ?_⟩
  obtain ⟨g, cap, hv, _, hlt⟩ := h.form hn
  have hA : A = some ⟨g, 0, none⟩ := by injection hv
  subst hA
  exact ⟨_, rfl, hlt, h.cells (g := g) rfl⟩
theorem RdS.front (h : RdS w s A n xs) {k : Nat} (hk : k ≤ n) : RdS w s A k (xs.take (k * s)) := by
  refine ⟨by rw [List.length_take, h.1]; exact Nat.min_eq_left (Nat.mul_le_mul_right s hk), fun hn => ?_⟩
  obtain ⟨ad, e, hb, hcell⟩ := h.2 (by omega)
  refine ⟨ad, e, hb, fun j u hu => hcell j u ?_⟩
  rw [List.getElem?_take] at hu
  split at hu
  · exact hu
  · cases hu
end

/-- each pair reads as its write -/
def PairsAre (w : World) (l : List (Bool × Value)) (ps : List DM.Wr) : Prop :=
  l.length = ps.length ∧ ∀ (i : Nat) (p : Bool × Value) (q : DM.Wr), l[i]? = some p → ps[i]? = some q → p.1 = q.1 ∧ ByIs w p.2 q.2
theorem PairsAre.below {w w' : World} {l : List (Bool × Value)} {ps : List DM.Wr} (h : PairsAre w l ps) (hb : Below w.heap.size w w') : PairsAre w' l ps :=
  ⟨h.1, fun i p q hp hq => ⟨(h.2 i p q hp hq).1, (h.2 i p q hp hq).2.below hb⟩⟩
theorem PairsAre.take {w : World} {l : List (Bool × Value)} {ps : List DM.Wr} (h : PairsAre w l ps) (k : Nat) : PairsAre w (l.take k) (ps.take k) := by
  refine ⟨by rw [List.length_take, List.length_take, h.1], fun i p q hp hq => ?_⟩
  rw [List.getElem?_take] at hp hq
  split at hp
  · rename_i hlt
    rw [if_pos hlt] at hq
    exact h.2 i p q hp hq
  · cases hp
theorem PairsAre.snoc {w : World} {l : List (Bool × Value)} {ps : List DM.Wr} {p : Bool × Value} {q : DM.Wr} (h : PairsAre w l ps) (h1 : p.1 = q.1) (h2 : ByIs w p.2 q.2) : PairsAre w (l ++ [p]) (ps ++ [q]) := by
  refine ⟨by simp [h.1], fun i p' q' hp hq => ?_⟩
  rcases Nat.lt_or_ge i l.length with hlt | hge
  · rw [List.getElem?_append_left hlt] at hp
    rw [List.getElem?_append_left (by rw [← h.1]; exact hlt)] at hq
    exact h.2 i p' q' hp hq
  · rw [List.getElem?_append_right hge] at hp
    rw [List.getElem?_append_right (by rw [← h.1]; exact hge)] at hq
    rcases Nat.eq_zero_or_pos (i - l.length) with h0 | h0
    · rw [h0] at hp
      rw [← h.1, h0] at hq
      simp at hp hq
      subst hp; subst hq
      exact ⟨h1, h2⟩
    · rw [List.getElem?_eq_none (by simp; omega)] at hp; cases hp
theorem PairsAre.one {w : World} {l : List (Bool × Value)} {ps : List DM.Wr} (h : PairsAre w l ps) : ∀ u ∈ pc l, u.oneCell' = true := by
  refine pc_one l fun p hp => ?_
  obtain ⟨i, hi, rfl⟩ := List.getElem_of_mem hp
  have hi2 : i < ps.length := by rw [← h.1]; exact hi
  obtain ⟨A, c, e, _⟩ := (h.2 i l[i] ps[i] (List.getElem?_eq_getElem hi) (List.getElem?_eq_getElem hi2)).2
  rw [e]; rfl

/-- A slice of writes that reads as ps. -/
def WaitIs (w : World) (B : Option Addr) (m : Nat) (ps : List DM.Wr) : Prop := ps.length = m ∧ ∃ l, RdS w 2 B m (pc l) ∧ PairsAre w l ps
theorem WaitIs.below {w w' : World} {B : Option Addr} {m : Nat} {ps : List DM.Wr} (h : WaitIs w B m ps) (hb : Below w.heap.size w w') : WaitIs w' B m ps := by
  obtain ⟨h0, l, h1, h2⟩ := h
  exact ⟨h0, l, h1.below hb, h2.below hb⟩
theorem WaitIs.nil {w : World} {B : Option Addr} : WaitIs w B 0 [] := ⟨rfl, [], RdS.nil, rfl, fun i p q hp => by simp at hp⟩
theorem WaitIs.front {w : World} {B : Option Addr} {m k : Nat} {ps : List DM.Wr} (h : WaitIs w B m ps) (hk : k ≤ m) : WaitIs w B k (ps.take k) := by
  obtain ⟨h0, l, h1, h2⟩ := h
  refine ⟨by rw [List.length_take]; omega, l.take k, ?_, h2.take k⟩
  have := h1.front hk
  rwa [pc_take] at this
theorem WaitIs.at_ {w : World} {B : Option Addr} {m k : Nat} {ps : List DM.Wr} (h : WaitIs w B m ps) (hk : k < m) :
    ∃ bl o A c s b, B = some ⟨bl, o, none⟩ ∧ bl < w.heap.size ∧ ps[k]? = some (s, b) ∧ w.cell? ⟨bl, o + k * 2, none⟩ = some (.bool s) ∧ w.cell? ⟨bl, o + k * 2 + 1, none⟩ = some (.slice A b.length c) ∧ b.length ≤ c ∧ c ≤ maxLen ∧ Rd w A b.length (bc b) := by
  obtain ⟨h0, l, h1, h2⟩ := h
  obtain ⟨ad, e, hb, hc⟩ := h1.2 (by omega)
  have hkl : k < l.length := by rw [h2.1]; omega
  have hkp : k < ps.length := by omega
  have e1 := List.getElem?_eq_getElem hkl
  have e2 := List.getElem?_eq_getElem hkp
  obtain ⟨g1, A, c, g2, g3, g4, g5⟩ := h2.2 k _ _ e1 e2
  have c0 := hc _ _ (pc_even l k _ e1)
  have c1 := hc _ _ (pc_odd l k _ e1)
  obtain ⟨bl, o, sp⟩ := ad
  have hsp : sp = none := by
    have := World.cell?_spot (hc _ _ (pc_even l 0 _ (List.getElem?_eq_getElem (by omega))))
    simpa [Addr.add] using this
  subst hsp
  rw [g1] at c0
  rw [g2] at c1
  refine ⟨bl, o, A, c, ps[k].1, ps[k].2, e, hb, e2, ?_, ?_, g3, g4, g5⟩
  · rw [← c0]; unfold Addr.add; split <;> simp_all
  · rw [← c1]; simp [Addr.add, Nat.add_assoc]

/-- A disk by value. -/
def DiskIs (w : World) (v : Value) (b : List UInt8) (ps : List DM.Wr) : Prop :=
  ∃ A n c B m d, v = .agg #[.slice A n c, .slice B m d] ∧ n ≤ c ∧ c ≤ maxLen ∧ m ≤ d ∧ d ≤ maxLen ∧ Rd w A n (bc b) ∧ WaitIs w B m ps
theorem DiskIs.below {w w' : World} {v : Value} {b : List UInt8} {ps : List DM.Wr} (h : DiskIs w v b ps) (hb : Below w.heap.size w w') : DiskIs w' v b ps := by
  obtain ⟨A, n, c, B, m, d, h1, h2, h3, h4, h5, h6, h7⟩ := h
  exact ⟨A, n, c, B, m, d, h1, h2, h3, h4, h5, h6.below hb, h7.below hb⟩

/-- A disk in memory of its own, from block 'base' on. -/
def PairsOwn (w : World) (base : Nat) (e : TypeId) (l : List (Bool × Value)) (ps : List DM.Wr) : Prop :=
  l.length = ps.length ∧ ∀ (i : Nat) (p : Bool × Value) (q : DM.Wr), l[i]? = some p → ps[i]? = some q → p.1 = q.1 ∧ w.ownsRow base e 1 p.2 q.2.length (bc q.2)
def DiskOwn (w : World) (base : Nat) (e t : TypeId) (v : Value) (b : List UInt8) (ps : List DM.Wr) : Prop :=
  ∃ x y l, v = .agg #[x, y] ∧ w.ownsRow base e 1 x b.length (bc b) ∧ w.ownsRow base t 2 y ps.length (pc l) ∧ PairsOwn w base e l ps
theorem PairsOwn.are {w : World} {base : Nat} {e : TypeId} {l : List (Bool × Value)} {ps : List DM.Wr} (h : PairsOwn w base e l ps) : PairsAre w l ps :=
  ⟨h.1, fun i p q hp hq => ⟨(h.2 i p q hp hq).1, ByIs.of_own (h.2 i p q hp hq).2⟩⟩
theorem own_slice2 {w : World} {base s : Nat} {e : TypeId} {v : Value} {n : Nat} {xs : List Value} (h : w.ownsRow base e s v n xs) :
    ∃ A c, v = .slice A n c ∧ n ≤ c ∧ c ≤ maxLen := by
  rcases h.2 with ⟨rfl, rfl⟩ | ⟨g, cap, cur, rfl, _, _, hnc, hcm, _⟩
  · exact ⟨none, 0, rfl, Nat.le_refl _, Nat.zero_le _⟩
  · exact ⟨_, cap, rfl, hnc, hcm⟩
theorem DiskOwn.is {w : World} {base : Nat} {e t : TypeId} {v : Value} {b : List UInt8} {ps : List DM.Wr} (h : DiskOwn w base e t v b ps) : DiskIs w v b ps := by
  obtain ⟨x, y, l, rfl, h1, h2, h3⟩ := h
  obtain ⟨A, c, rfl, g1, g2⟩ := own_slice h1
  obtain ⟨B, d, rfl, g3, g4⟩ := own_slice2 h2
  exact ⟨A, _, c, B, _, d, rfl, g1, g2, g3, g4, Rd.of_own h1, rfl, l, RdS.of_own h2, h3.are⟩
theorem own_below2 {w w' : World} {base s : Nat} {e : TypeId} {v : Value} {n : Nat} {xs : List Value} (h : w.ownsRow base e s v n xs) (hb : Below w.heap.size w w') : w'.ownsRow base e s v n xs := by
  refine ⟨h.1, ?_⟩
  rcases h.2 with h0 | ⟨g, cap, cur, hv, hbg, hg, hrest⟩
  · exact .inl h0
  · have hlt : g < w.heap.size := by
      rcases Nat.lt_or_ge g w.heap.size with hlt | hge
      · exact hlt
      · rw [Array.getElem?_eq_none hge] at hg; cases hg
    exact .inr ⟨g, cap, cur, hv, hbg, (hb.block g hlt).trans hg, hrest⟩
theorem own_mono {w : World} {base base' s : Nat} {e : TypeId} {v : Value} {n : Nat} {xs : List Value} (h : w.ownsRow base e s v n xs) (hb : base' ≤ base) : w.ownsRow base' e s v n xs := by
  refine ⟨h.1, ?_⟩
  rcases h.2 with h0 | ⟨g, cap, cur, hv, hbg, hrest⟩
  · exact .inl h0
  · exact .inr ⟨g, cap, cur, hv, Nat.le_trans hb hbg, hrest⟩
theorem PairsOwn.below {w w' : World} {base : Nat} {e : TypeId} {l : List (Bool × Value)} {ps : List DM.Wr} (h : PairsOwn w base e l ps) (hb : Below w.heap.size w w') : PairsOwn w' base e l ps :=
  ⟨h.1, fun i p q hp hq => ⟨(h.2 i p q hp hq).1, own_below2 (h.2 i p q hp hq).2 hb⟩⟩
theorem DiskOwn.below {w w' : World} {base : Nat} {e t : TypeId} {v : Value} {b : List UInt8} {ps : List DM.Wr} (h : DiskOwn w base e t v b ps) (hb : Below w.heap.size w w') : DiskOwn w' base e t v b ps := by
  obtain ⟨x, y, l, h0, h1, h2, h3⟩ := h
  exact ⟨x, y, l, h0, own_below2 h1 hb, own_below2 h2 hb, h3.below hb⟩
theorem DiskOwn.mono {w : World} {base base' : Nat} {e t : TypeId} {v : Value} {b : List UInt8} {ps : List DM.Wr} (h : DiskOwn w base e t v b ps) (hb : base' ≤ base) : DiskOwn w base' e t v b ps := by
  obtain ⟨x, y, l, h0, h1, h2, h3⟩ := h
  exact ⟨x, y, l, h0, own_mono h1 hb, own_mono h2 hb, h3.1, fun i p q hp hq => ⟨(h3.2 i p q hp hq).1, own_mono (h3.2 i p q hp hq).2 hb⟩⟩
theorem DiskOwn.zero {w : World} {base : Nat} {e t : TypeId} : DiskOwn w base e t (.agg #[.slice none 0 0, .slice none 0 0]) [] [] :=
  ⟨_, _, [], rfl, World.ownsRow_nil _ _ _ _, World.ownsRow_nil _ _ _ _, rfl, fun i p q hp => by simp at hp⟩
theorem DiskOwn.data {w : World} {base : Nat} {e t : TypeId} {x : Value} {b : List UInt8} (h : w.ownsRow base e 1 x b.length (bc b)) : DiskOwn w base e t (.agg #[x, .slice none 0 0]) b [] :=
  ⟨_, _, [], rfl, h, World.ownsRow_nil _ _ _ _, rfl, fun i p q hp => by simp at hp⟩

theorem PairsOwn.setBelow {w : World} {base : Nat} {e : TypeId} {l : List (Bool × Value)} {ps : List DM.Wr} (h : PairsOwn w base e l ps) {a : Addr} (ha : a.block < base) (u : Value) : PairsOwn (w.setCell a u) base e l ps :=
  ⟨h.1, fun i p q hp hq => ⟨(h.2 i p q hp hq).1, ownsRow_setCell_below (h.2 i p q hp hq).2 ha u⟩⟩
theorem DiskOwn.setBelow {w : World} {base : Nat} {e t : TypeId} {v : Value} {b : List UInt8} {ps : List DM.Wr} (h : DiskOwn w base e t v b ps) {a : Addr} (ha : a.block < base) (u : Value) : DiskOwn (w.setCell a u) base e t v b ps := by
  obtain ⟨x, y, l, h0, h1, h2, h3⟩ := h
  exact ⟨x, y, l, h0, ownsRow_setCell_below h1 ha u, ownsRow_setCell_below h2 ha u, h3.setBelow ha u⟩
theorem DiskOwn.put {w : World} {base g : Nat} {e t : TypeId} {v : Value} {b : List UInt8} {ps : List DM.Wr} (h : DiskOwn w base e t v b ps) (hg : g < base) (x y : Value) : DiskOwn ((w.setCell ⟨g, 0, none⟩ x).setCell ⟨g, 1, none⟩ y) base e t v b ps :=
  (h.setBelow (a := ⟨g, 0, none⟩) hg x).setBelow (a := ⟨g, 1, none⟩) hg y
theorem below_put {B g : Nat} {a w : World} (h : Below B a w) (hg : B ≤ g) (x y : Value) : Below B a ((w.setCell ⟨g, 0, none⟩ x).setCell ⟨g, 1, none⟩ y) :=
  (h.setCell (p := ⟨g, 0, none⟩) hg x).setCell (p := ⟨g, 1, none⟩) hg y

/-- block g is just the cells cs of element type t, none frozen -/
def Box (w : World) (g : Nat) (t : TypeId) (cs : Array Value) : Prop := w.heap[g]? = some (.cells cs t (0, 0))
section
variable {w w' : World} {g : Nat} {t : TypeId} {cs : Array Value}
theorem Box.lt (h : Box w g t cs) : g < w.heap.size := by
  rcases Nat.lt_or_ge g w.heap.size with hlt | hge
  · exact hlt
  · rw [Box, Array.getElem?_eq_none hge] at h; cases h
theorem Box.cell (h : Box w g t cs) (i : Nat) : w.cell? ⟨g, i, none⟩ = cs[i]? := cell_of_row w g i cs t (0, 0) h
theorem Box.frozen (h : Box w g t cs) (i : Nat) : w.frozen? ⟨g, i, none⟩ = false := frozen_of_row w g i cs t h
theorem Box.new (w : World) (t : TypeId) (cs : Array Value) : Box (w.alloc (.cells cs t)) w.heap.size t cs := heap_alloc_new w _
theorem Box.new_at {w : World} {t : TypeId} {cs : Array Value} (g : Nat) (h : w.heap.size = g) : Box (w.alloc (.cells cs t)) g t cs := by subst h; exact Box.new w t cs
theorem Box.alloc (h : Box w g t cs) (o : Obj) : Box (w.alloc o) g t cs := (Below.heap_alloc w o g h.lt).trans h
theorem Box.drew (h : Box w g t cs) : Box w.drew g t cs := h
theorem Box.below {B : Nat} (h : Box w g t cs) (hb : Below B w w') (hg : g < B) : Box w' g t cs := (hb.block g hg).trans h
theorem Box.stored (h : Box w g t cs) (i : Nat) (u : Value) : Box (w.setCell ⟨g, i, none⟩ u) g t (cs.setIfInBounds i u) := heap_setCell_same w g i cs t u h
theorem Box.far (h : Box w g t cs) {p : Addr} (hp : g ≠ p.block) (u : Value) : Box (w.setCell p u) g t cs := (Below.heap_setCell w p u g hp).trans h
end

theorem rd_box {w : World} {g n : Nat} {t : TypeId} {cs : Array Value} {xs : List Value} (h : Box w g t cs) (hx : cs.toList = xs) (hn : xs.length = n) : Rd w (some ⟨g, 0, none⟩) n xs := by
  refine ⟨hn, fun _ => ⟨_, rfl, h.lt, fun j u hu => ?_⟩⟩
  have : (⟨g, 0, none⟩ : Addr).add j = ⟨g, j, none⟩ := by unfold Addr.add; split <;> simp_all
  rw [this, h.cell j, ← hu, ← hx]
  simp
theorem Box.put {w : World} {g : Nat} {t : TypeId} {a b : Value} (h : Box w g t #[a, b]) (x y : Value) : Box ((w.setCell ⟨g, 0, none⟩ x).setCell ⟨g, 1, none⟩ y) g t #[x, y] := by
  have := (h.stored 0 x).stored 1 y
  simpa using this
theorem Box.putFar {w : World} {g g' : Nat} {t : TypeId} {cs : Array Value} (h : Box w g t cs) (hg : g ≠ g') (x y : Value) : Box ((w.setCell ⟨g', 0, none⟩ x).setCell ⟨g', 1, none⟩ y) g t cs :=
  (h.far (p := ⟨g', 0, none⟩) hg x).far (p := ⟨g', 1, none⟩) hg y
theorem disk_lit {w : World} {A : Option Addr} {n c : Nat} {b : List UInt8} (h : Rd w A n (bc b)) (hc : n ≤ c) (hm : c ≤ maxLen) : DiskIs w (.agg #[.slice A n c, .slice none 0 0]) b [] :=
  ⟨A, n, c, none, 0, 0, rfl, hc, hm, Nat.le_refl _, Nat.zero_le _, h, WaitIs.nil⟩

/-- a row stays owned where a block of another element type is written -/
theorem own_far {w : World} {base s n gw i : Nat} {e t : TypeId} {v u : Value} {xs : List Value} {cs : Array Value} (h : w.ownsRow base e s v n xs) (hb : Box w gw t cs) (hne : e ≠ t) : (w.setCell ⟨gw, i, none⟩ u).ownsRow base e s v n xs := by
  refine ⟨h.1, ?_⟩
  rcases h.2 with h0 | ⟨g, cap, cur, hv, hbg, hg, hrest⟩
  · exact .inl h0
  · have hgw : g ≠ gw := by
      rintro rfl
      rw [Box, hg] at hb
      injection hb with hb
      injection hb with _ ht
      exact hne ht
    exact .inr ⟨g, cap, cur, hv, hbg, (Below.heap_setCell w ⟨gw, i, none⟩ u g hgw).trans hg, hrest⟩
theorem own_box {w : World} {base s n gw cap : Nat} {e : TypeId} {xs : List Value} (h : w.ownsRow base e s (.slice (some ⟨gw, 0, none⟩) n cap) n xs) : base ≤ gw ∧ ∃ cs, Box w gw e cs := by
  rcases h.2 with ⟨h', _⟩ | ⟨g', cap', cur, h', hb, hg, _⟩
  · simp at h'
  · simp only [Value.slice.injEq, Option.some.injEq, Addr.mk.injEq, and_true, true_and] at h'
    obtain ⟨rfl, rfl⟩ := h'
    exact ⟨hb, cur, hg⟩

/-- append of one element (s cells) behind a slice without spare room: a new row -/
theorem run_append_full {P : Program} (w : World) (t ty e : TypeId) (i : TypeInfo) (z : Value) (s bytes : Nat) (ht : P.underlying t = some (.slice e)) (hi : P.info? e = some i) (hz : i.zero = some z)
    (hsize : i.size = s) (hby : i.bytes = bytes) (hzs : z.cells.size = s)
    (A : Option Addr) (n : Nat) (xs : List Value) (hr : RdS w s A n xs) (x : Addr) (c : Nat) (news : List Value) (hx : RdS w s (some x) 1 news) (h1 : ∀ u ∈ news, u.oneCell' = true)
    (h63 : n + 1 ≤ maxLen) (hbytes : (n + 1) * bytes ≤ 140737488355328) :
    ∃ cap w', (Builtin.append_ #[t, t] ty #[.slice A n n, .slice (some x) 1 c]).run P w = .ok (.slice (some ⟨w.heap.size, 0, none⟩) (n + 1) cap) w' ∧ w'.ownsRow w.heap.size e s (.slice (some ⟨w.heap.size, 0, none⟩) (n + 1) cap) (n + 1) (xs ++ news) ∧ Below w.heap.size w w' ∧ w.heap.size < w'.heap.size := by
  subst hsize
  subst hby
  obtain ⟨ad, e1, _, hnews⟩ := hx.2 (by omega)
  injection e1 with e1
  subst e1
  have hold : (Builtin.firstCells i.size n (.slice A n n)).run P w.drew = .ok xs.toArray w.drew := by
    rcases A with _ | a
    · have hn : n = 0 := by
        rcases Nat.eq_zero_or_pos n with h0 | h0
        · exact h0
        · obtain ⟨ad, h, _⟩ := hr.2 h0; cases h
      subst hn
      have hn : xs = [] := List.eq_nil_of_length_eq_zero (by simpa using hr.1)
      subst hn
      exact run_firstCells_none w.drew _ _ _ _
    · refine run_firstCells_some w.drew i.size n a n n xs hr.1 fun j v hv => ?_
      rcases Nat.eq_zero_or_pos n with h0 | h0
      · subst h0
        have hn : xs = [] := List.eq_nil_of_length_eq_zero (by simpa using hr.1)
        subst hn
        simp at hv
      · obtain ⟨ad, h, _, hc⟩ := hr.2 h0
        injection h with h
        subst h
        exact hc j v hv
  have hsm : n + 1 ≤ 9223372036854775807 := by unfold maxLen at h63; omega
  have hrun := run_append_grow_src (P := P) w t t ty e i z ht hi hz A n n xs hold (.slice (some x) 1 c) 1 news (Src.ofSlice w ht x 1 c news hx.1 hnews h1) (by omega) (by omega) (growslice_fits (by omega) hbytes)
  have hge := grownCap_ge w (n + 1) n e
  have hcm := grownCap_le_maxLen w (n + 1) n e h63
  have hlen : (xs ++ news).length = (n + 1) * i.size := by rw [List.length_append, hr.1, hx.1, Nat.add_mul]
  refine ⟨_, _, hrun, ⟨hlen, .inr ⟨w.heap.size, _, _, rfl, Nat.le_refl _, heap_alloc_new w.drew _, hge, hcm, ?_, ?_⟩⟩, (((Below.refl _ _).drew).alloc (Nat.le_refl _) _), by simp⟩
  · simp only [Array.size_append, List.size_toArray, size_zeroCells, hzs, hlen, ← Nat.add_mul]
    congr 1
    omega
  · simp only [Array.toList_append]
    rw [← hlen]
    exact List.take_left
theorem wp_append_full {P : Program} (w : World) {o : Oper} {a : Act} {K : Act → World → Prop} {Q : Exit → Act → World → Prop} (so xo : Operand) (t : TypeId)
    (ho : o.op = .call { callee := .builtin .append, args := #[so, xo], argTypes := #[t, t] })
    (e : TypeId) (i : TypeInfo) (z : Value) (s bytes : Nat) (ht : P.underlying t = some (.slice e)) (hi : P.info? e = some i) (hz : i.zero = some z) (hsize : i.size = s) (hby : i.bytes = bytes) (hzs : z.cells.size = s)
    (A : Option Addr) (n : Nat) (xs : List Value) (hs : a.eval so = .slice A n n) (hr : RdS w s A n xs) (x : Addr) (c : Nat) (news : List Value) (hxo : a.eval xo = .slice (some x) 1 c) (hx : RdS w s (some x) 1 news) (h1 : ∀ u ∈ news, u.oneCell' = true)
    (h63 : n + 1 ≤ maxLen) (hbytes : (n + 1) * bytes ≤ 140737488355328)
    (H : Nat) (hH : w.heap.size = H)
    (h : ∀ cap w', w'.ownsRow H e s (.slice (some ⟨H, 0, none⟩) (n + 1) cap) (n + 1) (xs ++ news) → Below H w w' → H < w'.heap.size → K (a.put o.dst (.slice (some ⟨H, 0, none⟩) (n + 1) cap)) w') : o.wp P a w K Q := by
  obtain ⟨v', w', hrun, h2, h3, h4⟩ := run_append_full (P := P) w t o.type e i z s bytes ht hi hz hsize hby hzs A n xs hr x c news hx h1 h63 hbytes
  subst hH
  unfold Oper.wp execOp
  simp only [ho, resolve, invoke, builtin, Sem.run_bind, Sem.run_pure, Result.andThen_ok, List.map_toArray, List.map_cons, List.map_nil, hs, hxo, hrun]
  exact h v' w' h2 h3 h4
theorem step_append_full {P : Program} (w : World) {ops : Array Oper} {o : Oper} {a : Act} {K : Act → World → Prop} {Q : Exit → Act → World → Prop} {E : Prop} (hgd : o.guard = none) (so xo : Operand) (t : TypeId)
    (ho : o.op = .call { callee := .builtin .append, args := #[so, xo], argTypes := #[t, t] })
    (e : TypeId) (i : TypeInfo) (z : Value) (s bytes : Nat) (ht : P.underlying t = some (.slice e)) (hi : P.info? e = some i) (hz : i.zero = some z) (hsize : i.size = s) (hby : i.bytes = bytes) (hzs : z.cells.size = s)
    (A : Option Addr) (n : Nat) (xs : List Value) (hs : a.eval so = .slice A n n) (hr : RdS w s A n xs) (x : Addr) (c : Nat) (news : List Value) (hxo : a.eval xo = .slice (some x) 1 c) (hx : RdS w s (some x) 1 news) (h1 : ∀ u ∈ news, u.oneCell' = true)
    (h63 : n + 1 ≤ maxLen) (hbytes : (n + 1) * bytes ≤ 140737488355328)
    (H : Nat) (hH : w.heap.size = H)
    (h : ∀ cap w', w'.ownsRow H e s (.slice (some ⟨H, 0, none⟩) (n + 1) cap) (n + 1) (xs ++ news) → Below H w w' → H < w'.heap.size → K (a.put o.dst (.slice (some ⟨H, 0, none⟩) (n + 1) cap)) w') :
    if Region.wanted o (yielded ops a.tmps) = true then Oper.wp P o a w K Q else E := by
  have hw : Region.wanted o (yielded ops a.tmps) = true := by simp [Region.wanted, hgd]
  rw [if_pos hw]
  exact wp_append_full w so xo t ho e i z s bytes ht hi hz hsize hby hzs A n xs hs hr x c news hxo hx h1 h63 hbytes H hH h
/-- the two-cell block that is laid first reads as its cells -/
theorem rdS_new (w : World) (x y : Value) (t : TypeId) : RdS (w.alloc (.cells #[x, y] t)) 2 (some ⟨w.heap.size, 0, none⟩) 1 [x, y] := by
  refine ⟨rfl, fun _ => ⟨_, rfl, by simp, fun j u hu => ?_⟩⟩
  match j, hu with
  | 0, hu => simp at hu; subst hu; simp [Addr.add]
  | 1, hu => simp at hu; subst hu; simp [Addr.add]
theorem RdS.drew {w : World} {s n : Nat} {A : Option Addr} {xs : List Value} (h : RdS w s A n xs) : RdS w.drew s A n xs := h
theorem RdS.alloc {w : World} {s n : Nat} {A : Option Addr} {xs : List Value} (h : RdS w s A n xs) (o : Obj) : RdS (w.alloc o) s A n xs := h.below ((Below.refl _ _).alloc (Nat.le_refl _) o)
end Go.Proofs.Ytkdnkaiknmcfmaa
