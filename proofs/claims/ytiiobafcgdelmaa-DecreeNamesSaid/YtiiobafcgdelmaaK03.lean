/-
  Words for memory: promises (structs of three cells) in a row, attempts by value, a block of seven cells. No walk.
  Attempts in memory of their own: their form; they stay where a variable that holds an attempt is stored into. No walk.
  Words for memory: append of whatever slice onto a row of the call's own, elements of s cells. No walk.
-/
import Derived.Test.YtiiobafcgdelmaaK01
import Derived.Test.YtiiobafcgdelmaaK02
namespace Go.Proofs.Ytiiobafcgdelmaa
open Go.RowKit
set_option linter.unusedVariables false

def pp (l : List AM.Pr) : List Value := l.flatMap fun p => [Value.int .i64 p.n, Value.int .i64 p.b, Value.string p.v]
theorem pp_cons (p : AM.Pr) (l : List AM.Pr) : pp (p :: l) = .int .i64 p.n :: .int .i64 p.b :: .string p.v :: pp l := rfl
theorem pp_append (l r : List AM.Pr) : pp (l ++ r) = pp l ++ pp r := by simp [pp]
theorem pp_length (l : List AM.Pr) : (pp l).length = l.length * 3 := by
  induction l with
  | nil => rfl
  | cons p l ih => rw [pp_cons, List.length_cons, List.length_cons, List.length_cons, ih, List.length_cons]; omega
theorem pp_get : ∀ (l : List AM.Pr) (k : Nat) (p : AM.Pr), l[k]? = some p → (pp l)[k * 3]? = some (.int .i64 p.n) ∧ (pp l)[k * 3 + 1]? = some (.int .i64 p.b) ∧ (pp l)[k * 3 + 2]? = some (.string p.v)
  | [], k, p, h => by simp at h
  | q :: l, 0, p, h => by simp at h; subst h; exact ⟨rfl, rfl, rfl⟩
  | q :: l, k + 1, p, h => by
    rw [pp_cons, show (k + 1) * 3 + 1 = k * 3 + 1 + 1 + 1 + 1 by omega, show (k + 1) * 3 + 2 = k * 3 + 2 + 1 + 1 + 1 by omega, show (k + 1) * 3 = k * 3 + 1 + 1 + 1 by omega]
    simp only [List.getElem?_cons_succ]
    exact pp_get l k p (by simpa using h)
theorem pp_take (l : List AM.Pr) (k : Nat) : (pp l).take (k * 3) = pp (l.take k) := by
  induction l generalizing k with
  | nil => simp [pp]
  | cons p l ih =>
    cases k with
    | zero => simp [pp]
    | succ k => rw [pp_cons, show (k + 1) * 3 = k * 3 + 1 + 1 + 1 by omega, List.take_succ_cons, List.take_succ_cons, List.take_succ_cons, ih, List.take_succ_cons, pp_cons]
theorem pp_drop (l : List AM.Pr) (k : Nat) : (pp l).drop (k * 3) = pp (l.drop k) := by
  induction l generalizing k with
  | nil => simp [pp]
  | cons p l ih =>
    cases k with
    | zero => simp
    | succ k => rw [pp_cons, show (k + 1) * 3 = k * 3 + 1 + 1 + 1 by omega, List.drop_succ_cons, List.drop_succ_cons, List.drop_succ_cons, ih, List.drop_succ_cons]
theorem pp_one (l : List AM.Pr) : ∀ u ∈ pp l, u.oneCell' = true := by
  intro u hu
  simp only [pp, List.mem_flatMap] at hu
  obtain ⟨p, hp, hu⟩ := hu
  simp at hu
  rcases hu with rfl | rfl | rfl <;> rfl

/-- A slice of n promises at B reads as ps. -/
def RdP (w : World) (B : Option Addr) (m : Nat) (ps : List AM.Pr) : Prop :=
  ps.length = m ∧ (0 < m → ∃ ad, B = some ad ∧ ad.block < w.heap.size ∧ ∀ j u, (pp ps)[j]? = some u → w.cell? (ad.add j) = some u)
section
variable {w w' : World} {m : Nat} {B : Option Addr} {ps : List AM.Pr}
theorem RdP.nil : RdP w B 0 [] := ⟨rfl, fun h => absurd h (by omega)⟩
theorem RdP.below (h : RdP w B m ps) (hb : Below w.heap.size w w') : RdP w' B m ps :=
  ⟨h.1, fun hn => by
    obtain ⟨ad, e, hB, hc⟩ := h.2 hn
    exact ⟨ad, e, Nat.lt_of_lt_of_le hB hb.size, fun j u hu => (hb.cell (by rw [block_of_add]; exact hB)).trans (hc j u hu)⟩⟩
theorem RdP.drewN (h : RdP w B m ps) (k : Nat) : RdP (w.drewN k) B m ps := h
theorem RdP.alloc (h : RdP w B m ps) (o : Obj) : RdP (w.alloc o) B m ps := h.below ((Below.refl _ _).alloc (Nat.le_refl _) o)
theorem RdP.of_own {base : Nat} {e : TypeId} {c : Nat} (h : w.ownsRow base e 3 (.slice B m c) m (pp ps)) : RdP w B m ps := by
  refine ⟨by have := h.1; rw [pp_length] at this; omega, fun hn => ?_⟩
  obtain ⟨g, cap, hv, _, hlt⟩ := h.form hn
  have hA : B = some ⟨g, 0, none⟩ := by injection hv
  subst hA
  exact ⟨_, rfl, hlt, h.cells (g := g) rfl⟩
theorem RdP.at_ {k : Nat} (h : RdP w B m ps) (hk : k < m) : ∃ bl o p, B = some ⟨bl, o, none⟩ ∧ bl < w.heap.size ∧ ps[k]? = some p ∧
    w.cell? ⟨bl, o + k * 3, none⟩ = some (.int .i64 p.n) ∧ w.cell? ⟨bl, o + k * 3 + 1, none⟩ = some (.int .i64 p.b) ∧ w.cell? ⟨bl, o + k * 3 + 2, none⟩ = some (.string p.v) := by
  obtain ⟨ad, e, hb, hc⟩ := h.2 (by omega)
  have hkp : k < ps.length := by rw [h.1]; exact hk
  have e1 := List.getElem?_eq_getElem hkp
  obtain ⟨g0, g1, g2⟩ := pp_get ps k _ e1
  have c0 := hc _ _ g0
  have c1 := hc _ _ g1
  have c2 := hc _ _ g2
  obtain ⟨bl, o, sp⟩ := ad
  have hsp : sp = none := by
    have := World.cell?_spot (hc _ _ (pp_get ps 0 _ (List.getElem?_eq_getElem (by omega))).1)
    simpa [Addr.add] using this
  subst hsp
  refine ⟨bl, o, ps[k], e, hb, e1, ?_, ?_, ?_⟩
  · rw [← c0]; unfold Addr.add; split <;> simp_all
  · rw [← c1]; simp [Addr.add, Nat.add_assoc]
  · rw [← c2]; simp [Addr.add, Nat.add_assoc]
theorem RdP.front (h : RdP w B m ps) {k : Nat} (hk : k ≤ m) : RdP w B k (ps.take k) := by
  refine ⟨by rw [List.length_take, h.1]; exact Nat.min_eq_left hk, fun hn => ?_⟩
  obtain ⟨ad, e, hb, hcell⟩ := h.2 (by omega)
  refine ⟨ad, e, hb, fun j u hu => hcell j u ?_⟩
  rw [← pp_take, List.getElem?_take] at hu
  split at hu
  · exact hu
  · cases hu
theorem RdP.cut (h : RdP w B m ps) {k : Nat} (hk : k ≤ m) : RdP w (B.map (fun x => x.add (k * 3))) (m - k) (ps.drop k) := by
  refine ⟨by rw [List.length_drop, h.1], fun hn => ?_⟩
  obtain ⟨ad, rfl, hb, hcell⟩ := h.2 (by omega)
  refine ⟨ad.add (k * 3), rfl, by rw [block_of_add]; exact hb, fun j u hu => ?_⟩
  rw [add_of_add]
  refine hcell _ u ?_
  rw [← pp_drop, List.getElem?_drop] at hu
  exact hu
end

/-- what fits: numbers, and lengths that are not great -/
structure FitP (p : AM.Pr) : Prop where
  b1 : -9223372036854775808 ≤ p.b
  b2 : p.b ≤ 9223372036854775807
  v : p.v.size ≤ maxLen
structure Fit (a : AM.At) : Prop where
  p1 : 0 ≤ a.ph
  p2 : a.ph ≤ 255
  b1 : -9223372036854775808 ≤ a.ba
  b2 : a.ba ≤ 9223372036854775807
  wi : a.wi.size ≤ maxLen
  ms : a.ms.length ≤ 2000
  ps : a.ps.length ≤ 2000
  ac : a.ac.length ≤ 2000
  all : ∀ p ∈ a.ps, FitP p
theorem fit_zero : Fit AM.zero := ⟨by decide, by decide, by decide, by decide, by decide, by decide, by decide, by decide, fun p h => by cases h⟩

/-- An attempt by value reads as a. -/
def AtIs (w : World) (v : Value) (a : AM.At) : Prop :=
  ∃ A n c B m d C k f, v = .agg #[.int .u8 a.ph, .int .i64 a.ba, .slice A n c, .string a.wi, .string a.va, .slice B m d, .slice C k f] ∧ Rd w A n (ic a.ms) ∧ RdP w B m a.ps ∧ Rd w C k (ic a.ac)
theorem AtIs.below {w w' : World} {v : Value} {a : AM.At} (h : AtIs w v a) (hb : Below w.heap.size w w') : AtIs w' v a := by
  obtain ⟨A, n, c, B, m, d, C, k, f, e, h1, h2, h3⟩ := h
  exact ⟨A, n, c, B, m, d, C, k, f, e, h1.below hb, h2.below hb, h3.below hb⟩
theorem AtIs.alloc {w : World} {v : Value} {a : AM.At} (h : AtIs w v a) (o : Obj) : AtIs (w.alloc o) v a := h.below ((Below.refl _ _).alloc (Nat.le_refl _) o)
theorem AtIs.zero (w : World) : AtIs w (.agg #[.int .u8 0, .int .i64 0, .slice none 0 0, .string .empty, .string .empty, .slice none 0 0, .slice none 0 0]) AM.zero :=
  ⟨none, 0, 0, none, 0, 0, none, 0, 0, rfl, Rd.nil, RdP.nil, Rd.nil⟩

theorem own_below3 {w w' : World} {base s : Nat} {e : TypeId} {v : Value} {n : Nat} {xs : List Value} (h : w.ownsRow base e s v n xs) (hb : Below w.heap.size w w') : w'.ownsRow base e s v n xs := by
  refine ⟨h.1, ?_⟩
  rcases h.2 with h0 | ⟨g, cap, cur, hv, hbg, hg, hrest⟩
  · exact .inl h0
  · have hlt : g < w.heap.size := by
      rcases Nat.lt_or_ge g w.heap.size with hlt | hge
      · exact hlt
      · rw [Array.getElem?_eq_none hge] at hg; cases hg
    exact .inr ⟨g, cap, cur, hv, hbg, (hb.block g hlt).trans hg, hrest⟩
theorem own_base {w : World} {base base' s : Nat} {e : TypeId} {v : Value} {n : Nat} {xs : List Value} (h : w.ownsRow base e s v n xs) (hb : base' ≤ base) : w.ownsRow base' e s v n xs := by
  refine ⟨h.1, ?_⟩
  rcases h.2 with h0 | ⟨g, cap, cur, hv, hbg, hrest⟩
  · exact .inl h0
  · exact .inr ⟨g, cap, cur, hv, Nat.le_trans hb hbg, hrest⟩
theorem own_form {w : World} {base s : Nat} {e : TypeId} {v : Value} {n : Nat} {xs : List Value} (h : w.ownsRow base e s v n xs) :
    ∃ A c, v = .slice A n c ∧ n ≤ c ∧ c ≤ maxLen := by
  rcases h.2 with ⟨rfl, rfl⟩ | ⟨g, cap, cur, rfl, _, _, hnc, hcm, _⟩
  · exact ⟨none, 0, rfl, Nat.le_refl _, Nat.zero_le _⟩
  · exact ⟨_, cap, rfl, hnc, hcm⟩
/-- An attempt in memory of its own, from block 'base' on. -/
def AtOwn (w : World) (base : Nat) (v : Value) (a : AM.At) : Prop :=
  ∃ x y z, v = .agg #[.int .u8 a.ph, .int .i64 a.ba, x, .string a.wi, .string a.va, y, z] ∧ w.ownsRow base 3 1 x a.ms.length (ic a.ms) ∧ w.ownsRow base 79 3 y a.ps.length (pp a.ps) ∧ w.ownsRow base 3 1 z a.ac.length (ic a.ac)
theorem AtOwn.is {w : World} {base : Nat} {v : Value} {a : AM.At} (h : AtOwn w base v a) : AtIs w v a := by
  obtain ⟨x, y, z, rfl, h1, h2, h3⟩ := h
  obtain ⟨A, c, rfl, _, _⟩ := own_form h1
  obtain ⟨B, d, rfl, _, _⟩ := own_form h2
  obtain ⟨C, f, rfl, _, _⟩ := own_form h3
  exact ⟨A, _, c, B, _, d, C, _, f, rfl, Rd.of_own h1, RdP.of_own h2, Rd.of_own h3⟩
theorem AtOwn.below {w w' : World} {base : Nat} {v : Value} {a : AM.At} (h : AtOwn w base v a) (hb : Below w.heap.size w w') : AtOwn w' base v a := by
  obtain ⟨x, y, z, e, h1, h2, h3⟩ := h
  exact ⟨x, y, z, e, own_below3 h1 hb, own_below3 h2 hb, own_below3 h3 hb⟩
theorem AtOwn.mono {w : World} {base base' : Nat} {v : Value} {a : AM.At} (h : AtOwn w base v a) (hb : base' ≤ base) : AtOwn w base' v a := by
  obtain ⟨x, y, z, e, h1, h2, h3⟩ := h
  exact ⟨x, y, z, e, own_base h1 hb, own_base h2 hb, own_base h3 hb⟩
theorem AtOwn.zero (w : World) (base : Nat) : AtOwn w base (.agg #[.int .u8 0, .int .i64 0, .slice none 0 0, .string .empty, .string .empty, .slice none 0 0, .slice none 0 0]) AM.zero :=
  ⟨_, _, _, rfl, World.ownsRow_nil _ _ _ _, World.ownsRow_nil _ _ _ _, World.ownsRow_nil _ _ _ _⟩

/-- seven cells -/
theorem Box.seven {w : World} {g : Nat} {t : TypeId} {a b c d e f i : Value} (h : Box w g t #[a, b, c, d, e, f, i]) :
    (w.cell? ⟨g, 0, none⟩ = some a ∧ w.cell? ⟨g, 1, none⟩ = some b ∧ w.cell? ⟨g, 2, none⟩ = some c ∧ w.cell? ⟨g, 3, none⟩ = some d ∧ w.cell? ⟨g, 4, none⟩ = some e ∧ w.cell? ⟨g, 5, none⟩ = some f ∧ w.cell? ⟨g, 6, none⟩ = some i) ∧
    (w.frozen? ⟨g, 0, none⟩ = false ∧ w.frozen? ⟨g, 1, none⟩ = false ∧ w.frozen? ⟨g, 2, none⟩ = false ∧ w.frozen? ⟨g, 3, none⟩ = false ∧ w.frozen? ⟨g, 4, none⟩ = false ∧ w.frozen? ⟨g, 5, none⟩ = false ∧ w.frozen? ⟨g, 6, none⟩ = false) :=
  ⟨⟨h.cell 0, h.cell 1, h.cell 2, h.cell 3, h.cell 4, h.cell 5, h.cell 6⟩, h.frozen 0, h.frozen 1, h.frozen 2, h.frozen 3, h.frozen 4, h.frozen 5, h.frozen 6⟩
/-- seven cells stored -/
def put7 (w : World) (g : Nat) (a b c d e f i : Value) : World :=
  ((((((w.setCell ⟨g, 0, none⟩ a).setCell ⟨g, 1, none⟩ b).setCell ⟨g, 2, none⟩ c).setCell ⟨g, 3, none⟩ d).setCell ⟨g, 4, none⟩ e).setCell ⟨g, 5, none⟩ f).setCell ⟨g, 6, none⟩ i
theorem below_put7 {B g : Nat} {u w : World} (h : Below B u w) (hg : B ≤ g) (a b c d e f i : Value) : Below B u (put7 w g a b c d e f i) :=
  ((((((h.setCell (p := ⟨g, 0, none⟩) hg a).setCell (p := ⟨g, 1, none⟩) hg b).setCell (p := ⟨g, 2, none⟩) hg c).setCell (p := ⟨g, 3, none⟩) hg d).setCell (p := ⟨g, 4, none⟩) hg e).setCell (p := ⟨g, 5, none⟩) hg f).setCell (p := ⟨g, 6, none⟩) hg i
theorem Box.put7 {w : World} {g : Nat} {t : TypeId} {a b c d e f i : Value} (h : Box w g t #[a, b, c, d, e, f, i]) (a' b' c' d' e' f' i' : Value) : Box (put7 w g a' b' c' d' e' f' i') g t #[a', b', c', d', e', f', i'] := by
  have := ((((((h.stored 0 a').stored 1 b').stored 2 c').stored 3 d').stored 4 e').stored 5 f').stored 6 i'
  simpa [Go.Proofs.Ytiiobafcgdelmaa.put7] using this
theorem Box.putFar7 {w : World} {g g' : Nat} {t : TypeId} {cs : Array Value} (h : Box w g t cs) (hg : g ≠ g') (a b c d e f i : Value) : Box (Go.Proofs.Ytiiobafcgdelmaa.put7 w g' a b c d e f i) g t cs :=
  ((((((h.far (p := ⟨g', 0, none⟩) hg a).far (p := ⟨g', 1, none⟩) hg b).far (p := ⟨g', 2, none⟩) hg c).far (p := ⟨g', 3, none⟩) hg d).far (p := ⟨g', 4, none⟩) hg e).far (p := ⟨g', 5, none⟩) hg f).far (p := ⟨g', 6, none⟩) hg i
theorem own_put7 {w : World} {base g s n : Nat} {e : TypeId} {v : Value} {xs : List Value} (h : w.ownsRow base e s v n xs) (hg : g < base) (a b c d p f i : Value) : (put7 w g a b c d p f i).ownsRow base e s v n xs :=
  ownsRow_setCell_below (ownsRow_setCell_below (ownsRow_setCell_below (ownsRow_setCell_below (ownsRow_setCell_below (ownsRow_setCell_below (ownsRow_setCell_below h (a := ⟨g, 0, none⟩) hg a) (a := ⟨g, 1, none⟩) hg b) (a := ⟨g, 2, none⟩) hg c) (a := ⟨g, 3, none⟩) hg d) (a := ⟨g, 4, none⟩) hg p) (a := ⟨g, 5, none⟩) hg f) (a := ⟨g, 6, none⟩) hg i
/-- the fields of an attempt, as cells -/
def fs (v : Value) : Array Value := match v with | .agg l => l | _ => #[]
theorem AtIs.fit_n {w : World} {A C : Option Addr} {B : Option Addr} {n m k : Nat} {a : AM.At} (h1 : Rd w A n (ic a.ms)) (h2 : RdP w B m a.ps) (h3 : Rd w C k (ic a.ac)) (F : Fit a) : n ≤ 2000 ∧ m ≤ 2000 ∧ k ≤ 2000 := by
  have e1 := h1.1; have e2 := h2.1; have e3 := h3.1
  rw [ic_length] at e1 e3
  have := F.ms; have := F.ps; have := F.ac
  omega
end Go.Proofs.Ytiiobafcgdelmaa

namespace Go.Proofs.Ytiiobafcgdelmaa
open Go.RowKit
set_option linter.unusedVariables false
set_option linter.unusedSimpArgs false

theorem AtOwn.form {w : World} {base : Nat} {v : Value} {a : AM.At} (h : AtOwn w base v a) :
    ∃ A c B d C f, v = .agg #[.int .u8 a.ph, .int .i64 a.ba, .slice A a.ms.length c, .string a.wi, .string a.va, .slice B a.ps.length d, .slice C a.ac.length f] := by
  obtain ⟨x, y, z, rfl, h1, h2, h3⟩ := h
  obtain ⟨A, c, rfl, _, _⟩ := own_form h1
  obtain ⟨B, d, rfl, _, _⟩ := own_form h2
  obtain ⟨C, f, rfl, _, _⟩ := own_form h3
  exact ⟨A, c, B, d, C, f, rfl⟩
theorem AtOwn.put7 {w : World} {base g : Nat} {v : Value} {a : AM.At} (h : AtOwn w base v a) (hg : g < base) (x1 x2 x3 x4 x5 x6 x7 : Value) : AtOwn (Go.Proofs.Ytiiobafcgdelmaa.put7 w g x1 x2 x3 x4 x5 x6 x7) base v a := by
  obtain ⟨x, y, z, e, h1, h2, h3⟩ := h
  exact ⟨x, y, z, e, own_put7 h1 hg .., own_put7 h2 hg .., own_put7 h3 hg ..⟩
theorem AtOwn.alloc {w : World} {base : Nat} {v : Value} {a : AM.At} (h : AtOwn w base v a) (o : Obj) : AtOwn (w.alloc o) base v a := h.below ((Below.refl _ _).alloc (Nat.le_refl _) o)
theorem own_setother {w : World} {base s n g i : Nat} {e T : TypeId} {v : Value} {xs : List Value} {cs : Array Value} (h : w.ownsRow base e s v n xs) (hb : Box w g T cs) (he : T ≠ e) (u : Value) : (w.setCell ⟨g, i, none⟩ u).ownsRow base e s v n xs := by
  refine ⟨h.1, ?_⟩
  rcases h.2 with h0 | ⟨g', cap, cur, hv, hbg, hx, hrest⟩
  · exact .inl h0
  · refine .inr ⟨g', cap, cur, hv, hbg, Box.far (g := g') hx (p := ⟨g, i, none⟩) (fun e' => ?_) u, hrest⟩
    have e2 : g' = g := e'
    subst e2
    rw [Box] at hb
    rw [hx] at hb
    injection hb with hb
    injection hb with _ hb
    exact he hb.symm
theorem AtOwn.setother {w : World} {base g i : Nat} {v : Value} {a : AM.At} {cs : Array Value} (h : AtOwn w base v a) (hb : Box w g 49 cs) (u : Value) : AtOwn (w.setCell ⟨g, i, none⟩ u) base v a := by
  obtain ⟨x, y, z, e, h1, h2, h3⟩ := h
  exact ⟨x, y, z, e, own_setother h1 hb (by decide) u, own_setother h2 hb (by decide) u, own_setother h3 hb (by decide) u⟩
theorem AtOwn.far7 {w : World} {base g : Nat} {v : Value} {a : AM.At} {c0 c1 c2 c3 c4 c5 c6 : Value} (h : AtOwn w base v a) (hb : Box w g 49 #[c0, c1, c2, c3, c4, c5, c6]) (x1 x2 x3 x4 x5 x6 x7 : Value) : AtOwn (Go.Proofs.Ytiiobafcgdelmaa.put7 w g x1 x2 x3 x4 x5 x6 x7) base v a := by
  have k1 := h.setother (i := 0) hb x1
  have b1 := hb.stored 0 x1
  have k2 := k1.setother (i := 1) b1 x2
  have b2 := b1.stored 1 x2
  have k3 := k2.setother (i := 2) b2 x3
  have b3 := b2.stored 2 x3
  have k4 := k3.setother (i := 3) b3 x4
  have b4 := b3.stored 3 x4
  have k5 := k4.setother (i := 4) b4 x5
  have b5 := b4.stored 4 x5
  have k6 := k5.setother (i := 5) b5 x6
  have b6 := b5.stored 5 x6
  exact k6.setother (i := 6) b6 x7
end Go.Proofs.Ytiiobafcgdelmaa

namespace Go.Proofs.Ytiiobafcgdelmaa
open Go.RowKit
set_option linter.unusedVariables false

/-- n elements of s cells at A read as xs -/
def RdG (w : World) (s : Nat) (A : Option Addr) (m : Nat) (xs : List Value) : Prop :=
  xs.length = m * s ∧ (0 < m → ∃ ad, A = some ad ∧ ad.block < w.heap.size ∧ ∀ j u, xs[j]? = some u → w.cell? (ad.add j) = some u)
theorem Rd.g {w : World} {A : Option Addr} {m : Nat} {xs : List Value} (h : Rd w A m xs) : RdG w 1 A m xs := ⟨by rw [h.1]; omega, h.2⟩
theorem RdP.g {w : World} {A : Option Addr} {m : Nat} {xs : List AM.Pr} (h : RdP w A m xs) : RdG w 3 A m (pp xs) := ⟨by rw [pp_length, h.1], h.2⟩
theorem RdG.below {w w' : World} {s m : Nat} {A : Option Addr} {xs : List Value} (h : RdG w s A m xs) (hb : Below w.heap.size w w') : RdG w' s A m xs :=
  ⟨h.1, fun hn => by
    obtain ⟨ad, e, hB, hc⟩ := h.2 hn
    exact ⟨ad, e, Nat.lt_of_lt_of_le hB hb.size, fun j u hu => (hb.cell (by rw [block_of_add]; exact hB)).trans (hc j u hu)⟩⟩
theorem RdG.alloc {w : World} {s m : Nat} {A : Option Addr} {xs : List Value} (h : RdG w s A m xs) (o : Obj) : RdG (w.alloc o) s A m xs := h.below ((Below.refl _ _).alloc (Nat.le_refl _) o)
theorem rdG_box {w : World} {g n s : Nat} {t : TypeId} {cs : Array Value} {xs : List Value} (h : Box w g t cs) (hx : cs.toList = xs) (hn : xs.length = n * s) : RdG w s (some ⟨g, 0, none⟩) n xs := by
  refine ⟨hn, fun _ => ⟨_, rfl, h.lt, fun j u hu => ?_⟩⟩
  have : (⟨g, 0, none⟩ : Addr).add j = ⟨g, j, none⟩ := by unfold Addr.add; split <;> simp_all
  rw [this, h.cell j, ← hu, ← hx]
  simp

theorem run_append_g {P : Program} (w : World) (base : Nat) (t ty e : TypeId) (i : TypeInfo) (z : Value) (s bytes : Nat) (ht : P.underlying t = some (.slice e)) (hi : P.info? e = some i) (hz : i.zero = some z)
    (hsize : i.size = s) (hby : i.bytes = bytes) (hzs : z.cells.size = s) (hsz : 0 < s)
    (v : Value) (n : Nat) (xs : List Value) (hown : w.ownsRow base e s v n xs)
    (A : Option Addr) (m c : Nat) (news : List Value) (hr : RdG w s A m news) (h1 : ∀ u ∈ news, u.oneCell' = true)
    (h63 : n + m ≤ maxLen) (hbytes : (n + m) * bytes ≤ 140737488355328) (hbase : base ≤ w.heap.size) :
    ∃ v' w', (Builtin.append_ #[t, t] ty #[v, .slice A m c]).run P w = .ok v' w' ∧ w'.ownsRow base e s v' (n + m) (xs ++ news) ∧ w.grownBy w' v.ownBlock ∧
      (v'.ownBlock = v.ownBlock ∨ v'.ownBlock = some w.heap.size) := by
  rcases A with _ | ad
  · have hm : m = 0 := by
      rcases Nat.eq_zero_or_pos m with h0 | h0
      · exact h0
      · obtain ⟨ad, h, _⟩ := hr.2 h0; cases h
    subst hm
    have hn : news = [] := List.eq_nil_of_length_eq_zero (by rw [hr.1]; omega)
    subst hn
    refine ⟨v, w, ?_, by simpa using hown, World.grownBy.refl w _, .inl rfl⟩
    rcases hown.2 with ⟨rfl, rfl⟩ | ⟨g, cap, cur, rfl, _, _, hnc, _⟩
    · simp [Builtin.append_, run_underlying ht, sizeOf, typeInfo, hi, Builtin.lenOf, Builtin.firstCells]
    · simp [Builtin.append_, run_underlying ht, sizeOf, typeInfo, hi, Builtin.lenOf, Builtin.firstCells, hnc, storeCells]
  · have hcells : ∀ j u, news[j]? = some u → w.cell? (ad.add j) = some u := by
      intro j u hu
      rcases Nat.eq_zero_or_pos m with h0 | h0
      · subst h0
        have hn : news = [] := List.eq_nil_of_length_eq_zero (by rw [hr.1]; omega)
        subst hn
        simp at hu
      · obtain ⟨ad', h, _, hc⟩ := hr.2 h0
        injection h with h
        subst h
        exact hc j u hu
    obtain ⟨v', w', hrun, h2, h3, _, h5⟩ := run_append_own_at (P := P) w base t ty e i z s bytes ht hi hz hsize hby hzs hsz v n xs hown ad m c news hr.1 hcells h1 h63 hbytes hbase
    exact ⟨v', w', hrun, h2, h3, h5⟩

theorem wpList_append_g {P : Program} (w : World) {ops : Array Oper} {rest : List Oper} {o : Oper} {a : Act} {Q : Exit → Act → World → Prop} (hgd : o.guard = none) (so x : Operand) (t : TypeId)
    (ho : o.op = .call { callee := .builtin .append, args := #[so, x], argTypes := #[t, t] })
    (base : Nat) (e : TypeId) (i : TypeInfo) (z : Value) (s bytes : Nat) (ht : P.underlying t = some (.slice e)) (hi : P.info? e = some i) (hz : i.zero = some z)
    (hsize : i.size = s) (hby : i.bytes = bytes) (hzs : z.cells.size = s) (hsz : 0 < s)
    (v : Value) (n : Nat) (xs : List Value) (hs : a.eval so = v) (hown : w.ownsRow base e s v n xs)
    (A : Option Addr) (m c : Nat) (news : List Value) (hx : a.eval x = .slice A m c) (hr : RdG w s A m news) (h1 : ∀ u ∈ news, u.oneCell' = true)
    (h63 : n + m ≤ maxLen) (hbytes : (n + m) * bytes ≤ 140737488355328) (hbase : base ≤ w.heap.size)
    (h : ∀ v' w', w'.ownsRow base e s v' (n + m) (xs ++ news) → w.grownBy w' v.ownBlock → (v'.ownBlock = v.ownBlock ∨ v'.ownBlock = some w.heap.size) → wpList P ops Q rest (a.put o.dst v') w') : wpList P ops Q (o :: rest) a w := by
  refine wpList_plain hgd fun K hK => ?_
  obtain ⟨v', w', hrun, h2, h3, h4⟩ := run_append_g (P := P) w base t o.type e i z s bytes ht hi hz hsize hby hzs hsz v n xs hown A m c news hr h1 h63 hbytes hbase
  unfold Oper.wp execOp
  simp only [ho, resolve, invoke, builtin, Sem.run_bind, Sem.run_pure, Result.andThen_ok, List.map_toArray, List.map_cons, List.map_nil, hs, hx, hrun]
  exact hK _ _ (h v' w' h2 h3 h4)

/-- the block of an owned row -/
theorem own_block {w : World} {base s n g : Nat} {e : TypeId} {v : Value} {xs : List Value} (h : w.ownsRow base e s v n xs) (hg : v.ownBlock = some g) : base ≤ g ∧ ∃ cur, Box w g e cur := by
  rcases h.2 with ⟨rfl, _⟩ | ⟨g', cap, cur, rfl, hb, hx, _⟩
  · cases hg
  · injection hg with hg
    subst hg
    exact ⟨hb, cur, hx⟩
/-- what a row's growth leaves below -/
theorem below_row {w0 w w' : World} {base s n : Nat} {e : TypeId} {v : Value} {xs : List Value} (hb : Below base w0 w) (h : w.ownsRow base e s v n xs) (hB : base ≤ w.heap.size) (hg : w.grownBy w' v.ownBlock) : Below base w0 w' :=
  hb.grown hg hB fun g hgu => (own_block h hgu).1
theorem Box.grown {w w' : World} {g : Nat} {t : TypeId} {cs : Array Value} {r : Option Nat} (h : Box w g t cs) (hg : w.grownBy w' r) (hr : some g ≠ r) : Box w' g t cs := (hg.block g h.lt hr).trans h
/-- an owned row in another block stays -/
theorem own_grown {w w' : World} {base s n : Nat} {e : TypeId} {v : Value} {xs : List Value} {r : Option Nat} (h : w.ownsRow base e s v n xs) (hg : w.grownBy w' r) (hr : ∀ g, v.ownBlock = some g → some g ≠ r) : w'.ownsRow base e s v n xs := by
  refine ⟨h.1, ?_⟩
  rcases h.2 with h0 | ⟨g, cap, cur, rfl, hb, hx, hrest⟩
  · exact .inl h0
  · exact .inr ⟨g, cap, cur, rfl, hb, Box.grown hx hg (hr g rfl), hrest⟩
theorem Rd.grownBy {w w' : World} {A : Option Addr} {n : Nat} {xs : List Value} {base : Nat} {r : Option Nat} (h : Rd w A n xs) (hg : w.grownBy w' r) (hb : w.heap.size ≤ w'.heap.size) (hr : ∀ ad, A = some ad → some ad.block ≠ r) : Rd w' A n xs :=
  h.grown hg fun ad e _ => hr ad e
end Go.Proofs.Ytiiobafcgdelmaa
