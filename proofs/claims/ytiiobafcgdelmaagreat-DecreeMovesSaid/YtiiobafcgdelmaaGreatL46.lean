/- Contracts of functions of towncrier, layers 5 to 9, and of the document's own ones, part 46; each as its theorem says. -/
import Derived.Test.YtiiobafcgdelmaaGreatL01
import Derived.Test.YtiiobafcgdelmaaGreatL02
import Derived.Test.YtiiobafcgdelmaaGreatL20
set_option linter.unusedVariables false
set_option linter.unusedSimpArgs false
namespace Go.Proofs.YtiiobafcgdelmaaGreat
open Go.RowKit
def RowOk (w : World) (lo hi : Nat) (e : TypeId) (s : Nat) (A : Option Addr) (n : Nat) : Prop := 0 < n → ∃ g cur, A = some ⟨g, 0, none⟩ ∧ lo ≤ g ∧ g < hi ∧ Box w g e cur ∧ n * s ≤ cur.size
theorem rowOk_own {w : World} {base s n c : Nat} {e : TypeId} {A : Option Addr} {xs : List Value} (h : w.ownsRow base e s (.slice A n c) n xs) : RowOk w base w.heap.size e s A n := by
 intro hn
 rcases h.2 with ⟨_, h0⟩ | ⟨g, cap, cur, hv, hb, hx, hnc, _, hs, _⟩
 ·omega
 ·injection hv with h1 h2 h3
  exact ⟨g, cur, h1, hb, Box.lt hx, hx, by rw [hs]; exact Nat.mul_le_mul_right s hnc⟩
theorem RowOk.set {w : World} {lo hi s n g i : Nat} {e e' : TypeId} {A : Option Addr} {cur : Array Value} (h : RowOk w lo hi e s A n) (hb : Box w g e' cur) (u : Value) : RowOk (w.setCell ⟨g, i, none⟩ u) lo hi e s A n := by
 intro hn
 obtain ⟨g', cur', h1, h2, h3, h4, h5⟩ := h hn
 by_cases hg : g' = g
 ·subst hg
  exact ⟨g', _, h1, h2, h3, h4.stored i u, by simpa using h5⟩
 ·exact ⟨g', cur', h1, h2, h3, h4.far (p := ⟨g, i, none⟩) hg u, h5⟩
structure Within (lo hi : Nat) (a b : World) : Prop where
 os : b.os = a.os
 tape : b.tape = a.tape
 output : b.output = a.output
 size : a.heap.size ≤ b.heap.size
 block : ∀ i, i < a.heap.size → (i < lo ∨ hi ≤ i) → b.heap[i]? = a.heap[i]?
theorem Within.refl (lo hi : Nat) (a : World) : Within lo hi a a := ⟨rfl, rfl, rfl, Nat.le_refl _, fun _ _ _ => rfl⟩
theorem Within.more {lo hi : Nat} {a b c : World} (h : Within lo hi a b) (k : Below b.heap.size b c) : Within lo hi a c :=
 ⟨k.os.trans h.os, k.tape.trans h.tape, k.output.trans h.output, Nat.le_trans h.size k.size, fun i hi hne => (k.block i (Nat.lt_of_lt_of_le hi h.size)).trans (h.block i hi hne)⟩
theorem Within.alloc {lo hi : Nat} {a b : World} (h : Within lo hi a b) (o : Obj) : Within lo hi a (b.alloc o) := h.more ((Below.refl _ _).alloc n! o)
theorem Within.setCell {lo hi g i : Nat} {a b : World} (h : Within lo hi a b) (h1 : lo ≤ g) (h2 : g < hi) (u : Value) : Within lo hi a (b.setCell ⟨g, i, none⟩ u) := by
 have k : Below g b (b.setCell ⟨g, i, none⟩ u) := (Below.refl g b).setCell (p := ⟨g, i, none⟩) (Nat.le_refl g) u
 refine ⟨k.os.trans h.os, k.tape.trans h.tape, k.output.trans h.output, Nat.le_trans h.size k.size, fun j hj hne => ?_⟩
 rw [← h.block j hj hne]
 exact Below.heap_setCell b ⟨g, i, none⟩ u j (by show j ≠ g; omega)
theorem Within.below {lo hi B : Nat} {a b : World} (h : Within lo hi a b) (hB : B ≤ lo) (hs : B ≤ a.heap.size) : Below B a b := ⟨h.os, h.tape, h.output, h.size, fun i hi => h.block i (by omega) (.inl (by omega))⟩
theorem Box.within {lo hi g : Nat} {a b : World} {t : TypeId} {cs : Array Value} (h : Box a g t cs) (k : Within lo hi a b) (hg : g < lo ∨ hi ≤ g) : Box b g t cs := (k.block g h.lt hg).trans h
theorem RowOk.within {w w' : World} {lo hi lo' hi' s n : Nat} {e : TypeId} {A : Option Addr} (h : RowOk w lo hi e s A n) (k : Within lo' hi' w w') (hd : hi' ≤ lo) : RowOk w' lo hi e s A n := by
 intro hn
 obtain ⟨g, cur, h1, h2, h3, h4, h5⟩ := h hn
 exact ⟨g, cur, h1, h2, h3, h4.within k (.inr (by omega)), h5⟩
theorem RowOk.below {w w' : World} {lo hi s n : Nat} {e : TypeId} {A : Option Addr} (h : RowOk w lo hi e s A n) (k : Below w.heap.size w w') : RowOk w' lo hi e s A n := by
 intro hn
 obtain ⟨g, cur, h1, h2, h3, h4, h5⟩ := h hn
 exact ⟨g, cur, h1, h2, h3, h4.below k h4.lt, h5⟩
def TurnIs (lo hi : Nat) (w : World) (e : Ending) (w' : World) : Prop := e = .returned (.tuple #[]) ∧ Within lo hi w w'
end Go.Proofs.YtiiobafcgdelmaaGreat
namespace Go.Proofs.YtiiobafcgdelmaaGreat.PD
open Go.RowKit Go.Shelf
def TryOk (w : World) (lo hi : Nat) (A : Option Addr) (n : Nat) : Prop := 0 < n → ∃ q cur, A = some ⟨q, 0, none⟩ ∧ lo ≤ q ∧ q < hi ∧ Box w q 57 cur ∧ n * 7 ≤ cur.size ∧
 ∀ i, i < n → ∃ B m c, cur[i * 7 + 2]? = some (.slice B m c) ∧ m ≤ 2000 ∧ RowOk w lo hi 3 1 B m
theorem box_other {w : World} {g q : Nat} {e e' : TypeId} {cs cs' : Array Value} (h : Box w g e cs) (k : Box w q e' cs') (he : e ≠ e') : g ≠ q := by
 intro e2
 subst e2
 rw [Box] at h k
 rw [h] at k
 injection k with k
 injection k with _ k
 exact he k
section
variable {w w' : World} {lo hi n g j : Nat} {A : Option Addr} {e : TypeId} {cs : Array Value}
theorem TryOk.set (h : TryOk w lo hi A n) (hb : Box w g e cs) (he : 57 ≠ e) (u : Value) : TryOk (w.setCell ⟨g, j, none⟩ u) lo hi A n := by
 intro hn
 obtain ⟨q, cur, h1, h2, h3, h4, h5, h6⟩ := h hn
 refine ⟨q, cur, h1, h2, h3, h4.far (p := ⟨g, j, none⟩) (box_other h4 hb he) u, h5, fun i hi => ?_⟩
 obtain ⟨B, m, c, g1, g2, g3⟩ := h6 i hi
 exact ⟨B, m, c, g1, g2, g3.set hb u⟩
theorem TryOk.wish (h : TryOk w lo hi A n) (hb : Box w g 57 cs) (k : Nat) (u : Value) : TryOk (w.setCell ⟨g, k * 7 + 3, none⟩ u) lo hi A n := by
 intro hn
 obtain ⟨q, cur, h1, h2, h3, h4, h5, h6⟩ := h hn
 by_cases hg : q = g
 ·subst hg
  refine ⟨q, _, h1, h2, h3, h4.stored (k * 7 + 3) u, by simpa using h5, fun i hi => ?_⟩
  obtain ⟨B, m, c, g1, g2, g3⟩ := h6 i hi
  exact ⟨B, m, c, by rw [Array.getElem?_setIfInBounds_ne (by omega)]; exact g1, g2, g3.set hb u⟩
 ·refine ⟨q, cur, h1, h2, h3, h4.far (p := ⟨g, k * 7 + 3, none⟩) hg u, h5, fun i hi => ?_⟩
  obtain ⟨B, m, c, g1, g2, g3⟩ := h6 i hi
  exact ⟨B, m, c, g1, g2, g3.set hb u⟩
theorem TryOk.below (h : TryOk w lo hi A n) (k : Below w.heap.size w w') : TryOk w' lo hi A n := by
 intro hn
 obtain ⟨q, cur, h1, h2, h3, h4, h5, h6⟩ := h hn
 refine ⟨q, cur, h1, h2, h3, h4.below k h4.lt, h5, fun i hi => ?_⟩
 obtain ⟨B, m, c, g1, g2, g3⟩ := h6 i hi
 exact ⟨B, m, c, g1, g2, g3.below k⟩
theorem TryOk.within {lo' hi' : Nat} (h : TryOk w lo hi A n) (k : Within lo' hi' w w') (hd : hi' ≤ lo) : TryOk w' lo hi A n := by
 intro hn
 obtain ⟨q, cur, h1, h2, h3, h4, h5, h6⟩ := h hn
 refine ⟨q, cur, h1, h2, h3, h4.within k (.inr (by omega)), h5, fun i hi => ?_⟩
 obtain ⟨B, m, c, g1, g2, g3⟩ := h6 i hi
 exact ⟨B, m, c, g1, g2, g3.within k hd⟩
theorem tryOk_own {c : Nat} {xs : List Value} {ts : List AM.At} (h : w.ownsRow lo 57 7 (.slice A n c) n xs) (ht : TsRow w lo xs ts) (hn : n = ts.length) (F : ∀ t ∈ ts, Fit t) : TryOk w lo w.heap.size A n := by
 intro h0
 rcases h.2 with ⟨_, h1⟩ | ⟨q, cap, cur, hv, hb, hx, hnc, _, hs, hc⟩
 ·omega
 injection hv with e1 e2 e3
 refine ⟨q, cur, e1, hb, Box.lt hx, hx, by rw [hs]; exact Nat.mul_le_mul_right 7 hnc, fun i hi => ?_⟩
 obtain ⟨t, hti⟩ : ∃ t, ts[i]? = some t := ⟨_, List.getElem?_eq_getElem (by omega)⟩
 obtain ⟨v, ⟨x, y, z, rfl, o1, o2, o3⟩, hcell⟩ := ht.get hti
 obtain ⟨B, c', rfl, _, _⟩ := own_form o1
 have h2 := hcell 2 (by omega)
 refine ⟨B, t.ms.length, c', ?_, (F t (List.mem_of_getElem? hti)).ms, rowOk_own o1⟩
 rw [← hc, List.getElem?_take, if_pos (by omega)] at h2
 simpa [tcell, fs] using h2
end
structure WRows (w : World) (lo hi : Nat) (A0 A1 A2 A3 : Option Addr) (n0 n1 n2 n3 : Nat) : Prop where
 r0 : RowOk w lo hi 3 1 A0 n0
 r1 : RowOk w lo hi 59 3 A1 n1
 r2 : TryOk w lo hi A2 n2
 r3 : RowOk w lo hi 51 10 A3 n3
section
variable {w w' : World} {lo hi n0 n1 n2 n3 : Nat} {A0 A1 A2 A3 : Option Addr}
theorem WRows.below (h : WRows w lo hi A0 A1 A2 A3 n0 n1 n2 n3) (k : Below w.heap.size w w') : WRows w' lo hi A0 A1 A2 A3 n0 n1 n2 n3 := ⟨h.r0.below k, h.r1.below k, h.r2.below k, h.r3.below k⟩
theorem WRows.within {lo' hi' : Nat} (h : WRows w lo hi A0 A1 A2 A3 n0 n1 n2 n3) (k : Within lo' hi' w w') (hd : hi' ≤ lo) : WRows w' lo hi A0 A1 A2 A3 n0 n1 n2 n3 := ⟨h.r0.within k hd, h.r1.within k hd, h.r2.within k hd, h.r3.within k hd⟩
theorem wrows_zero (w : World) (lo hi : Nat) : WRows w lo hi none none none none 0 0 0 0 := ⟨fun h => absurd h (Nat.lt_irrefl 0), fun h => absurd h (Nat.lt_irrefl 0), fun h => absurd h (Nat.lt_irrefl 0), fun h => absurd h (Nat.lt_irrefl 0)⟩
theorem WRows.set {g j : Nat} {e : TypeId} {cs : Array Value} (h : WRows w lo hi A0 A1 A2 A3 n0 n1 n2 n3) (hb : Box w g e cs) (he : 57 ≠ e) (u : Value) : WRows (w.setCell ⟨g, j, none⟩ u) lo hi A0 A1 A2 A3 n0 n1 n2 n3 :=
 ⟨h.r0.set hb u, h.r1.set hb u, h.r2.set hb he u, h.r3.set hb u⟩
theorem WRows.wish {g k : Nat} {cs : Array Value} (h : WRows w lo hi A0 A1 A2 A3 n0 n1 n2 n3) (hb : Box w g 57 cs) (u : Value) : WRows (w.setCell ⟨g, k * 7 + 3, none⟩ u) lo hi A0 A1 A2 A3 n0 n1 n2 n3 :=
 ⟨h.r0.set hb u, h.r1.set hb u, h.r2.wish hb k u, h.r3.set hb u⟩
end
theorem WOwn.rows {W : World} {base : Nat} {w : DC.Wd} {A0 A1 A2 A3 A4 : Option Addr} {c0 c1 c2 c3 c4 : Nat} (h : WOwn W base (.agg #[.slice A0 w.ms.length c0, .slice A1 w.vs.length c1, .slice A2 w.ts.length c2, .slice A3 w.ml.length c3, .slice A4 w.ch.length c4]) w) (F : ∀ t ∈ w.ts, Fit t) :
  WRows W base W.heap.size A0 A1 A2 A3 w.ms.length w.vs.length w.ts.length w.ml.length := by
 obtain ⟨B0, d0, B1, d1, B2, d2, B3, d3, B4, d4, xs, e, o0, o1, o2, ht, o3, o4⟩ := h
 simp only [Value.agg.injEq, Array.mk.injEq, List.cons.injEq, Value.slice.injEq, and_true, true_and] at e
 obtain ⟨⟨rfl, rfl⟩, ⟨rfl, rfl⟩, ⟨rfl, rfl⟩, ⟨rfl, rfl⟩, rfl, rfl⟩ := e
 exact ⟨rowOk_own o0, rowOk_own o1, tryOk_own o2 ht rfl F, rowOk_own o3⟩
structure WTn (w : World) (lo hi : Nat) (A0 A1 A2 A3 : Option Addr) (n0 n1 n2 n3 : Nat) (X : Array Value) (wr : World) : Prop where
 wi : Within lo hi w wr
 bx : Box wr w.heap.size 28 X
 rs : WRows wr lo hi A0 A1 A2 A3 n0 n1 n2 n3
section
variable {w wr : World} {lo hi n0 n1 n2 n3 : Nat} {A0 A1 A2 A3 : Option Addr} {X : Array Value}
theorem WTn.set {g j : Nat} {e : TypeId} {cs : Array Value} (h : WTn w lo hi A0 A1 A2 A3 n0 n1 n2 n3 X wr) (hh : hi ≤ w.heap.size) (hb : Box wr g e cs) (he : 57 ≠ e) (h1 : lo ≤ g) (h2 : g < hi) (u : Value) : WTn w lo hi A0 A1 A2 A3 n0 n1 n2 n3 X (wr.setCell ⟨g, j, none⟩ u) :=
 ⟨h.wi.setCell h1 h2 u, h.bx.far (p := ⟨g, j, none⟩) (by show w.heap.size ≠ g; omega) u, h.rs.set hb he u⟩
theorem WTn.wish {g k : Nat} {cs : Array Value} (h : WTn w lo hi A0 A1 A2 A3 n0 n1 n2 n3 X wr) (hh : hi ≤ w.heap.size) (hb : Box wr g 57 cs) (h1 : lo ≤ g) (h2 : g < hi) (u : Value) : WTn w lo hi A0 A1 A2 A3 n0 n1 n2 n3 X (wr.setCell ⟨g, k * 7 + 3, none⟩ u) :=
 ⟨h.wi.setCell h1 h2 u, h.bx.far (p := ⟨g, k * 7 + 3, none⟩) (by show w.heap.size ≠ g; omega) u, h.rs.wish hb u⟩
end
set_option maxRecDepth 100000 in
set_option maxHeartbeats 8000000 in
theorem wturn_in (lo hi : Nat) (A0 A1 A2 A3 A4 : Option Addr) (n0 n1 n2 n3 n4 c0 c1 c2 c3 c4 : Nat) (w : World) (H : WRows w lo hi A0 A1 A2 A3 n0 n1 n2 n3) (hh : hi ≤ w.heap.size) (f0 : n0 ≤ 2000) (f1 : n1 ≤ 2000) (f2 : n2 ≤ 2000) (f3 : n3 ≤ 2000) :
  Calls Tryz.prog 14 #[.agg #[.slice A0 n0 c0, .slice A1 n1 c1, .slice A2 n2 c2, .slice A3 n3 c3, .slice A4 n4 c4]] w (TurnIs lo hi w) := by
 have hst : WTn w lo hi A0 A1 A2 A3 n0 n1 n2 n3 #[.slice A0 n0 c0, .slice A1 n1 c1, .slice A2 n2 c2, .slice A3 n3 c3, .slice A4 n4 c4] (w.alloc (.cells #[.slice A0 n0 c0, .slice A1 n1 c1, .slice A2 n2 c2, .slice A3 n3 c3, .slice A4 n4 c4] 28)) :=
  ⟨(Within.refl _ _ _).alloc _, Box.new _ _ _, H.below ((Below.refl _ _).alloc n! _)⟩
 have HS := h! hst
 clear hst H
 go_enter Tryz.func14, Tryz.ntmps14
 go_wp2_with fail
 go_loopw [2] (fun i wr => ∃ j : Nat, j ≤ n1 ∧ i = .int .i64 j ∧ Hid (WTn w lo hi A0 A1 A2 A3 n0 n1 n2 n3 #[.slice A0 n0 c0, .slice A1 n1 c1, .slice A2 n2 c2, .slice A3 n3 c3, .slice A4 n4 c4] wr)) (fun i _ => n1 - (intOf i).toNat)
 case atStart => exact ⟨0, by omega, rfl, HS⟩
 case round =>
  clear HS
  obtain ⟨j, hj, rfl, HT⟩ := hrel
  obtain ⟨⟨t0, t1, t2, t3, t4⟩, _⟩ := HT.out.bx.five
  by_cases hlt : j < n1
  ·obtain ⟨g, cur, rfl, g1, g2, hx, hsz⟩ := HT.out.rs.r1 (by omega)
   have hcell : wr.cell? ⟨g, j * 3, none⟩ = some (cur[j * 3]'(by omega)) := by rw [hx.cell (j * 3), Array.getElem?_eq_getElem (by omega)]
   have hfr := hx.frozen (j * 3)
   have HT2 := h! (HT.out.set hh (j := j * 3) hx (by decide) g1 g2 (.int .i64 77))
   generalize cur[j * 3]'(by omega) = cj at hcell
   clear HT hx
   go_wp2_with fail
   go_roundw
   case rel => exact ⟨j + 1, by omega, by go_num, HT2⟩
   case measure => simp [intOf]; omega
  obtain rfl : n1 = j := by omega
  have HS2 := HT
  clear HT
  go_wp2_with fail
  clear t0 t1 t2 t3 t4
  go_loopw [3] (fun i wr => ∃ j : Nat, j ≤ n2 ∧ i = .int .i64 j ∧ Hid (WTn w lo hi A0 A1 A2 A3 n0 n1 n2 n3 #[.slice A0 n0 c0, .slice A1 n1 c1, .slice A2 n2 c2, .slice A3 n3 c3, .slice A4 n4 c4] wr)) (fun i _ => n2 - (intOf i).toNat)
  case atStart => exact ⟨0, by omega, rfl, HS2⟩
  case round =>
   clear HS2
   obtain ⟨j, hj, rfl, HT⟩ := hrel
   obtain ⟨⟨t0, t1, t2, t3, t4⟩, _⟩ := HT.out.bx.five
   by_cases hlt : j < n2
   ·have i0 : (0 : Int) ≤ (j : Int) := by omega
    have i1 : (j : Int) < (n2 : Int) := by omega
    obtain ⟨q, rfl⟩ : ∃ q, A2 = some ⟨q, 0, none⟩ := by obtain ⟨q, _, h, _⟩ := HT.out.rs.r2 (by omega); exact ⟨q, h⟩
    obtain ⟨q', cur, e', _, _, hx, hsz, hall⟩ := HT.out.rs.r2 (by omega)
    injection e' with e'
    injection e' with e'
    subst e'
    obtain ⟨B, m, d, hcB, hm, _⟩ := hall j hlt
    go_wp2_with fail
    clear t0 t1 t2 t3 t4 hx hall hcB hsz
    go_loopw [4] (fun i wr => ∃ k : Nat, i = .int .i64 k ∧ Hid (WTn w lo hi A0 A1 (some ⟨q, 0, none⟩) A3 n0 n1 n2 n3 #[.slice A0 n0 c0, .slice A1 n1 c1, .slice (some ⟨q, 0, none⟩) n2 c2, .slice A3 n3 c3, .slice A4 n4 c4] wr)) (fun i _ => 2001 - (intOf i).toNat)
    case atStart => exact ⟨0, rfl, HT⟩
    case round =>
     clear HT
     obtain ⟨k, rfl, HT⟩ := hrel
     obtain ⟨⟨t0, t1, t2, t3, t4⟩, _⟩ := HT.out.bx.five
     obtain ⟨q', cur, e', q1, q2, hx, hsz, hall⟩ := HT.out.rs.r2 (by omega)
     injection e' with e'
     injection e' with e'
     subst e'
     obtain ⟨B, m, d, hcB, hm, hrow⟩ := hall j hlt
     have hmc : wr.cell? ⟨q, j * 7 + 2, none⟩ = some (.slice B m d) := by rw [hx.cell (j * 7 + 2)]; exact hcB
     by_cases hk : k < m
     ·obtain ⟨g, cg, rfl, g1, g2, hxg, hsg⟩ := hrow (by omega)
      have hcell : wr.cell? ⟨g, k, none⟩ = some (cg[k]'(by omega)) := by rw [hxg.cell k, Array.getElem?_eq_getElem (by omega)]
      have hfr := hxg.frozen k
      have HT2 := h! (HT.out.set hh (j := k) hxg (by decide) g1 g2 (.int .i64 77))
      generalize cg[k]'(by omega) = cj at hcell
      have k0 : (0 : Int) ≤ (k : Int) := by omega
      have k1 : (k : Int) < (m : Int) := by omega
      clear HT hx hxg hall hcB hrow
      go_wp2_with fail
      go_roundw
      case rel => exact ⟨k + 1, by go_num, HT2⟩
      case measure => simp [intOf]; omega
     ·have k1 : decide ((k : Int) < (m : Int)) = false := by simp; omega
      have hcell : wr.cell? ⟨q, j * 7 + 3, none⟩ = some (cur[j * 7 + 3]'(by omega)) := by rw [hx.cell (j * 7 + 3), Array.getElem?_eq_getElem (by omega)]
      have hfr := hx.frozen (j * 7 + 3)
      have HT2 := h! (HT.out.wish hh (k := j) hx q1 q2 (.string ⟨#[116, 117, 114, 110, 101, 100]⟩))
      generalize cur[j * 7 + 3]'(by omega) = cj at hcell
      clear HT hx hall hcB hrow
      go_wp2_with fail
      go_roundw
      case rel => exact ⟨j + 1, by omega, by go_num, HT2⟩
      case measure => simp [intOf]; omega
   obtain rfl : n2 = j := by omega
   have HS3 := HT
   clear HT
   go_wp2_with fail
   clear t0 t1 t2 t3 t4
   go_loopw [5] (fun i wr => ∃ j : Nat, j ≤ n3 ∧ i = .int .i64 j ∧ Hid (WTn w lo hi A0 A1 A2 A3 n0 n1 n2 n3 #[.slice A0 n0 c0, .slice A1 n1 c1, .slice A2 n2 c2, .slice A3 n3 c3, .slice A4 n4 c4] wr)) (fun i _ => n3 - (intOf i).toNat)
   case atStart => exact ⟨0, by omega, rfl, HS3⟩
   case round =>
    clear HS3
    obtain ⟨j, hj, rfl, HT⟩ := hrel
    obtain ⟨⟨t0, t1, t2, t3, t4⟩, _⟩ := HT.out.bx.five
    by_cases hlt : j < n3
    ·obtain ⟨g, cur, rfl, g1, g2, hx, hsz⟩ := HT.out.rs.r3 (by omega)
     have hcell : wr.cell? ⟨g, j * 10 + 1, none⟩ = some (cur[j * 10 + 1]'(by omega)) := by rw [hx.cell (j * 10 + 1), Array.getElem?_eq_getElem (by omega)]
     have hfr := hx.frozen (j * 10 + 1)
     have HT2 := h! (HT.out.set hh (j := j * 10 + 1) hx (by decide) g1 g2 (.int .i64 77))
     generalize cur[j * 10 + 1]'(by omega) = cj at hcell
     clear HT hx
     go_wp2_with fail
     go_roundw
     case rel => exact ⟨j + 1, by omega, by go_num, HT2⟩
     case measure => simp [intOf]; omega
    obtain rfl : n3 = j := by omega
    have HS4 := HT
    clear HT
    go_wp2_with fail
    clear t0 t1 t2 t3 t4
    go_loopw [6] (fun i wr => ∃ j : Nat, j ≤ n0 ∧ i = .int .i64 j ∧ Hid (WTn w lo hi A0 A1 A2 A3 n0 n1 n2 n3 #[.slice A0 n0 c0, .slice A1 n1 c1, .slice A2 n2 c2, .slice A3 n3 c3, .slice A4 n4 c4] wr)) (fun i _ => n0 - (intOf i).toNat)
    case atStart => exact ⟨0, by omega, rfl, HS4⟩
    case round =>
     clear HS4
     obtain ⟨j, hj, rfl, HT⟩ := hrel
     obtain ⟨⟨t0, t1, t2, t3, t4⟩, _⟩ := HT.out.bx.five
     by_cases hlt : j < n0
     ·obtain ⟨g, cur, rfl, g1, g2, hx, hsz⟩ := HT.out.rs.r0 (by omega)
      have hcell : wr.cell? ⟨g, j, none⟩ = some (cur[j]'(by omega)) := by rw [hx.cell j, Array.getElem?_eq_getElem (by omega)]
      have hfr := hx.frozen j
      have HT2 := h! (HT.out.set hh (j := j) hx (by decide) g1 g2 (.int .i64 77))
      generalize cur[j]'(by omega) = cj at hcell
      clear HT hx
      go_wp2_with fail
      go_roundw
      case rel => exact ⟨j + 1, by omega, by go_num, HT2⟩
      case measure => simp [intOf]; omega
     obtain rfl : n0 = j := by omega
     have HE := h! HT.out.wi
     clear HT
     go_wp2_with fail
     go_end0
     exact ⟨rfl, HE.out⟩
end Go.Proofs.YtiiobafcgdelmaaGreat.PD
