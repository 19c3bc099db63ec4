/-
  The laws' turn (towncrierlaw08): it turns cells of the attempt's own rows, and nothing else. Conditions: the rows may be stored into.
-/
import Derived.Test.YtmcfamoicdmkdaaAttRB
namespace Go.Proofs.Ytmcfamoicdmkdaa
open Go.RowKit
set_option linter.unusedVariables false
set_option linter.unusedSimpArgs false

/-- but for the blocks from lo up to hi, all that was there is as it was -/
structure Within (lo hi : Nat) (a b : World) : Prop where
  os : b.os = a.os
  tape : b.tape = a.tape
  output : b.output = a.output
  size : a.heap.size ≤ b.heap.size
  block : ∀ i, i < a.heap.size → (i < lo ∨ hi ≤ i) → b.heap[i]? = a.heap[i]?
theorem Within.refl (lo hi : Nat) (a : World) : Within lo hi a a := ⟨rfl, rfl, rfl, Nat.le_refl _, fun _ _ _ => rfl⟩
theorem Within.more {lo hi : Nat} {a b c : World} (h : Within lo hi a b) (k : Below b.heap.size b c) : Within lo hi a c :=
  ⟨k.os.trans h.os, k.tape.trans h.tape, k.output.trans h.output, Nat.le_trans h.size k.size, fun i hi hne => (k.block i (Nat.lt_of_lt_of_le hi h.size)).trans (h.block i hi hne)⟩
theorem Within.alloc {lo hi : Nat} {a b : World} (h : Within lo hi a b) (o : Obj) : Within lo hi a (b.alloc o) := h.more ((Below.refl _ _).alloc (Nat.le_refl _) o)
theorem Within.setCell {lo hi g i : Nat} {a b : World} (h : Within lo hi a b) (h1 : lo ≤ g) (h2 : g < hi) (u : Value) : Within lo hi a (b.setCell ⟨g, i, none⟩ u) := by
  have k : Below g b (b.setCell ⟨g, i, none⟩ u) := (Below.refl g b).setCell (p := ⟨g, i, none⟩) (Nat.le_refl g) u
  refine ⟨k.os.trans h.os, k.tape.trans h.tape, k.output.trans h.output, Nat.le_trans h.size k.size, fun j hj hne => ?_⟩
  rw [← h.block j hj hne]
  exact Below.heap_setCell b ⟨g, i, none⟩ u j (by show j ≠ g; omega)
theorem Within.below {lo hi B : Nat} {a b : World} (h : Within lo hi a b) (hB : B ≤ lo) (hs : B ≤ a.heap.size) : Below B a b := ⟨h.os, h.tape, h.output, h.size, fun i hi => h.block i (by omega) (.inl (by omega))⟩
theorem Box.within {lo hi g : Nat} {a b : World} {t : TypeId} {cs : Array Value} (h : Box a g t cs) (k : Within lo hi a b) (hg : g < lo ∨ hi ≤ g) : Box b g t cs := (k.block g h.lt hg).trans h
theorem RowOk.within {w w' : World} {lo hi lo' hi' s n : Nat} {e : TypeId} {A : Option Addr} (h : RowOk w lo hi e s A n) (k : Within lo' hi' w w') (hd : hi' ≤ lo) : RowOk w' lo hi e s A n := by
  intro hn
  obtain ⟨g, cur, h1, h2, h3, h4, h5⟩ := h hn
  exact ⟨g, cur, h1, h2, h3, h4.within k (.inr (by omega)), h5⟩
theorem RowOk.below {w w' : World} {lo hi s n : Nat} {e : TypeId} {A : Option Addr} (h : RowOk w lo hi e s A n) (k : Below w.heap.size w w') : RowOk w' lo hi e s A n := by
  intro hn
  obtain ⟨g, cur, h1, h2, h3, h4, h5⟩ := h hn
  exact ⟨g, cur, h1, h2, h3, h4.below k h4.lt, h5⟩
def RowsOk (w : World) (lo hi : Nat) (A : Option Addr) (n : Nat) (B : Option Addr) (m : Nat) (C : Option Addr) (k : Nat) : Prop := RowOk w lo hi 3 1 A n ∧ RowOk w lo hi 31 3 B m ∧ RowOk w lo hi 3 1 C k
section
variable {w w' : World} {lo hi n m k : Nat} {A B C : Option Addr}
theorem RowsOk.below (h : RowsOk w lo hi A n B m C k) (hb : Below w.heap.size w w') : RowsOk w' lo hi A n B m C k := ⟨h.1.below hb, h.2.1.below hb, h.2.2.below hb⟩
theorem RowsOk.within {lo' hi' : Nat} (h : RowsOk w lo hi A n B m C k) (hw : Within lo' hi' w w') (hd : hi' ≤ lo) : RowsOk w' lo hi A n B m C k := ⟨h.1.within hw hd, h.2.1.within hw hd, h.2.2.within hw hd⟩
theorem rowsOk_own {a : AM.At} {c d f : Nat} {b1 b2 : Int} {s1 s2 : ByteArray} (h : AtOwn w lo (.agg #[.int .u8 b1, .int .i64 b2, .slice A n c, .string s1, .string s2, .slice B m d, .slice C k f]) a) : RowsOk w lo w.heap.size A n B m C k := by
  obtain ⟨x, y, z, e, h1, h2, h3⟩ := h
  simp only [Value.agg.injEq, Array.mk.injEq, List.cons.injEq, and_true] at e
  obtain ⟨_, _, rfl, _, _, rfl, rfl⟩ := e
  have e1 : n = a.ms.length := by obtain ⟨_, _, e, _⟩ := own_form h1; injection e
  have e2 : m = a.ps.length := by obtain ⟨_, _, e, _⟩ := own_form h2; injection e
  have e3 : k = a.ac.length := by obtain ⟨_, _, e, _⟩ := own_form h3; injection e
  subst e1 e2 e3
  exact ⟨rowOk_own h1, rowOk_own h2, rowOk_own h3⟩
end
def TurnIn (w : World) (lo hi : Nat) (A : Option Addr) (n c : Nat) (B : Option Addr) (m d : Nat) (C : Option Addr) (k f : Nat) (c0 c1 c3 c4 : Value) (wr : World) : Prop :=
  Within lo hi w wr ∧ Box wr w.heap.size 25 #[c0, c1, .slice A n c, c3, c4, .slice B m d, .slice C k f] ∧ RowOk wr lo hi 3 1 A n ∧ RowOk wr lo hi 31 3 B m ∧ RowOk wr lo hi 3 1 C k
theorem TurnIn.set {w wr : World} {lo hi n c m d k f g i : Nat} {A B C : Option Addr} {c0 c1 c3 c4 : Value} {e : TypeId} {cur : Array Value} (h : TurnIn w lo hi A n c B m d C k f c0 c1 c3 c4 wr) (hh : hi ≤ w.heap.size) (hb : Box wr g e cur) (h1 : lo ≤ g) (h2 : g < hi) (u : Value) :
    TurnIn w lo hi A n c B m d C k f c0 c1 c3 c4 (wr.setCell ⟨g, i, none⟩ u) :=
  ⟨h.1.setCell h1 h2 u, h.2.1.far (p := ⟨g, i, none⟩) (by show w.heap.size ≠ g; omega) u, h.2.2.1.set hb u, h.2.2.2.1.set hb u, h.2.2.2.2.set hb u⟩
def TurnIs (lo hi : Nat) (w : World) (e : Ending) (w' : World) : Prop := e = .returned (.tuple #[]) ∧ Within lo hi w w'

set_option maxRecDepth 100000 in
set_option maxHeartbeats 4000000 in
theorem turn_in (lo hi : Nat) (ph ba : Int) (wi va : ByteArray) (A : Option Addr) (n c : Nat) (B : Option Addr) (m d : Nat) (C : Option Addr) (k f : Nat) (w : World) (H : RowsOk w lo hi A n B m C k) (hh : hi ≤ w.heap.size) (f1 : n ≤ 2000) (f2 : m ≤ 2000) (f3 : k ≤ 2000) :
    Calls Try.prog 24 #[.agg #[.int .u8 ph, .int .i64 ba, .slice A n c, .string wi, .string va, .slice B m d, .slice C k f]] w (TurnIs lo hi w) := by
  obtain ⟨h1, h2, h3⟩ := H
  have hst : TurnIn w lo hi A n c B m d C k f (.int .u8 ph) (.int .i64 ba) (.string wi) (.string va) (w.alloc (.cells #[.int .u8 ph, .int .i64 ba, .slice A n c, .string wi, .string va, .slice B m d, .slice C k f] 25)) :=
    ⟨(Within.refl _ _ _).alloc _, Box.new _ _ _, h1.alloc _, h2.alloc _, h3.alloc _⟩
  have HS := Lib.hid hst
  clear hst h1 h2 h3
  go_enter Try.func24, Try.ntmps24
  go_wp2_with fail
  go_loopw [2] (fun i wr => ∃ j : Nat, j ≤ n ∧ i = .int .i64 j ∧ TurnIn w lo hi A n c B m d C k f (.int .u8 ph) (.int .i64 ba) (.string wi) (.string va) wr) (fun i _ => n - (intOf i).toNat)
  case atStart => exact ⟨0, by omega, rfl, HS.out⟩
  case round =>
    clear HS
    obtain ⟨j, hj, rfl, hT⟩ := hrel
    obtain ⟨⟨t0, t1, t2, t3, t4, t5, t6⟩, _⟩ := hT.2.1.seven
    by_cases hlt : j < n
    · obtain ⟨g, cur, rfl, g1, g2, hx, hsz⟩ := hT.2.2.1 (by omega)
      have hcell : wr.cell? ⟨g, j, none⟩ = some (cur[j]'(by omega)) := by rw [hx.cell j, Array.getElem?_eq_getElem (by omega)]
      have hfr := hx.frozen j
      have HT := Lib.hid (hT.set hh (i := j) hx g1 g2 (.int .i64 77))
      generalize cur[j]'(by omega) = cj at hcell
      clear hT hx
      go_wp2_with fail
      go_roundw
      case rel => exact ⟨j + 1, by omega, by go_num, HT.out⟩
      case measure => simp [intOf]; omega
    · obtain rfl : n = j := by omega
      have HS2 := Lib.hid hT
      clear hT
      go_wp2_with fail
      clear t0 t1 t2 t3 t4 t5 t6
      go_loopw [3] (fun i wr => ∃ j : Nat, j ≤ m ∧ i = .int .i64 j ∧ TurnIn w lo hi A n c B m d C k f (.int .u8 ph) (.int .i64 ba) (.string wi) (.string va) wr) (fun i _ => m - (intOf i).toNat)
      case atStart => exact ⟨0, by omega, rfl, HS2.out⟩
      case round =>
        clear HS2
        obtain ⟨j, hj, rfl, hT⟩ := hrel
        obtain ⟨⟨t0, t1, t2, t3, t4, t5, t6⟩, _⟩ := hT.2.1.seven
        by_cases hlt : j < m
        · obtain ⟨g, cur, rfl, g1, g2, hx, hsz⟩ := hT.2.2.2.1 (by omega)
          have hcell : wr.cell? ⟨g, j * 3, none⟩ = some (cur[j * 3]'(by omega)) := by rw [hx.cell (j * 3), Array.getElem?_eq_getElem (by omega)]
          have hfr := hx.frozen (j * 3)
          have HT := Lib.hid (hT.set hh (i := j * 3) hx g1 g2 (.int .i64 77))
          generalize cur[j * 3]'(by omega) = cj at hcell
          clear hT hx
          go_wp2_with fail
          go_roundw
          case rel => exact ⟨j + 1, by omega, by go_num, HT.out⟩
          case measure => simp [intOf]; omega
        · obtain rfl : m = j := by omega
          have HS3 := Lib.hid hT
          clear hT
          go_wp2_with fail
          clear t0 t1 t2 t3 t4 t5 t6
          go_loopw [4] (fun i wr => ∃ j : Nat, j ≤ k ∧ i = .int .i64 j ∧ TurnIn w lo hi A n c B m d C k f (.int .u8 ph) (.int .i64 ba) (.string wi) (.string va) wr) (fun i _ => k - (intOf i).toNat)
          case atStart => exact ⟨0, by omega, rfl, HS3.out⟩
          case round =>
            clear HS3
            obtain ⟨j, hj, rfl, hT⟩ := hrel
            obtain ⟨⟨t0, t1, t2, t3, t4, t5, t6⟩, _⟩ := hT.2.1.seven
            by_cases hlt : j < k
            · obtain ⟨g, cur, rfl, g1, g2, hx, hsz⟩ := hT.2.2.2.2 (by omega)
              have hcell : wr.cell? ⟨g, j, none⟩ = some (cur[j]'(by omega)) := by rw [hx.cell j, Array.getElem?_eq_getElem (by omega)]
              have hfr := hx.frozen j
              have HT := Lib.hid (hT.set hh (i := j) hx g1 g2 (.int .i64 77))
              generalize cur[j]'(by omega) = cj at hcell
              clear hT hx
              go_wp2_with fail
              go_roundw
              case rel => exact ⟨j + 1, by omega, by go_num, HT.out⟩
              case measure => simp [intOf]; omega
            · obtain rfl : k = j := by omega
              have HE := Lib.hid hT.1
              clear hT
              go_wp2_with fail
              go_end0
              exact ⟨rfl, HE.out⟩
end Go.Proofs.Ytmcfamoicdmkdaa
