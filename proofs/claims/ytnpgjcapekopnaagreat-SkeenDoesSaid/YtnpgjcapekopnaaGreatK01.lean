/-
  Words for memory: rows that may be stored into; what a function that turns its own rows leaves as it was. No program.
  The laws' turn of a clock (towncrierlaw15): it turns cells of its own rows, and nothing else. Conditions: the rows may be stored into.
  The laws' turn of a clock, once more (towncrierlaw15): what blocks are, and how large, stays; only ints, what waits and stamps are turned. And the rows of messages that may be stored into. Conditions: the rows may be stored into.
  Twelve cells of a block stored, one behind the other. No walk, no program.
  The document's own Twin of a command (towncrierref12): it, in new memory. Conditions: as CmIs says; at most 2,000 of each.
  The document's own Twin of a command (towncrierref12): its rows lie in new memory, and may be stored into. Conditions: as twin12_any's.
  A region that copies two arguments into variables in whatever order: a law for its six operations, and what holds of each variable by what has come up. No walk.
-/
import Derived.Test.YtnpgjcapekopnaaGreatRowG
import Derived.Test.YtnpgjcapekopnaaGreatSkE
import Derived.Test.YtnpgjcapekopnaaGreatSkOwn
import Derived.Test.YtnpgjcapekopnaaGreatCmMem
import Derived.Test.YtnpgjcapekopnaaGreatProg
import Derived.Deep.DeepCutAuto
import Derived.Test.YtnpgjcapekopnaaGreatCmRow
import Derived.Test.YtnpgjcapekopnaaGreatSkDef
import Derived.Test.YtnpgjcapekopnaaGreatQq
namespace Go.Proofs.YtnpgjcapekopnaaGreat
open Go.RowKit
set_option linter.unusedVariables false
set_option linter.unusedSimpArgs false

/-- a row that may be stored into -/
def RowOk (w : World) (lo hi : Nat) (e : TypeId) (s : Nat) (A : Option Addr) (n : Nat) : Prop := 0 < n → ∃ g cur, A = some ⟨g, 0, none⟩ ∧ lo ≤ g ∧ g < hi ∧ Box w g e cur ∧ n * s ≤ cur.size
theorem rowOk_own {w : World} {base s n c : Nat} {e : TypeId} {A : Option Addr} {xs : List Value} (h : w.ownsRow base e s (.slice A n c) n xs) : RowOk w base w.heap.size e s A n := by
  intro hn
  rcases h.2 with ⟨_, h0⟩ | ⟨g, cap, cur, hv, hb, hx, hnc, _, hs, _⟩
  · omega
  · injection hv with h1 h2 h3
    exact ⟨g, cur, h1, hb, Box.lt hx, hx, by rw [hs]; exact Nat.mul_le_mul_right s hnc⟩
theorem RowOk.set {w : World} {lo hi s n g i : Nat} {e e' : TypeId} {A : Option Addr} {cur : Array Value} (h : RowOk w lo hi e s A n) (hb : Box w g e' cur) (u : Value) : RowOk (w.setCell ⟨g, i, none⟩ u) lo hi e s A n := by
  intro hn
  obtain ⟨g', cur', h1, h2, h3, h4, h5⟩ := h hn
  by_cases hg : g' = g
  · subst hg
    exact ⟨g', _, h1, h2, h3, h4.stored i u, by simpa using h5⟩
  · exact ⟨g', cur', h1, h2, h3, h4.far (p := ⟨g, i, none⟩) hg u, h5⟩
theorem RowOk.alloc {w : World} {lo hi s n : Nat} {e : TypeId} {A : Option Addr} (h : RowOk w lo hi e s A n) (o : Obj) : RowOk (w.alloc o) lo hi e s A n := by
  intro hn
  obtain ⟨g', cur', h1, h2, h3, h4, h5⟩ := h hn
  exact ⟨g', cur', h1, h2, h3, h4.alloc o, h5⟩
/-- but for the blocks from lo up to hi, all that was there is as it was -/
structure Within (lo hi : Nat) (a b : World) : Prop where
  os : b.os = a.os
  tape : b.tape = a.tape
  output : b.output = a.output
  size : a.heap.size ≤ b.heap.size
  block : ∀ i, i < a.heap.size → (i < lo ∨ hi ≤ i) → b.heap[i]? = a.heap[i]?
theorem Within.refl (lo hi : Nat) (a : World) : Within lo hi a a := ⟨rfl, rfl, rfl, Nat.le_refl _, fun _ _ _ => rfl⟩
theorem Within.more {lo hi : Nat} {a b c : World} (h : Within lo hi a b) (k : Below b.heap.size b c) : Within lo hi a c :=
  ⟨k.os.trans h.os, k.tape.trans h.tape, k.output.trans h.output, Nat.le_trans h.size k.size, fun i hi hne => (k.block i (Nat.lt_of_lt_of_le hi h.size)).trans (h.block i hi hne)⟩
theorem Within.alloc {lo hi : Nat} {a b : World} (h : Within lo hi a b) (o : Obj) : Within lo hi a (b.alloc o) := h.more ((Below.refl _ _).alloc (Nat.le_refl _) o)
theorem Within.setCell {lo hi g i : Nat} {a b : World} (h : Within lo hi a b) (h1 : lo ≤ g) (h2 : g < hi) (u : Value) : Within lo hi a (b.setCell ⟨g, i, none⟩ u) := by
  have k : Below g b (b.setCell ⟨g, i, none⟩ u) := (Below.refl g b).setCell (p := ⟨g, i, none⟩) (Nat.le_refl g) u
  refine ⟨k.os.trans h.os, k.tape.trans h.tape, k.output.trans h.output, Nat.le_trans h.size k.size, fun j hj hne => ?_⟩
  rw [← h.block j hj hne]
  exact Below.heap_setCell b ⟨g, i, none⟩ u j (by show j ≠ g; omega)
theorem Within.below {lo hi B : Nat} {a b : World} (h : Within lo hi a b) (hB : B ≤ lo) (hs : B ≤ a.heap.size) : Below B a b := ⟨h.os, h.tape, h.output, h.size, fun i hi => h.block i (by omega) (.inl (by omega))⟩
theorem Box.within {lo hi g : Nat} {a b : World} {t : TypeId} {cs : Array Value} (h : Box a g t cs) (k : Within lo hi a b) (hg : g < lo ∨ hi ≤ g) : Box b g t cs := (k.block g h.lt hg).trans h
theorem RowOk.within {w w' : World} {lo hi lo' hi' s n : Nat} {e : TypeId} {A : Option Addr} (h : RowOk w lo hi e s A n) (k : Within lo' hi' w w') (hd : hi' ≤ lo) : RowOk w' lo hi e s A n := by
  intro hn
  obtain ⟨g, cur, h1, h2, h3, h4, h5⟩ := h hn
  exact ⟨g, cur, h1, h2, h3, h4.within k (.inr (by omega)), h5⟩
theorem RowOk.below {w w' : World} {lo hi s n : Nat} {e : TypeId} {A : Option Addr} (h : RowOk w lo hi e s A n) (k : Below w.heap.size w w') : RowOk w' lo hi e s A n := by
  intro hn
  obtain ⟨g, cur, h1, h2, h3, h4, h5⟩ := h hn
  exact ⟨g, cur, h1, h2, h3, h4.below k h4.lt, h5⟩
def TurnIs (lo hi : Nat) (w : World) (e : Ending) (w' : World) : Prop := e = .returned (.tuple #[]) ∧ Within lo hi w w'
end Go.Proofs.YtnpgjcapekopnaaGreat

namespace Go.Proofs.YtnpgjcapekopnaaGreat.KP
open Go.RowKit CP TP
open CM (Mg Cm)
open TM (Sp)
open KM (Wt Sk)
set_option linter.unusedVariables false
set_option linter.unusedSimpArgs false

theorem box_differ {w : World} {g q : Nat} {e e' : TypeId} {cs cs' : Array Value} (h : Box w g e cs) (k : Box w q e' cs') (he : e ≠ e') : g ≠ q := by
  intro e2
  subst e2
  exact he (box_type h k)
/-- a row of structs of s cells, a slice of ints at the second, that may be stored into -/
def KOk (w : World) (lo hi : Nat) (T : TypeId) (s : Nat) (A : Option Addr) (n : Nat) : Prop := 0 < n → ∃ q cur, A = some ⟨q, 0, none⟩ ∧ lo ≤ q ∧ q < hi ∧ Box w q T cur ∧ n * s ≤ cur.size ∧
  ∀ i, i < n → ∃ B m c, cur[i * s + 1]? = some (.slice B m c) ∧ m ≤ 9223372036854775807 ∧ RowOk w lo hi 3 1 B m
section
variable {w w' : World} {lo hi n s g j : Nat} {A : Option Addr} {T e : TypeId} {cs : Array Value}
theorem KOk.set (h : KOk w lo hi T s A n) (hb : Box w g e cs) (he : T ≠ e) (u : Value) : KOk (w.setCell ⟨g, j, none⟩ u) lo hi T s A n := by
  intro hn
  obtain ⟨q, cur, h1, h2, h3, h4, h5, h6⟩ := h hn
  refine ⟨q, cur, h1, h2, h3, h4.far (p := ⟨g, j, none⟩) (box_differ h4 hb he) u, h5, fun i hi => ?_⟩
  obtain ⟨B, m, c, g1, g2, g3⟩ := h6 i hi
  exact ⟨B, m, c, g1, g2, g3.set hb u⟩
theorem KOk.store (h : KOk w lo hi T s A n) (hA : A = some ⟨g, 0, none⟩) (hj : ∀ i, j ≠ i * s + 1) (u : Value) : KOk (w.setCell ⟨g, j, none⟩ u) lo hi T s A n := by
  intro hn
  obtain ⟨q, cur, h1, h2, h3, h4, h5, h6⟩ := h hn
  rw [hA] at h1
  injection h1 with h1
  injection h1 with h1
  subst h1
  refine ⟨g, _, hA, h2, h3, h4.stored j u, by simpa using h5, fun i hi => ?_⟩
  obtain ⟨B, m, c, g1, g2, g3⟩ := h6 i hi
  exact ⟨B, m, c, by rw [Array.getElem?_setIfInBounds_ne (hj i)]; exact g1, g2, g3.set h4 u⟩
theorem KOk.below (h : KOk w lo hi T s A n) (k : Below w.heap.size w w') : KOk w' lo hi T s A n := by
  intro hn
  obtain ⟨q, cur, h1, h2, h3, h4, h5, h6⟩ := h hn
  refine ⟨q, cur, h1, h2, h3, h4.below k h4.lt, h5, fun i hi => ?_⟩
  obtain ⟨B, m, c, g1, g2, g3⟩ := h6 i hi
  exact ⟨B, m, c, g1, g2, g3.below k⟩
theorem KOk.within {lo' hi' : Nat} (h : KOk w lo hi T s A n) (k : Within lo' hi' w w') (hd : hi' ≤ lo) : KOk w' lo hi T s A n := by
  intro hn
  obtain ⟨q, cur, h1, h2, h3, h4, h5, h6⟩ := h hn
  refine ⟨q, cur, h1, h2, h3, h4.within k (.inr (by omega)), h5, fun i hi => ?_⟩
  obtain ⟨B, m, c, g1, g2, g3⟩ := h6 i hi
  exact ⟨B, m, c, g1, g2, g3.within k hd⟩
theorem kOk_own {α : Type} {K : Kd α} {c : Nat} {l : List α} (hK : ∀ A c x, (K.cel A c x)[1]? = some (.slice A (K.gs x).length c)) (hs1 : 1 < K.s) (h : KO K w lo T (.slice A n c) l) : KOk w lo w.heap.size T K.s A n := by
  intro h0
  obtain ⟨es, rfl, h2, h3⟩ := h
  rcases h2.2 with ⟨hv, h1⟩ | ⟨q, cap, cur, hv, hb, hx, hnc, _, hs, hc⟩
  · injection hv with _ e2 _
    omega
  injection hv with e1 e2 e3
  subst e2
  refine ⟨q, cur, e1, hb, Box.lt hx, hx, by rw [hs]; exact Nat.mul_le_mul_right _ hnc, fun i hi => ?_⟩
  obtain ⟨e, he⟩ : ∃ e, es[i]? = some e := ⟨_, List.getElem?_eq_getElem hi⟩
  have hm := h3 e (List.mem_of_getElem? he)
  have hf := flat_get (exc_len K es) he 1 hs1
  have hlt : i * K.s + 1 < es.length * K.s := by
    have : (i + 1) * K.s ≤ es.length * K.s := Nat.mul_le_mul_right _ hi
    rw [Nat.add_mul] at this
    omega
  rw [← hc, List.getElem?_take, if_pos hlt] at hf
  refine ⟨e.A, (K.gs e.x).length, e.c, ?_, ?_, fun hp => ?_⟩
  · unfold exc at hf
    rw [hK] at hf
    rw [← hf]
    simp
  · have h1 := hm.1.1.2.1
    have h2 := hm.1.1.2.2
    unfold maxLen at h2
    omega
  · obtain ⟨g, cg, k1, k2, k3, k4⟩ := hm.1.3 hp
    exact ⟨g, cg, k1, k2, Box.lt k3, k3, by omega⟩
end
/-- a clock's rows that may be stored into -/
structure KRows (w : World) (lo hi : Nat) (A B : Option Addr) (n m : Nat) : Prop where
  r0 : KOk w lo hi 52 7 A n
  r1 : RowOk w lo hi 70 2 B m
section
variable {w w' : World} {lo hi n m : Nat} {A B : Option Addr}
theorem KRows.below (h : KRows w lo hi A B n m) (k : Below w.heap.size w w') : KRows w' lo hi A B n m := ⟨h.r0.below k, h.r1.below k⟩
theorem KRows.within {lo' hi' : Nat} (h : KRows w lo hi A B n m) (k : Within lo' hi' w w') (hd : hi' ≤ lo) : KRows w' lo hi A B n m := ⟨h.r0.within k hd, h.r1.within k hd⟩
theorem KRows.set {g j : Nat} {e : TypeId} {cs : Array Value} (h : KRows w lo hi A B n m) (hb : Box w g e cs) (he : 52 ≠ e) (u : Value) : KRows (w.setCell ⟨g, j, none⟩ u) lo hi A B n m := ⟨h.r0.set hb he u, h.r1.set hb u⟩
theorem KRows.store {g j : Nat} {cs : Array Value} (h : KRows w lo hi A B n m) (hb : Box w g 52 cs) (hA : A = some ⟨g, 0, none⟩) (hj : ∀ i, j ≠ i * 7 + 1) (u : Value) : KRows (w.setCell ⟨g, j, none⟩ u) lo hi A B n m := ⟨h.r0.store hA hj u, h.r1.set hb u⟩
end
theorem SkO.rows {w : World} {b : Nat} {v : Value} {s : Sk} (h : SkO w b v s) : ∃ A c B d, v = vsk s.c (.slice A s.ws.length c) (.slice B s.ds.length d) ∧ KRows w b w.heap.size A B s.ws.length s.ds.length := by
  obtain ⟨vw, vd, rfl, h1, h2⟩ := h
  obtain ⟨A, c, rfl, h3⟩ := h1.g
  obtain ⟨B, d, rfl, h4, h5⟩ := own_form h2
  exact ⟨A, c, B, d, rfl, kOk_own (K := KW) (fun _ _ _ => rfl) (by decide) h1, rowOk_own h2⟩
/-- the word of turn's loops -/
structure KTn (w : World) (lo hi : Nat) (A B : Option Addr) (n m : Nat) (X : Array Value) (wr : World) : Prop where
  wi : Within lo hi w wr
  bx : Box wr w.heap.size 25 X
  rs : KRows wr lo hi A B n m
section
variable {w wr : World} {lo hi n m g j : Nat} {A B : Option Addr} {X : Array Value} {e : TypeId} {cs : Array Value}
theorem KTn.set (h : KTn w lo hi A B n m X wr) (hh : hi ≤ w.heap.size) (hb : Box wr g e cs) (he : 52 ≠ e) (h1 : lo ≤ g) (h2 : g < hi) (u : Value) : KTn w lo hi A B n m X (wr.setCell ⟨g, j, none⟩ u) :=
  ⟨h.wi.setCell h1 h2 u, h.bx.far (p := ⟨g, j, none⟩) (by show w.heap.size ≠ g; omega) u, h.rs.set hb he u⟩
theorem KTn.store (h : KTn w lo hi A B n m X wr) (hh : hi ≤ w.heap.size) (hb : Box wr g 52 cs) (hA : A = some ⟨g, 0, none⟩) (hj : ∀ i, j ≠ i * 7 + 1) (h1 : lo ≤ g) (h2 : g < hi) (u : Value) : KTn w lo hi A B n m X (wr.setCell ⟨g, j, none⟩ u) :=
  ⟨h.wi.setCell h1 h2 u, h.bx.far (p := ⟨g, j, none⟩) (by show w.heap.size ≠ g; omega) u, h.rs.store hb hA hj u⟩
end
set_option maxRecDepth 100000 in
set_option maxHeartbeats 8000000 in
theorem turn15_in (lo hi : Nat) (sc : Int) (A B : Option Addr) (n m c d : Nat) (w : World) (H : KRows w lo hi A B n m) (hh : hi ≤ w.heap.size) (f0 : n ≤ 9223372036854775807) (f1 : m ≤ 9223372036854775807) :
    Calls Tryz.prog 18 #[.agg #[.int .i64 sc, .slice A n c, .slice B m d]] w (TurnIs lo hi w) := by
  have hst : KTn w lo hi A B n m #[.int .i64 sc, .slice A n c, .slice B m d] (w.alloc (.cells #[.int .i64 sc, .slice A n c, .slice B m d] 25)) :=
    ⟨(Within.refl _ _ _).alloc _, Box.new _ _ _, H.below ((Below.refl _ _).alloc (Nat.le_refl _) _)⟩
  have HS := Lib.hid hst
  clear hst H
  go_enter Tryz.func18, Tryz.ntmps18
  go_wp2_with fail
  go_loopw [2] (fun i wr => ∃ j : Nat, j ≤ n ∧ i = .int .i64 j ∧ Hid (KTn w lo hi A B n m #[.int .i64 sc, .slice A n c, .slice B m d] wr)) (fun i _ => n - (intOf i).toNat)
  case atStart => exact ⟨0, by omega, rfl, HS⟩
  case round =>
    clear HS
    obtain ⟨j, hj, rfl, HT⟩ := hrel
    obtain ⟨t0, t1, t2⟩ := box_sk HT.out.bx
    by_cases hlt : j < n
    · have i0 : (0 : Int) ≤ (j : Int) := by omega
      have i1 : (j : Int) < (n : Int) := by omega
      obtain ⟨q, rfl⟩ : ∃ q, A = some ⟨q, 0, none⟩ := by obtain ⟨q, _, h, _⟩ := HT.out.rs.r0 (by omega); exact ⟨q, h⟩
      go_wp2_with fail
      clear t0 t1 t2
      go_loopw [3] (fun i wr => ∃ k : Nat, i = .int .i64 k ∧ Hid (KTn w lo hi (some ⟨q, 0, none⟩) B n m #[.int .i64 sc, .slice (some ⟨q, 0, none⟩) n c, .slice B m d] wr)) (fun i _ => 9223372036854775808 - (intOf i).toNat)
      case atStart => exact ⟨0, rfl, HT⟩
      case round =>
        clear HT
        obtain ⟨k, rfl, HT⟩ := hrel
        obtain ⟨t0, t1, t2⟩ := box_sk HT.out.bx
        obtain ⟨q', cur, e', q1, q2, hx, hsz, hall⟩ := HT.out.rs.r0 (by omega)
        injection e' with e'
        injection e' with e'
        subst e'
        obtain ⟨C, y, z, hcB, hm, hrow⟩ := hall j hlt
        have hmc : wr.cell? ⟨q, j * 7 + 1, none⟩ = some (.slice C y z) := by rw [hx.cell (j * 7 + 1)]; exact hcB
        by_cases hk : k < y
        · obtain ⟨g, cg, rfl, g1, g2, hxg, hsg⟩ := hrow (by omega)
          have hcell : wr.cell? ⟨g, k, none⟩ = some (cg[k]'(by omega)) := by rw [hxg.cell k, Array.getElem?_eq_getElem (by omega)]
          have hfr := hxg.frozen k
          have HT2 := Lib.hid (HT.out.set hh (j := k) hxg (by decide) g1 g2 (.int .i64 77))
          generalize cg[k]'(by omega) = cj at hcell
          have k0 : (0 : Int) ≤ (k : Int) := by omega
          have k1 : (k : Int) < (y : Int) := by omega
          clear HT hx hxg hall hcB hrow
          go_wp2_with fail
          go_roundw
          case rel => exact ⟨k + 1, by go_num, HT2⟩
          case measure => simp [intOf]; omega
        · have k1 : decide ((k : Int) < (y : Int)) = false := by simp; omega
          have hj7 : j * 7 + 5 < cur.size := by omega
          have hc5 : wr.cell? ⟨q, j * 7 + 5, none⟩ = some (cur[j * 7 + 5]'hj7) := by rw [hx.cell (j * 7 + 5), Array.getElem?_eq_getElem hj7]
          have hf5 := hx.frozen (j * 7 + 5)
          have HT2 := Lib.hid (HT.out.store hh (j := j * 7 + 5) hx rfl (fun i => by omega) q1 q2 (.int .i64 77))
          generalize cur[j * 7 + 5]'hj7 = cj at hc5
          clear HT hx hall hcB hrow hj7
          go_wp2_with fail
          go_roundw
          case rel => exact ⟨j + 1, by omega, by go_num, HT2⟩
          case measure => simp [intOf]; omega
    obtain rfl : n = j := by omega
    have HS2 := HT
    clear HT
    go_wp2_with fail
    clear t0 t1 t2
    go_loopw [4] (fun i wr => ∃ j : Nat, j ≤ m ∧ i = .int .i64 j ∧ Hid (KTn w lo hi A B n m #[.int .i64 sc, .slice A n c, .slice B m d] wr)) (fun i _ => m - (intOf i).toNat)
    case atStart => exact ⟨0, by omega, rfl, HS2⟩
    case round =>
      clear HS2
      obtain ⟨j, hj, rfl, HT⟩ := hrel
      obtain ⟨t0, t1, t2⟩ := box_sk HT.out.bx
      by_cases hlt : j < m
      · obtain ⟨g, cur, rfl, g1, g2, hx, hsz⟩ := HT.out.rs.r1 (by omega)
        have hcell : wr.cell? ⟨g, j * 2 + 1, none⟩ = some (cur[j * 2 + 1]'(by omega)) := by rw [hx.cell (j * 2 + 1), Array.getElem?_eq_getElem (by omega)]
        have hfr := hx.frozen (j * 2 + 1)
        have HT2 := Lib.hid (HT.out.set hh (j := j * 2 + 1) hx (by decide) g1 g2 (.int .i64 77))
        generalize cur[j * 2 + 1]'(by omega) = cj at hcell
        clear HT hx
        go_wp2_with fail
        go_roundw
        case rel => exact ⟨j + 1, by omega, by go_num, HT2⟩
        case measure => simp [intOf]; omega
      have HE := Lib.hid HT.out.wi
      clear HT
      go_wp2_with fail
      go_end0
      exact ⟨rfl, HE.out⟩
end Go.Proofs.YtnpgjcapekopnaaGreat.KP

namespace Go.Proofs.YtnpgjcapekopnaaGreat.KP
open Go.RowKit CP TP
open CM (Mg Cm)
open TM (Sp)
open KM (Wt Sk)
set_option linter.unusedVariables false
set_option linter.unusedSimpArgs false

/-- what turn turns -/
def isTu (e : TypeId) : Prop := e = 3 ∨ e = 52 ∨ e = 70
/-- the blocks are what they were, and as large -/
def Sz (w w' : World) : Prop := ∀ g e cs, Box w g e cs → ∃ cs', Box w' g e cs' ∧ cs'.size = cs.size ∧ (¬ isTu e → cs' = cs)
section
variable {w w' w2 : World} {lo hi n s g j : Nat} {A B : Option Addr} {T e : TypeId} {cs : Array Value} {m : Nat} {X : Array Value} {wr : World}
theorem Sz.refl (w : World) : Sz w w := fun g e cs h => ⟨cs, h, rfl, fun _ => rfl⟩
theorem Sz.trans (h : Sz w w') (k : Sz w' w2) : Sz w w2 := fun g e cs hb => by
  obtain ⟨c1, b1, s1, e1⟩ := h g e cs hb
  obtain ⟨c2, b2, s2, e2⟩ := k g e c1 b1
  exact ⟨c2, b2, s2.trans s1, fun q => (e2 q).trans (e1 q)⟩
theorem Sz.of_below (h : Below w.heap.size w w') : Sz w w' := fun g e cs hb => ⟨cs, hb.below h hb.lt, rfl, fun _ => rfl⟩
theorem Sz.set (h : Box w g e cs) (he : isTu e) (u : Value) : Sz w (w.setCell ⟨g, j, none⟩ u) := fun g' e' cs' hb => by
  by_cases hg : g' = g
  · subst hg
    obtain rfl := box_type hb h
    exact ⟨_, hb.stored j u, by simp, fun q => absurd he q⟩
  · exact ⟨cs', hb.far (p := ⟨g, j, none⟩) hg u, rfl, fun _ => rfl⟩
theorem RowOk.sz (h : RowOk w lo hi e s A n) (k : Sz w w') : RowOk w' lo hi e s A n := by
  intro hn
  obtain ⟨q, cur, h1, h2, h3, h4, h5⟩ := h hn
  obtain ⟨c2, b2, s2, _⟩ := k q _ _ h4
  exact ⟨q, c2, h1, h2, h3, b2, by omega⟩
theorem KOk.sz (h : KOk w lo hi T s A n) (k : Sz w w') (hT : ¬ isTu T) : KOk w' lo hi T s A n := by
  intro hn
  obtain ⟨q, cur, h1, h2, h3, h4, h5, h6⟩ := h hn
  obtain ⟨c2, b2, s2, e2⟩ := k q _ _ h4
  obtain rfl := e2 hT
  refine ⟨q, _, h1, h2, h3, b2, h5, fun i hi => ?_⟩
  obtain ⟨B, m, c, g1, g2, g3⟩ := h6 i hi
  exact ⟨B, m, c, g1, g2, RowOk.sz g3 k⟩
/-- the word of turn's loops, and what blocks are -/
structure KTz (w : World) (lo hi : Nat) (A B : Option Addr) (n m : Nat) (X : Array Value) (wr : World) : Prop where
  kt : KTn w lo hi A B n m X wr
  sz : Sz w wr
theorem KTz.set (h : KTz w lo hi A B n m X wr) (hh : hi ≤ w.heap.size) (hb : Box wr g e cs) (he : 52 ≠ e) (h1 : lo ≤ g) (h2 : g < hi) (u : Value) (ht : isTu e) : KTz w lo hi A B n m X (wr.setCell ⟨g, j, none⟩ u) :=
  ⟨h.kt.set hh hb he h1 h2 u, h.sz.trans (Sz.set hb ht u)⟩
theorem KTz.store (h : KTz w lo hi A B n m X wr) (hh : hi ≤ w.heap.size) (hb : Box wr g 52 cs) (hA : A = some ⟨g, 0, none⟩) (hj : ∀ i, j ≠ i * 7 + 1) (h1 : lo ≤ g) (h2 : g < hi) (u : Value) : KTz w lo hi A B n m X (wr.setCell ⟨g, j, none⟩ u) :=
  ⟨h.kt.store hh hb hA hj h1 h2 u, h.sz.trans (Sz.set hb (.inr (.inl rfl)) u)⟩
end
/-- turned: within, and blocks are what they were -/
def TurnZ (lo hi : Nat) (w : World) (e : Ending) (w' : World) : Prop := e = .returned (.tuple #[]) ∧ Within lo hi w w' ∧ Sz w w'
set_option maxRecDepth 100000 in
set_option maxHeartbeats 8000000 in
theorem turn15_sz (lo hi : Nat) (sc : Int) (A B : Option Addr) (n m c d : Nat) (w : World) (H : KRows w lo hi A B n m) (hh : hi ≤ w.heap.size) (f0 : n ≤ 9223372036854775807) (f1 : m ≤ 9223372036854775807) :
    Calls Tryz.prog 18 #[.agg #[.int .i64 sc, .slice A n c, .slice B m d]] w (TurnZ lo hi w) := by
  have hst : KTz w lo hi A B n m #[.int .i64 sc, .slice A n c, .slice B m d] (w.alloc (.cells #[.int .i64 sc, .slice A n c, .slice B m d] 25)) :=
    ⟨⟨(Within.refl _ _ _).alloc _, Box.new _ _ _, H.below ((Below.refl _ _).alloc (Nat.le_refl _) _)⟩, Sz.of_below ((Below.refl _ _).alloc (Nat.le_refl _) _)⟩
  have HS := Lib.hid hst
  clear hst H
  go_enter Tryz.func18, Tryz.ntmps18
  go_wp2_with fail
  go_loopw [2] (fun i wr => ∃ j : Nat, j ≤ n ∧ i = .int .i64 j ∧ Hid (KTz w lo hi A B n m #[.int .i64 sc, .slice A n c, .slice B m d] wr)) (fun i _ => n - (intOf i).toNat)
  case atStart => exact ⟨0, by omega, rfl, HS⟩
  case round =>
    clear HS
    obtain ⟨j, hj, rfl, HT⟩ := hrel
    obtain ⟨t0, t1, t2⟩ := box_sk HT.out.kt.bx
    by_cases hlt : j < n
    · have i0 : (0 : Int) ≤ (j : Int) := by omega
      have i1 : (j : Int) < (n : Int) := by omega
      obtain ⟨q, rfl⟩ : ∃ q, A = some ⟨q, 0, none⟩ := by obtain ⟨q, _, h, _⟩ := HT.out.kt.rs.r0 (by omega); exact ⟨q, h⟩
      go_wp2_with fail
      clear t0 t1 t2
      go_loopw [3] (fun i wr => ∃ k : Nat, i = .int .i64 k ∧ Hid (KTz w lo hi (some ⟨q, 0, none⟩) B n m #[.int .i64 sc, .slice (some ⟨q, 0, none⟩) n c, .slice B m d] wr)) (fun i _ => 9223372036854775808 - (intOf i).toNat)
      case atStart => exact ⟨0, rfl, HT⟩
      case round =>
        clear HT
        obtain ⟨k, rfl, HT⟩ := hrel
        obtain ⟨t0, t1, t2⟩ := box_sk HT.out.kt.bx
        obtain ⟨q', cur, e', q1, q2, hx, hsz, hall⟩ := HT.out.kt.rs.r0 (by omega)
        injection e' with e'
        injection e' with e'
        subst e'
        obtain ⟨C, y, z, hcB, hm, hrow⟩ := hall j hlt
        have hmc : wr.cell? ⟨q, j * 7 + 1, none⟩ = some (.slice C y z) := by rw [hx.cell (j * 7 + 1)]; exact hcB
        by_cases hk : k < y
        · obtain ⟨g, cg, rfl, g1, g2, hxg, hsg⟩ := hrow (by omega)
          have hcell : wr.cell? ⟨g, k, none⟩ = some (cg[k]'(by omega)) := by rw [hxg.cell k, Array.getElem?_eq_getElem (by omega)]
          have hfr := hxg.frozen k
          have HT2 := Lib.hid (HT.out.set hh (j := k) hxg (by decide) g1 g2 (.int .i64 77) (.inl rfl))
          generalize cg[k]'(by omega) = cj at hcell
          have k0 : (0 : Int) ≤ (k : Int) := by omega
          have k1 : (k : Int) < (y : Int) := by omega
          clear HT hx hxg hall hcB hrow
          go_wp2_with fail
          go_roundw
          case rel => exact ⟨k + 1, by go_num, HT2⟩
          case measure => simp [intOf]; omega
        · have k1 : decide ((k : Int) < (y : Int)) = false := by simp; omega
          have hj7 : j * 7 + 5 < cur.size := by omega
          have hc5 : wr.cell? ⟨q, j * 7 + 5, none⟩ = some (cur[j * 7 + 5]'hj7) := by rw [hx.cell (j * 7 + 5), Array.getElem?_eq_getElem hj7]
          have hf5 := hx.frozen (j * 7 + 5)
          have HT2 := Lib.hid (HT.out.store hh (j := j * 7 + 5) hx rfl (fun i => by omega) q1 q2 (.int .i64 77))
          generalize cur[j * 7 + 5]'hj7 = cj at hc5
          clear HT hx hall hcB hrow hj7
          go_wp2_with fail
          go_roundw
          case rel => exact ⟨j + 1, by omega, by go_num, HT2⟩
          case measure => simp [intOf]; omega
    obtain rfl : n = j := by omega
    have HS2 := HT
    clear HT
    go_wp2_with fail
    clear t0 t1 t2
    go_loopw [4] (fun i wr => ∃ j : Nat, j ≤ m ∧ i = .int .i64 j ∧ Hid (KTz w lo hi A B n m #[.int .i64 sc, .slice A n c, .slice B m d] wr)) (fun i _ => m - (intOf i).toNat)
    case atStart => exact ⟨0, by omega, rfl, HS2⟩
    case round =>
      clear HS2
      obtain ⟨j, hj, rfl, HT⟩ := hrel
      obtain ⟨t0, t1, t2⟩ := box_sk HT.out.kt.bx
      by_cases hlt : j < m
      · obtain ⟨g, cur, rfl, g1, g2, hx, hsz⟩ := HT.out.kt.rs.r1 (by omega)
        have hcell : wr.cell? ⟨g, j * 2 + 1, none⟩ = some (cur[j * 2 + 1]'(by omega)) := by rw [hx.cell (j * 2 + 1), Array.getElem?_eq_getElem (by omega)]
        have hfr := hx.frozen (j * 2 + 1)
        have HT2 := Lib.hid (HT.out.set hh (j := j * 2 + 1) hx (by decide) g1 g2 (.int .i64 77) (.inr (.inr rfl)))
        generalize cur[j * 2 + 1]'(by omega) = cj at hcell
        clear HT hx
        go_wp2_with fail
        go_roundw
        case rel => exact ⟨j + 1, by omega, by go_num, HT2⟩
        case measure => simp [intOf]; omega
      have HE := Lib.hid (And.intro HT.out.kt.wi HT.out.sz)
      clear HT
      go_wp2_with fail
      go_end0
      exact ⟨rfl, HE.out.1, HE.out.2⟩
end Go.Proofs.YtnpgjcapekopnaaGreat.KP

namespace Go.Proofs.YtnpgjcapekopnaaGreat.CP
open Go.RowKit
open CM (Mg Cm)
set_option linter.unusedVariables false
set_option linter.unusedSimpArgs false

/-- twelve cells stored -/
def put12 (w : World) (g : Nat) (a0 a1 a2 a3 a4 a5 a6 a7 a8 a9 a10 a11 : Value) : World := ((((((((((((w.setCell ⟨g, 0, none⟩ a0).setCell ⟨g, 1, none⟩ a1).setCell ⟨g, 2, none⟩ a2).setCell ⟨g, 3, none⟩ a3).setCell ⟨g, 4, none⟩ a4).setCell ⟨g, 5, none⟩ a5).setCell ⟨g, 6, none⟩ a6).setCell ⟨g, 7, none⟩ a7).setCell ⟨g, 8, none⟩ a8).setCell ⟨g, 9, none⟩ a9).setCell ⟨g, 10, none⟩ a10).setCell ⟨g, 11, none⟩ a11)
theorem put12_box {w : World} {g : Nat} {t : TypeId} {b0 b1 b2 b3 b4 b5 b6 b7 b8 b9 b10 b11 : Value} (h : Box w g t #[b0, b1, b2, b3, b4, b5, b6, b7, b8, b9, b10, b11]) (a0 a1 a2 a3 a4 a5 a6 a7 a8 a9 a10 a11 : Value) : Box (put12 w g a0 a1 a2 a3 a4 a5 a6 a7 a8 a9 a10 a11) g t #[a0, a1, a2, a3, a4, a5, a6, a7, a8, a9, a10, a11] := by
  have := (((((((((((h.stored 0 a0).stored 1 a1).stored 2 a2).stored 3 a3).stored 4 a4).stored 5 a5).stored 6 a6).stored 7 a7).stored 8 a8).stored 9 a9).stored 10 a10).stored 11 a11
  simpa [put12] using this
theorem put12_below {B g : Nat} {u w : World} (h : Below B u w) (hg : B ≤ g) (a0 a1 a2 a3 a4 a5 a6 a7 a8 a9 a10 a11 : Value) : Below B u (put12 w g a0 a1 a2 a3 a4 a5 a6 a7 a8 a9 a10 a11) :=
  (((((((((((h.setCell (p := ⟨g, 0, none⟩) hg a0).setCell (p := ⟨g, 1, none⟩) hg a1).setCell (p := ⟨g, 2, none⟩) hg a2).setCell (p := ⟨g, 3, none⟩) hg a3).setCell (p := ⟨g, 4, none⟩) hg a4).setCell (p := ⟨g, 5, none⟩) hg a5).setCell (p := ⟨g, 6, none⟩) hg a6).setCell (p := ⟨g, 7, none⟩) hg a7).setCell (p := ⟨g, 8, none⟩) hg a8).setCell (p := ⟨g, 9, none⟩) hg a9).setCell (p := ⟨g, 10, none⟩) hg a10).setCell (p := ⟨g, 11, none⟩) hg a11
theorem put12_own {w : World} {base g s n : Nat} {e : TypeId} {v : Value} {xs : List Value} (h : w.ownsRow base e s v n xs) (hg : g < base) (a0 a1 a2 a3 a4 a5 a6 a7 a8 a9 a10 a11 : Value) : (put12 w g a0 a1 a2 a3 a4 a5 a6 a7 a8 a9 a10 a11).ownsRow base e s v n xs := by
  unfold put12
  repeat (refine ownsRow_setCell_below ?_ hg _)
  exact h
end Go.Proofs.YtnpgjcapekopnaaGreat.CP

namespace Go.Proofs.YtnpgjcapekopnaaGreat.CP
open Go.RowKit
open CM (Mg Cm)
set_option linter.unusedVariables false
set_option linter.unusedSimpArgs false
set_option maxRecDepth 100000

theorem info_int : (Tryz.prog.info? 3).map (fun i => (i.zero, i.size, i.bytes)) = some (some (.int .i64 0), 1, 8) := by kernel_rfl
/-- the three variables, and what was there stays -/
structure Tw (w : World) (X Y O : Array Value) (u : World) : Prop where
  bl : Below w.heap.size w u
  bx : Box u w.heap.size 30 X
  by_ : Box u (w.heap.size + 1) 30 Y
  bo : Box u (w.heap.size + 1 + 1) 30 O
theorem Tw.below {w u u' : World} {X Y O : Array Value} (h : Tw w X Y O u) (hb : Below u.heap.size u u') : Tw w X Y O u' :=
  ⟨bmore h.bl hb (Nat.le_refl _), h.bx.below hb h.bx.lt, h.by_.below hb h.by_.lt, h.bo.below hb h.bo.lt⟩
theorem Tw.set {w u : World} {X Y O O' : Array Value} (h : Tw w X Y O u) (i : Nat) (x : Value) (ho : O.setIfInBounds i x = O') : Tw w X Y O' (u.setCell ⟨w.heap.size + 1 + 1, i, none⟩ x) :=
  ⟨h.bl.setCell (p := ⟨w.heap.size + 1 + 1, i, none⟩) (by show w.heap.size ≤ w.heap.size + 1 + 1; omega) x, h.bx.far (p := ⟨w.heap.size + 1 + 1, i, none⟩) (by show w.heap.size ≠ w.heap.size + 1 + 1; omega) x,
    h.by_.far (p := ⟨w.heap.size + 1 + 1, i, none⟩) (by show w.heap.size + 1 ≠ w.heap.size + 1 + 1; omega) x, ho ▸ h.bo.stored i x⟩
/-- a row of one's own, behind the three variables -/
def RowO (w u : World) (v : Value) (l : List Int) : Prop := u.ownsRow (w.heap.size + 1 + 1 + 1) 3 1 v l.length (ic l)
theorem RowO.set {w u : World} {v : Value} {l : List Int} (h : RowO w u v l) (i : Nat) (x : Value) : RowO w (u.setCell ⟨w.heap.size + 1 + 1, i, none⟩ x) v l :=
  ownsRow_setCell_below h (a := ⟨w.heap.size + 1 + 1, i, none⟩) (by show w.heap.size + 1 + 1 < _; omega) x
set_option maxHeartbeats 8000000 in
theorem twin12_any (x : Cm) (v : Value) (w : World) (h : CmIs w v x) (f1 : x.m.gs.length ≤ 2000) (f2 : x.ms.length ≤ 2000) :
    Calls Tryz.prog 6 #[v] w fun e w' => ∃ v', e = .returned v' ∧ CmIs w' v' x ∧ Below w.heap.size w w' := by
  obtain ⟨A, c, P, q, rfl, r1, r3⟩ := h
  obtain ⟨k, am, aid, atm, ams, atp, awh, an⟩ := x
  simp only at r1 r3 f1 f2
  obtain ⟨i0, hi, hz0, hz1, hz2⟩ := info_parts info_int
  have R1 := Lib.hid r1
  have R3 := Lib.hid r3
  clear r1 r3
  show Calls _ _ #[.agg #[.int .u8 k, .int .i64 am.id, .slice A am.gs.length c, .int .i64 am.tp, .string am.key, .string am.body, .int .i64 aid, .int .i64 atm, .slice P ams.length q, .int .i64 atp, .int .i64 awh, .int .i64 an]] _ _
  go_enter Tryz.func6, Tryz.ntmps6
  go_upto_region 2 with (fail)
  have HT : Hid (Tw w #[.int .u8 k, .int .i64 am.id, .slice A am.gs.length c, .int .i64 am.tp, .string am.key, .string am.body, .int .i64 aid, .int .i64 atm, .slice P ams.length q, .int .i64 atp, .int .i64 awh, .int .i64 an] #[.int .u8 0, .int .i64 0, .slice none 0 0, .int .i64 0, .string ⟨#[]⟩, .string ⟨#[]⟩, .int .i64 0, .int .i64 0, .slice none 0 0, .int .i64 0, .int .i64 0, .int .i64 0] #[.int .u8 k, .int .i64 am.id, .slice A am.gs.length c, .int .i64 am.tp, .string am.key, .string am.body, .int .i64 aid, .int .i64 atm, .slice P ams.length q, .int .i64 atp, .int .i64 awh, .int .i64 an] (((w.alloc (.cells #[.int .u8 k, .int .i64 am.id, .slice A am.gs.length c, .int .i64 am.tp, .string am.key, .string am.body, .int .i64 aid, .int .i64 atm, .slice P ams.length q, .int .i64 atp, .int .i64 awh, .int .i64 an] 30)).alloc (.cells #[.int .u8 0, .int .i64 0, .slice none 0 0, .int .i64 0, .string ⟨#[]⟩, .string ⟨#[]⟩, .int .i64 0, .int .i64 0, .slice none 0 0, .int .i64 0, .int .i64 0, .int .i64 0] 30)).alloc (.cells #[.int .u8 k, .int .i64 am.id, .slice A am.gs.length c, .int .i64 am.tp, .string am.key, .string am.body, .int .i64 aid, .int .i64 atm, .slice P ams.length q, .int .i64 atp, .int .i64 awh, .int .i64 an] 30))) := Lib.hid ⟨(((Below.refl _ _).alloc (Nat.le_refl _) _).alloc (by simp) _).alloc (by simp; omega) _, ((Box.new _ _ _).alloc _).alloc _, (Box.new_at _ (by simp)).alloc _, Box.new_at _ (by simp)⟩
  generalize ((w.alloc (.cells #[.int .u8 k, .int .i64 am.id, .slice A am.gs.length c, .int .i64 am.tp, .string am.key, .string am.body, .int .i64 aid, .int .i64 atm, .slice P ams.length q, .int .i64 atp, .int .i64 awh, .int .i64 an] 30)).alloc (.cells #[.int .u8 0, .int .i64 0, .slice none 0 0, .int .i64 0, .string ⟨#[]⟩, .string ⟨#[]⟩, .int .i64 0, .int .i64 0, .slice none 0 0, .int .i64 0, .int .i64 0, .int .i64 0] 30)).alloc (.cells #[.int .u8 k, .int .i64 am.id, .slice A am.gs.length c, .int .i64 am.tp, .string am.key, .string am.body, .int .i64 aid, .int .i64 atm, .slice P ams.length q, .int .i64 atp, .int .i64 awh, .int .i64 an] 30) = w3 at HT ⊢
  obtain ⟨x0, x1, x2, x3, x4, x5, x6, x7, x8, x9, x10, x11⟩ := box_cm HT.out.bx
  obtain ⟨_, _, y2, _, _, _, _, _, y8, _, _, _⟩ := box_cm HT.out.bo
  have z2 := HT.out.bo.frozen 2
  have z8 := HT.out.bo.frozen 8
  go_upto_region 3 with (fail)
  clear x0 x1 x2 x3 x4 x5 x6 x7 x8 x9 x10 x11 z2 z8
  clear y2 y8
  replace HT := Lib.hid (HT.out.set 2 (.slice none 0 0) (O' := #[.int .u8 k, .int .i64 am.id, .slice none 0 0, .int .i64 am.tp, .string am.key, .string am.body, .int .i64 aid, .int .i64 atm, .slice P ams.length q, .int .i64 atp, .int .i64 awh, .int .i64 an]) (by simp))
  generalize w3.setCell ⟨w.heap.size + 1 + 1, 2, none⟩ (.slice none 0 0) = w4 at HT ⊢
  obtain ⟨x0, x1, x2, x3, x4, x5, x6, x7, x8, x9, x10, x11⟩ := box_cm HT.out.bx
  obtain ⟨_, _, y2, _, _, _, _, _, y8, _, _, _⟩ := box_cm HT.out.bo
  have z2 := HT.out.bo.frozen 2
  have z8 := HT.out.bo.frozen 8
  have hsz := HT.out.bo.lt
  go_upto_region 4 with (at_builtin; refine wpList_append_rd _ rfl _ _ 26 rfl (w.heap.size + 1 + 1 + 1) 3 i0 (.int .i64 0) 8 Tryz.underlying26 hi hz0 hz1 hz2 rfl (.slice none 0 0) 0 [] rfl (World.ownsRow_nil _ _ _ _) A am.gs.length c (ic am.gs) rfl (R1.out.below HT.out.bl).1 (ic_one _) (by unfold maxLen; omega) (by omega) hsz ?_; intro v1 u1 hown hgr hob; rw [Nat.zero_add] at hown; obtain ⟨A1, c1, rfl, hc1, hm1⟩ := own_form hown; have hb := below_of_grown hgr (by intro g h; cases h); have HO1 : Hid (RowO w u1 (.slice A1 am.gs.length c1) am.gs) := Lib.hid (by have := hown; unfold RowO; simpa using this); replace HT := Lib.hid (HT.out.below hb); clear x0 x1 x2 x3 x4 x5 x6 x7 x8 x9 x10 x11 y2 y8; obtain ⟨x0, x1, x2, x3, x4, x5, x6, x7, x8, x9, x10, x11⟩ := box_cm HT.out.bx; obtain ⟨_, _, y2, _, _, _, _, _, y8, _, _, _⟩ := box_cm HT.out.bo; have z2 := HT.out.bo.frozen 2; have z8 := HT.out.bo.frozen 8)
  clear x0 x1 x2 x3 x4 x5 x6 x7 x8 x9 x10 x11 z2 z8
  replace HT := Lib.hid (HT.out.set 2 (.slice A1 am.gs.length c1) (O' := #[.int .u8 k, .int .i64 am.id, .slice A1 am.gs.length c1, .int .i64 am.tp, .string am.key, .string am.body, .int .i64 aid, .int .i64 atm, .slice P ams.length q, .int .i64 atp, .int .i64 awh, .int .i64 an]) (by simp))
  replace HO1 := Lib.hid (HO1.out.set 2 (.slice A1 am.gs.length c1))
  clear hown hgr hob hb hsz y2 y8
  generalize u1.setCell ⟨w.heap.size + 1 + 1, 2, none⟩ (.slice A1 am.gs.length c1) = w5 at HT HO1 ⊢
  obtain ⟨x0, x1, x2, x3, x4, x5, x6, x7, x8, x9, x10, x11⟩ := box_cm HT.out.bx
  obtain ⟨_, _, y2, _, _, _, _, _, y8, _, _, _⟩ := box_cm HT.out.bo
  have z2 := HT.out.bo.frozen 2
  have z8 := HT.out.bo.frozen 8
  go_upto_region 5 with (fail)
  clear x0 x1 x2 x3 x4 x5 x6 x7 x8 x9 x10 x11 z2 z8
  clear y2 y8
  replace HT := Lib.hid (HT.out.set 8 (.slice none 0 0) (O' := #[.int .u8 k, .int .i64 am.id, .slice A1 am.gs.length c1, .int .i64 am.tp, .string am.key, .string am.body, .int .i64 aid, .int .i64 atm, .slice none 0 0, .int .i64 atp, .int .i64 awh, .int .i64 an]) (by simp))
  replace HO1 := Lib.hid (HO1.out.set 8 (.slice none 0 0))
  generalize w5.setCell ⟨w.heap.size + 1 + 1, 8, none⟩ (.slice none 0 0) = w6 at HT HO1 ⊢
  obtain ⟨x0, x1, x2, x3, x4, x5, x6, x7, x8, x9, x10, x11⟩ := box_cm HT.out.bx
  obtain ⟨_, _, y2, _, _, _, _, _, y8, _, _, _⟩ := box_cm HT.out.bo
  have z2 := HT.out.bo.frozen 2
  have z8 := HT.out.bo.frozen 8
  have hsz := HT.out.bo.lt
  go_upto_region 6 with (at_builtin; refine wpList_append_rd _ rfl _ _ 26 rfl (w.heap.size + 1 + 1 + 1) 3 i0 (.int .i64 0) 8 Tryz.underlying26 hi hz0 hz1 hz2 rfl (.slice none 0 0) 0 [] rfl (World.ownsRow_nil _ _ _ _) P ams.length q (ic ams) rfl (R3.out.below HT.out.bl).1 (ic_one _) (by unfold maxLen; omega) (by omega) hsz ?_; intro v2 u2 hown hgr hob; rw [Nat.zero_add] at hown; obtain ⟨P1, d1, rfl, hc2, hm2⟩ := own_form hown; have hb := below_of_grown hgr (by intro g h; cases h); have HO2 : Hid (RowO w u2 (.slice P1 ams.length d1) ams) := Lib.hid (by have := hown; unfold RowO; simpa using this); replace HT := Lib.hid (HT.out.below hb); clear x0 x1 x2 x3 x4 x5 x6 x7 x8 x9 x10 x11 y2 y8; obtain ⟨x0, x1, x2, x3, x4, x5, x6, x7, x8, x9, x10, x11⟩ := box_cm HT.out.bx; obtain ⟨_, _, y2, _, _, _, _, _, y8, _, _, _⟩ := box_cm HT.out.bo; have z2 := HT.out.bo.frozen 2; have z8 := HT.out.bo.frozen 8)
  clear x0 x1 x2 x3 x4 x5 x6 x7 x8 x9 x10 x11 z2 z8
  replace HO1 := Lib.hid ((show RowO w u2 _ _ from own_below HO1.out hb).set 8 (.slice P1 ams.length d1))
  replace HT := Lib.hid (HT.out.set 8 (.slice P1 ams.length d1) (O' := #[.int .u8 k, .int .i64 am.id, .slice A1 am.gs.length c1, .int .i64 am.tp, .string am.key, .string am.body, .int .i64 aid, .int .i64 atm, .slice P1 ams.length d1, .int .i64 atp, .int .i64 awh, .int .i64 an]) (by simp))
  replace HO2 := Lib.hid (HO2.out.set 8 (.slice P1 ams.length d1))
  clear hown hgr hob hb hsz y2 y8
  generalize u2.setCell ⟨w.heap.size + 1 + 1, 8, none⟩ (.slice P1 ams.length d1) = w7 at HT HO1 HO2 ⊢
  obtain ⟨y0, y1, y2, y3, y4, y5, y6, y7, y8, y9, y10, y11⟩ := box_cm HT.out.bo
  obtain ⟨m0, m1, m2, m3, m4, m5, m6, m7, m8, m9, m10, m11⟩ := box_cm HT.out.by_
  have z0 := HT.out.by_.frozen 0
  have z1 := HT.out.by_.frozen 1
  have z2 := HT.out.by_.frozen 2
  have z3 := HT.out.by_.frozen 3
  have z4 := HT.out.by_.frozen 4
  have z5 := HT.out.by_.frozen 5
  have z6 := HT.out.by_.frozen 6
  have z7 := HT.out.by_.frozen 7
  have z8 := HT.out.by_.frozen 8
  have z9 := HT.out.by_.frozen 9
  have z10 := HT.out.by_.frozen 10
  have z11 := HT.out.by_.frozen 11
  have HF := Lib.hid (And.intro (put12_own HO1.out (g := w.heap.size + 1) (by omega) (.int .u8 k) (.int .i64 am.id) (.slice A1 am.gs.length c1) (.int .i64 am.tp) (.string am.key) (.string am.body) (.int .i64 aid) (.int .i64 atm) (.slice P1 ams.length d1) (.int .i64 atp) (.int .i64 awh) (.int .i64 an)) (And.intro (put12_own HO2.out (g := w.heap.size + 1) (by omega) (.int .u8 k) (.int .i64 am.id) (.slice A1 am.gs.length c1) (.int .i64 am.tp) (.string am.key) (.string am.body) (.int .i64 aid) (.int .i64 atm) (.slice P1 ams.length d1) (.int .i64 atp) (.int .i64 awh) (.int .i64 an))
    (And.intro (put12_below HT.out.bl (g := w.heap.size + 1) (by omega) (.int .u8 k) (.int .i64 am.id) (.slice A1 am.gs.length c1) (.int .i64 am.tp) (.string am.key) (.string am.body) (.int .i64 aid) (.int .i64 atm) (.slice P1 ams.length d1) (.int .i64 atp) (.int .i64 awh) (.int .i64 an)) (put12_box HT.out.by_ (.int .u8 k) (.int .i64 am.id) (.slice A1 am.gs.length c1) (.int .i64 am.tp) (.string am.key) (.string am.body) (.int .i64 aid) (.int .i64 atm) (.slice P1 ams.length d1) (.int .i64 atp) (.int .i64 awh) (.int .i64 an)))))
  go_wp2_with fail
  unfold put12 at HF
  obtain ⟨q1, q2, qb, qx⟩ := HF.out
  obtain ⟨e0, e1, e2, e3, e4, e5, e6, e7, e8, e9, e10, e11⟩ := box_cm qx
  exact bodyPost_ret (v := .agg #[.int .u8 k, .int .i64 am.id, .slice A1 am.gs.length c1, .int .i64 am.tp, .string am.key, .string am.body, .int .i64 aid, .int .i64 atm, .slice P1 ams.length d1, .int .i64 atp, .int .i64 awh, .int .i64 an]) (by simp [results, Tryz.results6, go_sem, e0, e1, e2, e3, e4, e5, e6, e7, e8, e9, e10, e11]) rfl
    ⟨_, rfl, ⟨A1, c1, P1, d1, rfl, ⟨Rd.of_own q1, hc1, hm1⟩, ⟨Rd.of_own q2, hc2, hm2⟩⟩, qb⟩
end Go.Proofs.YtnpgjcapekopnaaGreat.CP

namespace Go.Proofs.YtnpgjcapekopnaaGreat.CP
open Go.RowKit
open CM (Mg Cm)
set_option linter.unusedVariables false
set_option linter.unusedSimpArgs false
set_option maxRecDepth 100000

set_option maxHeartbeats 8000000 in
theorem twin12_ge (x : Cm) (v : Value) (w : World) (h : CmIs w v x) (f1 : x.m.gs.length ≤ 2000) (f2 : x.ms.length ≤ 2000) :
    Calls Tryz.prog 6 #[v] w fun e w' => ∃ v', e = .returned v' ∧ CmGe w' w.heap.size v' x ∧ Below w.heap.size w w' := by
  obtain ⟨A, c, P, q, rfl, r1, r3⟩ := h
  obtain ⟨k, am, aid, atm, ams, atp, awh, an⟩ := x
  simp only at r1 r3 f1 f2
  obtain ⟨i0, hi, hz0, hz1, hz2⟩ := info_parts info_int
  have R1 := Lib.hid r1
  have R3 := Lib.hid r3
  clear r1 r3
  show Calls _ _ #[.agg #[.int .u8 k, .int .i64 am.id, .slice A am.gs.length c, .int .i64 am.tp, .string am.key, .string am.body, .int .i64 aid, .int .i64 atm, .slice P ams.length q, .int .i64 atp, .int .i64 awh, .int .i64 an]] _ _
  go_enter Tryz.func6, Tryz.ntmps6
  go_upto_region 2 with (fail)
  have HT : Hid (Tw w #[.int .u8 k, .int .i64 am.id, .slice A am.gs.length c, .int .i64 am.tp, .string am.key, .string am.body, .int .i64 aid, .int .i64 atm, .slice P ams.length q, .int .i64 atp, .int .i64 awh, .int .i64 an] #[.int .u8 0, .int .i64 0, .slice none 0 0, .int .i64 0, .string ⟨#[]⟩, .string ⟨#[]⟩, .int .i64 0, .int .i64 0, .slice none 0 0, .int .i64 0, .int .i64 0, .int .i64 0] #[.int .u8 k, .int .i64 am.id, .slice A am.gs.length c, .int .i64 am.tp, .string am.key, .string am.body, .int .i64 aid, .int .i64 atm, .slice P ams.length q, .int .i64 atp, .int .i64 awh, .int .i64 an] (((w.alloc (.cells #[.int .u8 k, .int .i64 am.id, .slice A am.gs.length c, .int .i64 am.tp, .string am.key, .string am.body, .int .i64 aid, .int .i64 atm, .slice P ams.length q, .int .i64 atp, .int .i64 awh, .int .i64 an] 30)).alloc (.cells #[.int .u8 0, .int .i64 0, .slice none 0 0, .int .i64 0, .string ⟨#[]⟩, .string ⟨#[]⟩, .int .i64 0, .int .i64 0, .slice none 0 0, .int .i64 0, .int .i64 0, .int .i64 0] 30)).alloc (.cells #[.int .u8 k, .int .i64 am.id, .slice A am.gs.length c, .int .i64 am.tp, .string am.key, .string am.body, .int .i64 aid, .int .i64 atm, .slice P ams.length q, .int .i64 atp, .int .i64 awh, .int .i64 an] 30))) := Lib.hid ⟨(((Below.refl _ _).alloc (Nat.le_refl _) _).alloc (by simp) _).alloc (by simp; omega) _, ((Box.new _ _ _).alloc _).alloc _, (Box.new_at _ (by simp)).alloc _, Box.new_at _ (by simp)⟩
  generalize ((w.alloc (.cells #[.int .u8 k, .int .i64 am.id, .slice A am.gs.length c, .int .i64 am.tp, .string am.key, .string am.body, .int .i64 aid, .int .i64 atm, .slice P ams.length q, .int .i64 atp, .int .i64 awh, .int .i64 an] 30)).alloc (.cells #[.int .u8 0, .int .i64 0, .slice none 0 0, .int .i64 0, .string ⟨#[]⟩, .string ⟨#[]⟩, .int .i64 0, .int .i64 0, .slice none 0 0, .int .i64 0, .int .i64 0, .int .i64 0] 30)).alloc (.cells #[.int .u8 k, .int .i64 am.id, .slice A am.gs.length c, .int .i64 am.tp, .string am.key, .string am.body, .int .i64 aid, .int .i64 atm, .slice P ams.length q, .int .i64 atp, .int .i64 awh, .int .i64 an] 30) = w3 at HT ⊢
  obtain ⟨x0, x1, x2, x3, x4, x5, x6, x7, x8, x9, x10, x11⟩ := box_cm HT.out.bx
  obtain ⟨_, _, y2, _, _, _, _, _, y8, _, _, _⟩ := box_cm HT.out.bo
  have z2 := HT.out.bo.frozen 2
  have z8 := HT.out.bo.frozen 8
  go_upto_region 3 with (fail)
  clear x0 x1 x2 x3 x4 x5 x6 x7 x8 x9 x10 x11 z2 z8
  clear y2 y8
  replace HT := Lib.hid (HT.out.set 2 (.slice none 0 0) (O' := #[.int .u8 k, .int .i64 am.id, .slice none 0 0, .int .i64 am.tp, .string am.key, .string am.body, .int .i64 aid, .int .i64 atm, .slice P ams.length q, .int .i64 atp, .int .i64 awh, .int .i64 an]) (by simp))
  generalize w3.setCell ⟨w.heap.size + 1 + 1, 2, none⟩ (.slice none 0 0) = w4 at HT ⊢
  obtain ⟨x0, x1, x2, x3, x4, x5, x6, x7, x8, x9, x10, x11⟩ := box_cm HT.out.bx
  obtain ⟨_, _, y2, _, _, _, _, _, y8, _, _, _⟩ := box_cm HT.out.bo
  have z2 := HT.out.bo.frozen 2
  have z8 := HT.out.bo.frozen 8
  have hsz := HT.out.bo.lt
  go_upto_region 4 with (at_builtin; refine wpList_append_rd _ rfl _ _ 26 rfl (w.heap.size + 1 + 1 + 1) 3 i0 (.int .i64 0) 8 Tryz.underlying26 hi hz0 hz1 hz2 rfl (.slice none 0 0) 0 [] rfl (World.ownsRow_nil _ _ _ _) A am.gs.length c (ic am.gs) rfl (R1.out.below HT.out.bl).1 (ic_one _) (by unfold maxLen; omega) (by omega) hsz ?_; intro v1 u1 hown hgr hob; rw [Nat.zero_add] at hown; obtain ⟨A1, c1, rfl, hc1, hm1⟩ := own_form hown; have hb := below_of_grown hgr (by intro g h; cases h); have HO1 : Hid (RowO w u1 (.slice A1 am.gs.length c1) am.gs) := Lib.hid (by have := hown; unfold RowO; simpa using this); replace HT := Lib.hid (HT.out.below hb); clear x0 x1 x2 x3 x4 x5 x6 x7 x8 x9 x10 x11 y2 y8; obtain ⟨x0, x1, x2, x3, x4, x5, x6, x7, x8, x9, x10, x11⟩ := box_cm HT.out.bx; obtain ⟨_, _, y2, _, _, _, _, _, y8, _, _, _⟩ := box_cm HT.out.bo; have z2 := HT.out.bo.frozen 2; have z8 := HT.out.bo.frozen 8)
  clear x0 x1 x2 x3 x4 x5 x6 x7 x8 x9 x10 x11 z2 z8
  replace HT := Lib.hid (HT.out.set 2 (.slice A1 am.gs.length c1) (O' := #[.int .u8 k, .int .i64 am.id, .slice A1 am.gs.length c1, .int .i64 am.tp, .string am.key, .string am.body, .int .i64 aid, .int .i64 atm, .slice P ams.length q, .int .i64 atp, .int .i64 awh, .int .i64 an]) (by simp))
  replace HO1 := Lib.hid (HO1.out.set 2 (.slice A1 am.gs.length c1))
  clear hown hgr hob hb hsz y2 y8
  generalize u1.setCell ⟨w.heap.size + 1 + 1, 2, none⟩ (.slice A1 am.gs.length c1) = w5 at HT HO1 ⊢
  obtain ⟨x0, x1, x2, x3, x4, x5, x6, x7, x8, x9, x10, x11⟩ := box_cm HT.out.bx
  obtain ⟨_, _, y2, _, _, _, _, _, y8, _, _, _⟩ := box_cm HT.out.bo
  have z2 := HT.out.bo.frozen 2
  have z8 := HT.out.bo.frozen 8
  go_upto_region 5 with (fail)
  clear x0 x1 x2 x3 x4 x5 x6 x7 x8 x9 x10 x11 z2 z8
  clear y2 y8
  replace HT := Lib.hid (HT.out.set 8 (.slice none 0 0) (O' := #[.int .u8 k, .int .i64 am.id, .slice A1 am.gs.length c1, .int .i64 am.tp, .string am.key, .string am.body, .int .i64 aid, .int .i64 atm, .slice none 0 0, .int .i64 atp, .int .i64 awh, .int .i64 an]) (by simp))
  replace HO1 := Lib.hid (HO1.out.set 8 (.slice none 0 0))
  generalize w5.setCell ⟨w.heap.size + 1 + 1, 8, none⟩ (.slice none 0 0) = w6 at HT HO1 ⊢
  obtain ⟨x0, x1, x2, x3, x4, x5, x6, x7, x8, x9, x10, x11⟩ := box_cm HT.out.bx
  obtain ⟨_, _, y2, _, _, _, _, _, y8, _, _, _⟩ := box_cm HT.out.bo
  have z2 := HT.out.bo.frozen 2
  have z8 := HT.out.bo.frozen 8
  have hsz := HT.out.bo.lt
  go_upto_region 6 with (at_builtin; refine wpList_append_rd _ rfl _ _ 26 rfl (w.heap.size + 1 + 1 + 1) 3 i0 (.int .i64 0) 8 Tryz.underlying26 hi hz0 hz1 hz2 rfl (.slice none 0 0) 0 [] rfl (World.ownsRow_nil _ _ _ _) P ams.length q (ic ams) rfl (R3.out.below HT.out.bl).1 (ic_one _) (by unfold maxLen; omega) (by omega) hsz ?_; intro v2 u2 hown hgr hob; rw [Nat.zero_add] at hown; obtain ⟨P1, d1, rfl, hc2, hm2⟩ := own_form hown; have hb := below_of_grown hgr (by intro g h; cases h); have HO2 : Hid (RowO w u2 (.slice P1 ams.length d1) ams) := Lib.hid (by have := hown; unfold RowO; simpa using this); replace HT := Lib.hid (HT.out.below hb); clear x0 x1 x2 x3 x4 x5 x6 x7 x8 x9 x10 x11 y2 y8; obtain ⟨x0, x1, x2, x3, x4, x5, x6, x7, x8, x9, x10, x11⟩ := box_cm HT.out.bx; obtain ⟨_, _, y2, _, _, _, _, _, y8, _, _, _⟩ := box_cm HT.out.bo; have z2 := HT.out.bo.frozen 2; have z8 := HT.out.bo.frozen 8)
  clear x0 x1 x2 x3 x4 x5 x6 x7 x8 x9 x10 x11 z2 z8
  replace HO1 := Lib.hid ((show RowO w u2 _ _ from own_below HO1.out hb).set 8 (.slice P1 ams.length d1))
  replace HT := Lib.hid (HT.out.set 8 (.slice P1 ams.length d1) (O' := #[.int .u8 k, .int .i64 am.id, .slice A1 am.gs.length c1, .int .i64 am.tp, .string am.key, .string am.body, .int .i64 aid, .int .i64 atm, .slice P1 ams.length d1, .int .i64 atp, .int .i64 awh, .int .i64 an]) (by simp))
  replace HO2 := Lib.hid (HO2.out.set 8 (.slice P1 ams.length d1))
  clear hown hgr hob hb hsz y2 y8
  generalize u2.setCell ⟨w.heap.size + 1 + 1, 8, none⟩ (.slice P1 ams.length d1) = w7 at HT HO1 HO2 ⊢
  obtain ⟨y0, y1, y2, y3, y4, y5, y6, y7, y8, y9, y10, y11⟩ := box_cm HT.out.bo
  obtain ⟨m0, m1, m2, m3, m4, m5, m6, m7, m8, m9, m10, m11⟩ := box_cm HT.out.by_
  have z0 := HT.out.by_.frozen 0
  have z1 := HT.out.by_.frozen 1
  have z2 := HT.out.by_.frozen 2
  have z3 := HT.out.by_.frozen 3
  have z4 := HT.out.by_.frozen 4
  have z5 := HT.out.by_.frozen 5
  have z6 := HT.out.by_.frozen 6
  have z7 := HT.out.by_.frozen 7
  have z8 := HT.out.by_.frozen 8
  have z9 := HT.out.by_.frozen 9
  have z10 := HT.out.by_.frozen 10
  have z11 := HT.out.by_.frozen 11
  have HF := Lib.hid (And.intro (put12_own HO1.out (g := w.heap.size + 1) (by omega) (.int .u8 k) (.int .i64 am.id) (.slice A1 am.gs.length c1) (.int .i64 am.tp) (.string am.key) (.string am.body) (.int .i64 aid) (.int .i64 atm) (.slice P1 ams.length d1) (.int .i64 atp) (.int .i64 awh) (.int .i64 an)) (And.intro (put12_own HO2.out (g := w.heap.size + 1) (by omega) (.int .u8 k) (.int .i64 am.id) (.slice A1 am.gs.length c1) (.int .i64 am.tp) (.string am.key) (.string am.body) (.int .i64 aid) (.int .i64 atm) (.slice P1 ams.length d1) (.int .i64 atp) (.int .i64 awh) (.int .i64 an))
    (And.intro (put12_below HT.out.bl (g := w.heap.size + 1) (by omega) (.int .u8 k) (.int .i64 am.id) (.slice A1 am.gs.length c1) (.int .i64 am.tp) (.string am.key) (.string am.body) (.int .i64 aid) (.int .i64 atm) (.slice P1 ams.length d1) (.int .i64 atp) (.int .i64 awh) (.int .i64 an)) (put12_box HT.out.by_ (.int .u8 k) (.int .i64 am.id) (.slice A1 am.gs.length c1) (.int .i64 am.tp) (.string am.key) (.string am.body) (.int .i64 aid) (.int .i64 atm) (.slice P1 ams.length d1) (.int .i64 atp) (.int .i64 awh) (.int .i64 an)))))
  go_wp2_with fail
  unfold put12 at HF
  obtain ⟨q1, q2, qb, qx⟩ := HF.out
  obtain ⟨e0, e1, e2, e3, e4, e5, e6, e7, e8, e9, e10, e11⟩ := box_cm qx
  exact bodyPost_ret (v := .agg #[.int .u8 k, .int .i64 am.id, .slice A1 am.gs.length c1, .int .i64 am.tp, .string am.key, .string am.body, .int .i64 aid, .int .i64 atm, .slice P1 ams.length d1, .int .i64 atp, .int .i64 awh, .int .i64 an]) (by simp [results, Tryz.results6, go_sem, e0, e1, e2, e3, e4, e5, e6, e7, e8, e9, e10, e11]) rfl
    ⟨_, rfl, ⟨A1, c1, P1, d1, rfl, (rowGe_own q1 rfl hc1 hm1).mono (by omega), (rowGe_own q2 rfl hc2 hm2).mono (by omega)⟩, qb⟩
end Go.Proofs.YtnpgjcapekopnaaGreat.CP

namespace Go.Proofs.YtnpgjcapekopnaaGreat.KP
open Go.RowKit CP TP
open CM (Mg Cm)
open TM (Sp)
open KM (Wt Sk)
set_option linter.unusedVariables false
set_option linter.unusedSimpArgs false

def put4 (a : Act) (u1 u2 p1 p2 : Value) : Act := (((a.put (some 60) u1).put (some 62) u2).put (some 11) p1).put (some 12) p2
def cnt6 (b1 b3 b4 b5 b6 b7 : Bool) : Nat := (cond b1 0 1) + (cond b3 0 1) + (cond b4 0 1) + (cond b5 0 1) + (cond b6 0 1) + (cond b7 0 1)
theorem inv4 {P : Program} {ops : Array Oper} {Q : Exit → Act → World → Prop} {S : World → Prop} {a0 : Act} (J : Bool → Bool → Bool → Bool → Bool → Bool → Value → Value → Value → Value → World → Prop)
    {o1 o3 o4 o5 o6 o7 : Oper} (h1 : ops[1]? = some o1) (h3 : ops[3]? = some o3) (h4 : ops[4]? = some o4) (h5 : ops[5]? = some o5) (h6 : ops[6]? = some o6) (h7 : ops[7]? = some o7)
    (hr : ∀ b1 b3 b4 b5 b6 b7 : Bool, Region.ready .any ops #[true, b1, true, b3, b4, b5, b6, b7] = (if b1 then [] else [1]) ++ (if b3 || !b1 then [] else [3]) ++ (if b4 then [] else [4]) ++ (if b5 then [] else [5]) ++ (if b6 || !b1 || !b3 || !b4 || !b5 then [] else [6]) ++ (if b7 || !b1 || !b3 || !b4 || !b5 || !b6 then [] else [7]))
    (j6 : ∀ b1 b3 b4 b5 b6 b7 u1 u2 p1 p2 w, J b1 b3 b4 b5 b6 b7 u1 u2 p1 p2 w → b6 = true → b1 = true ∧ b4 = true)
    (j7 : ∀ b1 b3 b4 b5 b6 b7 u1 u2 p1 p2 w, J b1 b3 b4 b5 b6 b7 u1 u2 p1 p2 w → b7 = true → b3 = true ∧ b5 = true)
    (e1 : ∀ b3 b4 b5 b7 u1 u2 p1 p2 w, J false b3 b4 b5 false b7 u1 u2 p1 p2 w → ∀ K : Act → World → Prop, Shut (∀ u w', S w' → J true b3 b4 b5 false b7 u u2 p1 p2 w' → K (put4 a0 u u2 p1 p2) w') →
      if Region.wanted o1 (yielded ops (put4 a0 u1 u2 p1 p2).tmps) = true then Oper.wp P o1 (put4 a0 u1 u2 p1 p2) w K Q else K ((put4 a0 u1 u2 p1 p2).put o1.dst undef) w)
    (e3 : ∀ b1 b4 b5 b6 u1 u2 p1 p2 w, J b1 false b4 b5 b6 false u1 u2 p1 p2 w → ∀ K : Act → World → Prop, Shut (∀ u w', S w' → J b1 true b4 b5 b6 false u1 u p1 p2 w' → K (put4 a0 u1 u p1 p2) w') →
      if Region.wanted o3 (yielded ops (put4 a0 u1 u2 p1 p2).tmps) = true then Oper.wp P o3 (put4 a0 u1 u2 p1 p2) w K Q else K ((put4 a0 u1 u2 p1 p2).put o3.dst undef) w)
    (e4 : ∀ b1 b3 b5 b7 u1 u2 p1 p2 w, J b1 b3 false b5 false b7 u1 u2 p1 p2 w → ∀ K : Act → World → Prop, Shut (∀ u w', S w' → J b1 b3 true b5 false b7 u1 u2 u p2 w' → K (put4 a0 u1 u2 u p2) w') →
      if Region.wanted o4 (yielded ops (put4 a0 u1 u2 p1 p2).tmps) = true then Oper.wp P o4 (put4 a0 u1 u2 p1 p2) w K Q else K ((put4 a0 u1 u2 p1 p2).put o4.dst undef) w)
    (e5 : ∀ b1 b3 b4 b6 u1 u2 p1 p2 w, J b1 b3 b4 false b6 false u1 u2 p1 p2 w → ∀ K : Act → World → Prop, Shut (∀ u w', S w' → J b1 b3 b4 true b6 false u1 u2 p1 u w' → K (put4 a0 u1 u2 p1 u) w') →
      if Region.wanted o5 (yielded ops (put4 a0 u1 u2 p1 p2).tmps) = true then Oper.wp P o5 (put4 a0 u1 u2 p1 p2) w K Q else K ((put4 a0 u1 u2 p1 p2).put o5.dst undef) w)
    (e6 : ∀ b3 b5 b7 u1 u2 p1 p2 w, J true b3 true b5 false b7 u1 u2 p1 p2 w → ∀ K : Act → World → Prop, Shut (∀ w', S w' → J true b3 true b5 true b7 u1 u2 p1 p2 w' → K (put4 a0 u1 u2 p1 p2) w') →
      if Region.wanted o6 (yielded ops (put4 a0 u1 u2 p1 p2).tmps) = true then Oper.wp P o6 (put4 a0 u1 u2 p1 p2) w K Q else K ((put4 a0 u1 u2 p1 p2).put o6.dst undef) w)
    (e7 : ∀ b1 b4 b6 u1 u2 p1 p2 w, J b1 true b4 true b6 false u1 u2 p1 p2 w → ∀ K : Act → World → Prop, Shut (∀ w', S w' → J b1 true b4 true b6 true u1 u2 p1 p2 w' → K (put4 a0 u1 u2 p1 p2) w') →
      if Region.wanted o7 (yielded ops (put4 a0 u1 u2 p1 p2).tmps) = true then Oper.wp P o7 (put4 a0 u1 u2 p1 p2) w K Q else K ((put4 a0 u1 u2 p1 p2).put o7.dst undef) w)
    (hq : ∀ u1 u2 p1 p2 w, J true true true true true true u1 u2 p1 p2 w → Q .normal (put4 a0 u1 u2 p1 p2) w) :
    ∀ fuel b1 b3 b4 b5 b6 b7 u1 u2 p1 p2 w, cnt6 b1 b3 b4 b5 b6 b7 ≤ fuel → J b1 b3 b4 b5 b6 b7 u1 u2 p1 p2 w → wpAnyH P .any ops Q S fuel #[true, b1, true, b3, b4, b5, b6, b7] (put4 a0 u1 u2 p1 p2) w := by
  intro fuel
  induction fuel with
  | zero =>
    intro b1 b3 b4 b5 b6 b7 u1 u2 p1 p2 w hc hJ
    unfold cnt6 at hc
    have e1' : b1 = true := by cases b1 <;> simp at hc ⊢
    have e3' : b3 = true := by cases b3 <;> simp at hc ⊢
    have e4' : b4 = true := by cases b4 <;> simp at hc ⊢
    have e5' : b5 = true := by cases b5 <;> simp at hc ⊢
    have e6' : b6 = true := by cases b6 <;> simp at hc ⊢
    have e7' : b7 = true := by cases b7 <;> simp at hc ⊢
    subst e1' e3' e4' e5' e6' e7'
    exact ⟨by rw [hr]; rfl, hq _ _ _ _ _ hJ⟩
  | succ n ih =>
    intro b1 b3 b4 b5 b6 b7 u1 u2 p1 p2 w hc hJ
    unfold cnt6 at hc
    refine ⟨fun h => ?_, fun i hi => ?_⟩
    · rw [hr] at h
      have e1' : b1 = true := by cases b1 <;> simp at h ⊢
      subst e1'
      have e3' : b3 = true := by cases b3 <;> simp at h ⊢
      subst e3'
      have e4' : b4 = true := by cases b4 <;> simp at h ⊢
      subst e4'
      have e5' : b5 = true := by cases b5 <;> simp at h ⊢
      subst e5'
      have e6' : b6 = true := by cases b6 <;> simp at h ⊢
      subst e6'
      have e7' : b7 = true := by cases b7 <;> simp at h ⊢
      subst e7'
      exact hq _ _ _ _ _ hJ
    · rw [hr] at hi
      simp only [List.mem_append] at hi
      rcases hi with ((((hi | hi) | hi) | hi) | hi) | hi
      · have eb : b1 = false := by cases b1 <;> simp at hi ⊢
        subst eb
        have ed : b6 = false := by cases b6 with | false => rfl | true => exact absurd (j6 _ _ _ _ _ _ _ _ _ _ _ hJ rfl).1 (by simp)
        subst ed
        obtain rfl : i = 1 := by first | (split at hi <;> simp at hi <;> exact hi) | simpa using hi
        exact wpOp_step h1 (fun K hK => e1 b3 b4 b5 b7 u1 u2 p1 p2 w hJ K (fun u w' hS hJ' => hK _ _ ⟨hS, ih true b3 b4 b5 false b7 u u2 p1 p2 w' (by unfold cnt6; simp at hc ⊢; omega) hJ'⟩))
      · have eb : b3 = false := by cases b3 <;> simp at hi ⊢
        subst eb
        have ed : b7 = false := by cases b7 with | false => rfl | true => exact absurd (j7 _ _ _ _ _ _ _ _ _ _ _ hJ rfl).1 (by simp)
        subst ed
        obtain rfl : i = 3 := by first | (split at hi <;> simp at hi <;> exact hi) | simpa using hi
        exact wpOp_step h3 (fun K hK => e3 b1 b4 b5 b6 u1 u2 p1 p2 w hJ K (fun u w' hS hJ' => hK _ _ ⟨hS, ih b1 true b4 b5 b6 false u1 u p1 p2 w' (by unfold cnt6; simp at hc ⊢; omega) hJ'⟩))
      · have eb : b4 = false := by cases b4 <;> simp at hi ⊢
        subst eb
        have ed : b6 = false := by cases b6 with | false => rfl | true => exact absurd (j6 _ _ _ _ _ _ _ _ _ _ _ hJ rfl).2 (by simp)
        subst ed
        obtain rfl : i = 4 := by first | (split at hi <;> simp at hi <;> exact hi) | simpa using hi
        exact wpOp_step h4 (fun K hK => e4 b1 b3 b5 b7 u1 u2 p1 p2 w hJ K (fun u w' hS hJ' => hK _ _ ⟨hS, ih b1 b3 true b5 false b7 u1 u2 u p2 w' (by unfold cnt6; simp at hc ⊢; omega) hJ'⟩))
      · have eb : b5 = false := by cases b5 <;> simp at hi ⊢
        subst eb
        have ed : b7 = false := by cases b7 with | false => rfl | true => exact absurd (j7 _ _ _ _ _ _ _ _ _ _ _ hJ rfl).2 (by simp)
        subst ed
        obtain rfl : i = 5 := by first | (split at hi <;> simp at hi <;> exact hi) | simpa using hi
        exact wpOp_step h5 (fun K hK => e5 b1 b3 b4 b6 u1 u2 p1 p2 w hJ K (fun u w' hS hJ' => hK _ _ ⟨hS, ih b1 b3 b4 true b6 false u1 u2 p1 u w' (by unfold cnt6; simp at hc ⊢; omega) hJ'⟩))
      · have eb : b6 = false := by cases b6 <;> simp at hi ⊢
        have ex : b1 = true := by cases b1 <;> simp at hi ⊢
        have ey : b4 = true := by cases b4 <;> simp at hi ⊢
        subst eb ex ey
        obtain rfl : i = 6 := by first | (split at hi <;> simp at hi <;> exact hi) | simpa using hi
        exact wpOp_step h6 (fun K hK => e6 b3 b5 b7 u1 u2 p1 p2 w hJ K (fun w' hS hJ' => hK _ _ ⟨hS, ih true b3 true b5 true b7 u1 u2 p1 p2 w' (by unfold cnt6; simp at hc ⊢; omega) hJ'⟩))
      · have eb : b7 = false := by cases b7 <;> simp at hi ⊢
        have ex : b3 = true := by cases b3 <;> simp at hi ⊢
        have ey : b5 = true := by cases b5 <;> simp at hi ⊢
        subst eb ex ey
        obtain rfl : i = 7 := by first | (split at hi <;> simp at hi <;> exact hi) | simpa using hi
        exact wpOp_step h7 (fun K hK => e7 b1 b4 b6 u1 u2 p1 p2 w hJ K (fun w' hS hJ' => hK _ _ ⟨hS, ih b1 true b4 true b6 true u1 u2 p1 p2 w' (by unfold cnt6; simp at hc ⊢; omega) hJ'⟩))
theorem put_self (a : Act) (i : Nat) : ∃ u, a.put (some i) u = a := by
  obtain ⟨t, ds⟩ := a
  refine ⟨t.getD i undef, ?_⟩
  show Act.mk (t.setIfInBounds i (t.getD i undef)) ds = _
  congr 1
  apply Array.ext
  · simp
  · intro k h1 h2
    rw [Array.getElem_setIfInBounds]
    split
    · rename_i e
      subst e
      rw [Array.getD_eq_getD_getElem?, Array.getElem?_eq_getElem h2]
      rfl
    · rfl
theorem put4_self (a : Act) : ∃ u1 u2 p1 p2, put4 a u1 u2 p1 p2 = a := by
  obtain ⟨u1, e1⟩ := put_self a 60
  obtain ⟨u2, e2⟩ := put_self a 62
  obtain ⟨p1, e3⟩ := put_self a 11
  obtain ⟨p2, e4⟩ := put_self a 12
  exact ⟨u1, u2, p1, p2, by unfold put4; rw [e1, e2, e3, e4]⟩
theorem inv4_start {P : Program} {ops : Array Oper} {Q : Exit → Act → World → Prop} {S : World → Prop} {a0 : Act} (J : Bool → Bool → Bool → Bool → Bool → Bool → Value → Value → Value → Value → World → Prop)
    {o1 o3 o4 o5 o6 o7 : Oper} (h1 : ops[1]? = some o1) (h3 : ops[3]? = some o3) (h4 : ops[4]? = some o4) (h5 : ops[5]? = some o5) (h6 : ops[6]? = some o6) (h7 : ops[7]? = some o7)
    (hr : ∀ b1 b3 b4 b5 b6 b7 : Bool, Region.ready .any ops #[true, b1, true, b3, b4, b5, b6, b7] = (if b1 then [] else [1]) ++ (if b3 || !b1 then [] else [3]) ++ (if b4 then [] else [4]) ++ (if b5 then [] else [5]) ++ (if b6 || !b1 || !b3 || !b4 || !b5 then [] else [6]) ++ (if b7 || !b1 || !b3 || !b4 || !b5 || !b6 then [] else [7]))
    (j6 : ∀ b1 b3 b4 b5 b6 b7 u1 u2 p1 p2 w, J b1 b3 b4 b5 b6 b7 u1 u2 p1 p2 w → b6 = true → b1 = true ∧ b4 = true)
    (j7 : ∀ b1 b3 b4 b5 b6 b7 u1 u2 p1 p2 w, J b1 b3 b4 b5 b6 b7 u1 u2 p1 p2 w → b7 = true → b3 = true ∧ b5 = true)
    (e1 : ∀ b3 b4 b5 b7 u1 u2 p1 p2 w, J false b3 b4 b5 false b7 u1 u2 p1 p2 w → ∀ K : Act → World → Prop, Shut (∀ u w', S w' → J true b3 b4 b5 false b7 u u2 p1 p2 w' → K (put4 a0 u u2 p1 p2) w') →
      if Region.wanted o1 (yielded ops (put4 a0 u1 u2 p1 p2).tmps) = true then Oper.wp P o1 (put4 a0 u1 u2 p1 p2) w K Q else K ((put4 a0 u1 u2 p1 p2).put o1.dst undef) w)
    (e3 : ∀ b1 b4 b5 b6 u1 u2 p1 p2 w, J b1 false b4 b5 b6 false u1 u2 p1 p2 w → ∀ K : Act → World → Prop, Shut (∀ u w', S w' → J b1 true b4 b5 b6 false u1 u p1 p2 w' → K (put4 a0 u1 u p1 p2) w') →
      if Region.wanted o3 (yielded ops (put4 a0 u1 u2 p1 p2).tmps) = true then Oper.wp P o3 (put4 a0 u1 u2 p1 p2) w K Q else K ((put4 a0 u1 u2 p1 p2).put o3.dst undef) w)
    (e4 : ∀ b1 b3 b5 b7 u1 u2 p1 p2 w, J b1 b3 false b5 false b7 u1 u2 p1 p2 w → ∀ K : Act → World → Prop, Shut (∀ u w', S w' → J b1 b3 true b5 false b7 u1 u2 u p2 w' → K (put4 a0 u1 u2 u p2) w') →
      if Region.wanted o4 (yielded ops (put4 a0 u1 u2 p1 p2).tmps) = true then Oper.wp P o4 (put4 a0 u1 u2 p1 p2) w K Q else K ((put4 a0 u1 u2 p1 p2).put o4.dst undef) w)
    (e5 : ∀ b1 b3 b4 b6 u1 u2 p1 p2 w, J b1 b3 b4 false b6 false u1 u2 p1 p2 w → ∀ K : Act → World → Prop, Shut (∀ u w', S w' → J b1 b3 b4 true b6 false u1 u2 p1 u w' → K (put4 a0 u1 u2 p1 u) w') →
      if Region.wanted o5 (yielded ops (put4 a0 u1 u2 p1 p2).tmps) = true then Oper.wp P o5 (put4 a0 u1 u2 p1 p2) w K Q else K ((put4 a0 u1 u2 p1 p2).put o5.dst undef) w)
    (e6 : ∀ b3 b5 b7 u1 u2 p1 p2 w, J true b3 true b5 false b7 u1 u2 p1 p2 w → ∀ K : Act → World → Prop, Shut (∀ w', S w' → J true b3 true b5 true b7 u1 u2 p1 p2 w' → K (put4 a0 u1 u2 p1 p2) w') →
      if Region.wanted o6 (yielded ops (put4 a0 u1 u2 p1 p2).tmps) = true then Oper.wp P o6 (put4 a0 u1 u2 p1 p2) w K Q else K ((put4 a0 u1 u2 p1 p2).put o6.dst undef) w)
    (e7 : ∀ b1 b4 b6 u1 u2 p1 p2 w, J b1 true b4 true b6 false u1 u2 p1 p2 w → ∀ K : Act → World → Prop, Shut (∀ w', S w' → J b1 true b4 true b6 true u1 u2 p1 p2 w' → K (put4 a0 u1 u2 p1 p2) w') →
      if Region.wanted o7 (yielded ops (put4 a0 u1 u2 p1 p2).tmps) = true then Oper.wp P o7 (put4 a0 u1 u2 p1 p2) w K Q else K ((put4 a0 u1 u2 p1 p2).put o7.dst undef) w)
    (hq : ∀ u1 u2 p1 p2 w, J true true true true true true u1 u2 p1 p2 w → Q .normal (put4 a0 u1 u2 p1 p2) w) {fuel : Nat} {l : Array Bool} {w : World} (hl : l = #[true, false, true, false, false, false, false, false]) (hc : 6 ≤ fuel) (hJ : ∀ u1 u2 p1 p2, J false false false false false false u1 u2 p1 p2 w) : wpAnyH P .any ops Q S fuel l a0 w := by
  subst hl
  obtain ⟨u1, u2, p1, p2, ha⟩ := put4_self a0
  have h := inv4 J h1 h3 h4 h5 h6 h7 hr j6 j7 e1 e3 e4 e5 e6 e7 hq fuel false false false false false false u1 u2 p1 p2 w hc (hJ u1 u2 p1 p2)
  rwa [ha] at h
/-- the clock's copy: what holds of it by what has come up -/
def VA (B : Nat) (x : Sk) (b1 b4 b6 : Bool) (u1 p1 : Value) (W : World) : Prop :=
  (b1 = true → (∃ A c D d, u1 = .agg #[.int .i64 x.c, .slice A x.ws.length c, .slice D x.ds.length d]) ∧ SkO W B u1 x) ∧
  (b4 = true → ∃ q a b c, p1 = .pointer (some ⟨q, 0, none⟩) ∧ B ≤ q ∧ Box W q 25 #[a, b, c] ∧ (b6 = true → u1 = .agg #[a, b, c])) ∧
  (b6 = true → b1 = true ∧ b4 = true)
/-- the command's -/
def VB (B : Nat) (x : Cm) (b3 b5 b7 : Bool) (u2 p2 : Value) (W : World) : Prop :=
  (b3 = true → CmGe W B u2 x) ∧
  (b5 = true → ∃ g a0 a1 a2 a3 a4 a5 a6 a7 a8 a9 a10 a11, p2 = .pointer (some ⟨g, 0, none⟩) ∧ B ≤ g ∧ Box W g 30 #[a0, a1, a2, a3, a4, a5, a6, a7, a8, a9, a10, a11] ∧ (b7 = true → u2 = .agg #[a0, a1, a2, a3, a4, a5, a6, a7, a8, a9, a10, a11])) ∧
  (b7 = true → b3 = true ∧ b5 = true)
section
variable {S : TypeId → Prop} {W W' : World} {B : Nat} {x : Sk} {y : Cm} {b1 b3 b4 b5 b6 b7 : Bool} {u1 u2 p1 p2 : Value}
theorem skO_keep {S : TypeId → Prop} {W W' : World} {b : Nat} {v : Value} {s : Sk} (h : SkO W b v s) (hk : Kept S W W') (h1 : ¬ S 3) (h2 : ¬ S 52) (h3 : ¬ S 70) : SkO W' b v s := by
  obtain ⟨vw, vd, e, k1, k2⟩ := h
  exact ⟨vw, vd, e, KO.kept hk h1 h2 k1, hk.own k2 h3⟩
theorem VA.kept (h : VA B x b1 b4 b6 u1 p1 W) (k : Kept S W W') (s1 : ¬ S 3) (s2 : ¬ S 52) (s3 : ¬ S 70) (s4 : ¬ S 25) : VA B x b1 b4 b6 u1 p1 W' := by
  refine ⟨fun e => ⟨(h.1 e).1, skO_keep (h.1 e).2 k s1 s2 s3⟩, fun e => ?_, h.2.2⟩
  obtain ⟨q, a, b, c, e1, e2, e3, e4⟩ := h.2.1 e
  exact ⟨q, a, b, c, e1, e2, k.box _ _ _ s4 e3, e4⟩
theorem VB.kept (h : VB B y b3 b5 b7 u2 p2 W) (k : Kept S W W') (s1 : ¬ S 3) (s2 : ¬ S 30) : VB B y b3 b5 b7 u2 p2 W' := by
  refine ⟨fun e => ?_, fun e => ?_, h.2.2⟩
  · obtain ⟨P, q, R, r, e1, e2, e3⟩ := h.1 e
    exact ⟨P, q, R, r, e1, rowGe_kept k s1 e2, rowGe_kept k s1 e3⟩
  · obtain ⟨g, a0, a1, a2, a3, a4, a5, a6, a7, a8, a9, a10, a11, e1, e2, e3, e4⟩ := h.2.1 e
    exact ⟨g, a0, a1, a2, a3, a4, a5, a6, a7, a8, a9, a10, a11, e1, e2, k.box _ _ _ s2 e3, e4⟩
theorem VA.below (h : VA B x b1 b4 b6 u1 p1 W) (k : Below W.heap.size W W') : VA B x b1 b4 b6 u1 p1 W' := h.kept (Kept.of_below (S := fun _ => False) k) id id id id
theorem VB.below (h : VB B y b3 b5 b7 u2 p2 W) (k : Below W.heap.size W W') : VB B y b3 b5 b7 u2 p2 W' := h.kept (Kept.of_below (S := fun _ => False) k) id id
theorem VA.call (h : VA B x false b4 false u1 p1 W) (k : Below W.heap.size W W') (hB : B ≤ W.heap.size) (ho : SkO W' W.heap.size u2 x) : VA B x true b4 false u2 p1 W' := by
  refine ⟨fun _ => ⟨?_, ho.mono hB⟩, fun e => ?_, fun e => by cases e⟩
  · obtain ⟨A, c, D, d, e, _⟩ := SkO.rows ho
    exact ⟨A, c, D, d, e⟩
  · obtain ⟨q, a, b, c, e1, e2, e3, _⟩ := (VA.below h k).2.1 e
    exact ⟨q, a, b, c, e1, e2, e3, fun e => by cases e⟩
theorem VA.new (h : VA B x b1 false false u1 p1 W) (hB : B ≤ W.heap.size) (a b c : Value) : VA B x b1 true false u1 (.pointer (some ⟨W.heap.size, 0, none⟩)) (W.alloc (.cells #[a, b, c] 25)) := by
  have h2 := VA.below h ((Below.refl W.heap.size W).alloc (Nat.le_refl _) (.cells #[a, b, c] 25))
  exact ⟨h2.1, fun _ => ⟨W.heap.size, a, b, c, rfl, hB, Box.new _ _ _, fun e => by cases e⟩, fun e => by cases e⟩
theorem VB.call (h : VB B y false b5 false u1 p2 W) (k : Below W.heap.size W W') (hB : B ≤ W.heap.size) (ho : CmGe W' W.heap.size u2 y) : VB B y true b5 false u2 p2 W' := by
  refine ⟨fun _ => ?_, fun e => ?_, fun e => by cases e⟩
  · obtain ⟨A, c, D, d, e, r1, r2⟩ := ho
    exact ⟨A, c, D, d, e, r1.mono hB, r2.mono hB⟩
  · obtain ⟨g, a0, a1, a2, a3, a4, a5, a6, a7, a8, a9, a10, a11, e1, e2, e3, _⟩ := (VB.below h k).2.1 e
    exact ⟨g, a0, a1, a2, a3, a4, a5, a6, a7, a8, a9, a10, a11, e1, e2, e3, fun e => by cases e⟩
theorem VB.new (h : VB B y b3 false false u2 p2 W) (hB : B ≤ W.heap.size) (a0 a1 a2 a3 a4 a5 a6 a7 a8 a9 a10 a11 : Value) : VB B y b3 true false u2 (.pointer (some ⟨W.heap.size, 0, none⟩)) (W.alloc (.cells #[a0, a1, a2, a3, a4, a5, a6, a7, a8, a9, a10, a11] 30)) := by
  have h2 := VB.below h ((Below.refl W.heap.size W).alloc (Nat.le_refl _) (.cells #[a0, a1, a2, a3, a4, a5, a6, a7, a8, a9, a10, a11] 30))
  exact ⟨h2.1, fun _ => ⟨W.heap.size, a0, a1, a2, a3, a4, a5, a6, a7, a8, a9, a10, a11, rfl, hB, Box.new _ _ _, fun e => by cases e⟩, fun e => by cases e⟩
theorem kept_put12 {t : TypeId} {g : Nat} {cs : Array Value} (h : Box W g t cs) (a0 a1 a2 a3 a4 a5 a6 a7 a8 a9 a10 a11 : Value) : Kept (fun e => e = t) W (put12 W g a0 a1 a2 a3 a4 a5 a6 a7 a8 a9 a10 a11) := by
  unfold put12
  have k0 := Kept.set (S := fun e => e = t) (i := 0) h rfl a0
  have x0 := h.stored 0 a0
  have k1 := Kept.set (S := fun e => e = t) (i := 1) x0 rfl a1
  have x1 := x0.stored 1 a1
  have k2 := Kept.set (S := fun e => e = t) (i := 2) x1 rfl a2
  have x2 := x1.stored 2 a2
  have k3 := Kept.set (S := fun e => e = t) (i := 3) x2 rfl a3
  have x3 := x2.stored 3 a3
  have k4 := Kept.set (S := fun e => e = t) (i := 4) x3 rfl a4
  have x4 := x3.stored 4 a4
  have k5 := Kept.set (S := fun e => e = t) (i := 5) x4 rfl a5
  have x5 := x4.stored 5 a5
  have k6 := Kept.set (S := fun e => e = t) (i := 6) x5 rfl a6
  have x6 := x5.stored 6 a6
  have k7 := Kept.set (S := fun e => e = t) (i := 7) x6 rfl a7
  have x7 := x6.stored 7 a7
  have k8 := Kept.set (S := fun e => e = t) (i := 8) x7 rfl a8
  have x8 := x7.stored 8 a8
  have k9 := Kept.set (S := fun e => e = t) (i := 9) x8 rfl a9
  have x9 := x8.stored 9 a9
  have k10 := Kept.set (S := fun e => e = t) (i := 10) x9 rfl a10
  have x10 := x9.stored 10 a10
  have k11 := Kept.set (S := fun e => e = t) (i := 11) x10 rfl a11
  have x11 := x10.stored 11 a11
  exact (((((((((((k0).trans k1).trans k2).trans k3).trans k4).trans k5).trans k6).trans k7).trans k8).trans k9).trans k10).trans k11
theorem VA.store {q : Nat} {a b c a' b' c' : Value} (h : VA B x true true false (.agg #[a', b', c']) (.pointer (some ⟨q, 0, none⟩)) W) (hq : B ≤ q) (hb : Box W q 25 #[a, b, c]) :
    VA B x true true true (.agg #[a', b', c']) (.pointer (some ⟨q, 0, none⟩)) (((W.setCell ⟨q, 0, none⟩ a').setCell ⟨q, 1, none⟩ b').setCell ⟨q, 2, none⟩ c') :=
  ⟨fun e => ⟨(h.1 e).1, skO_keep (h.1 e).2 (kept_put3 hb a' b' c') (by decide) (by decide) (by decide)⟩, fun _ => ⟨q, a', b', c', rfl, hq, Box.put3 hb a' b' c', fun _ => rfl⟩, fun _ => ⟨rfl, rfl⟩⟩
theorem VB.store {g : Nat} {a0 a1 a2 a3 a4 a5 a6 a7 a8 a9 a10 a11 d0 d1 d2 d3 d4 d5 d6 d7 d8 d9 d10 d11 : Value} (h : VB B y true true false (.agg #[d0, d1, d2, d3, d4, d5, d6, d7, d8, d9, d10, d11]) (.pointer (some ⟨g, 0, none⟩)) W) (hg : B ≤ g) (hb : Box W g 30 #[a0, a1, a2, a3, a4, a5, a6, a7, a8, a9, a10, a11]) :
    VB B y true true true (.agg #[d0, d1, d2, d3, d4, d5, d6, d7, d8, d9, d10, d11]) (.pointer (some ⟨g, 0, none⟩)) (put12 W g d0 d1 d2 d3 d4 d5 d6 d7 d8 d9 d10 d11) := by
  have k := kept_put12 hb d0 d1 d2 d3 d4 d5 d6 d7 d8 d9 d10 d11
  refine ⟨fun e => ?_, fun _ => ⟨g, d0, d1, d2, d3, d4, d5, d6, d7, d8, d9, d10, d11, rfl, hg, put12_box hb d0 d1 d2 d3 d4 d5 d6 d7 d8 d9 d10 d11, fun _ => rfl⟩, fun _ => ⟨rfl, rfl⟩⟩
  obtain ⟨P, q, R, r, e1, e2, e3⟩ := h.1 e
  exact ⟨P, q, R, r, e1, rowGe_kept k (by decide) e2, rowGe_kept k (by decide) e3⟩
end
theorem sk_small {w : World} {A B : Option Addr} {ca cb : Nat} {s : Sk} {c0 : Int} (h : SkIs w (.agg #[.int .i64 c0, .slice A s.ws.length ca, .slice B s.ds.length cb]) s) : s.ws.length ≤ 9223372036854775807 ∧ s.ds.length ≤ 9223372036854775807 := by
  obtain ⟨A', c', B', d', e, h1, h2⟩ := h
  exact ⟨h1.small, by have h3 := h2.2.2; unfold maxLen at h3; omega⟩
end Go.Proofs.YtnpgjcapekopnaaGreat.KP
