/-
  Words for memory: rows that may be stored into; what a function that turns its own rows leaves as it was. No program.
  The law's turn of what lasts of a node (towncrierlaw11): it turns cells of its own rows, and nothing else. Conditions: the rows may be stored into.
  What the document's own Apply of layer 11 answers (towncrierref11.Apply): what may not be. Conditions: texts' lengths are ones that Go has.
  What the document's own Apply of layer 11 answers (towncrierref11.Apply): a promise. Conditions: texts' lengths are ones that Go has.
  What the document's own Apply of layer 11 answers (towncrierref11.Apply): an acceptance. Conditions: texts' lengths are ones that Go has.
  What the document's own Apply of layer 11 answers, of anything (towncrierref11.Apply). Conditions: texts' lengths are ones that Go has.
  What the document's own At of layer 11 answers (towncrierref11.At). Conditions: texts' lengths are ones that Go has.
  What the document's own New of layer 11 answers (towncrierref11.New), of any number.
  What the document's own Get and GetText (towncrierref01) do: for whatever bytes they answer what the plain functions dec and getText say. Conditions: the slice reads as bytes.
  What the document's own GetText (towncrierref01) does. Conditions: the slice reads as bytes.
  What the methods of the document's own reader (towncrierref01.Reader: Number, Text, Done) do: what is left, or nothing once something was wrong. Conditions: as each theorem says.
  What the document's own Read of layer 10 (towncrierref10) answers. Conditions: the text's length is one that Go has.
  What the document's own Replay of layer 11 answers (towncrierref11.Replay): what texts make. Conditions: texts' lengths are ones that Go has.
  Arguments opened to cells: structs of fields of one cell (parted from ArgCells). No program.
  An argument that is a record (api.Record by value), opened to cells. Conditions: as each theorem says.
  What the law's own promise, accept, decide and after answer (towncrierlaw11), over contracts of the program's New and Apply. Conditions: as each theorem says.
  The example that each statement of layer 11 begins with holds: alive (towncrierlaw11), over contracts of the program's New, Apply and At. No input.
-/
import Derived.Test.YtohiemdodffhoaaRowG
import Derived.Test.YtohiemdodffhoaaStOwn
import Derived.Test.YtohiemdodffhoaaNumF
import Derived.Deep.DeepCutAuto
import Derived.Test.YtohiemdodffhoaaStApH
import Derived.Test.YtohiemdodffhoaaStAp3
import Derived.Test.YtohiemdodffhoaaStMay
import Derived.Test.YtohiemdodffhoaaStD
import Derived.Test.YtohiemdodffhoaaStTw
import Derived.Test.YtohiemdodffhoaaNumR
import Derived.Test.YtohiemdodffhoaaSrc
import Derived.Test.YtohiemdodffhoaaRecMath
import Derived.Test.YtohiemdodffhoaaRecRM
import Derived.Test.YtohiemdodffhoaaConv
import Derived.Test.YtohiemdodffhoaaProg
import Derived.Test.YtohiemdodffhoaaRows
import Derived.Lib.SmallJoins
import Derived.OpenShut
import Derived.Deep.Slices
import Derived.Deep.Fields
import Derived.ChangeSame
import Derived.Deep.RegionHeld3
namespace Go.Proofs.Ytohiemdodffhoaa
open Go.RowKit
set_option linter.unusedVariables false
set_option linter.unusedSimpArgs false

/-- a row that may be stored into -/
def RowOk (w : World) (lo hi : Nat) (e : TypeId) (s : Nat) (A : Option Addr) (n : Nat) : Prop := 0 < n → ∃ g cur, A = some ⟨g, 0, none⟩ ∧ lo ≤ g ∧ g < hi ∧ Box w g e cur ∧ n * s ≤ cur.size
theorem rowOk_own {w : World} {base s n c : Nat} {e : TypeId} {A : Option Addr} {xs : List Value} (h : w.ownsRow base e s (.slice A n c) n xs) : RowOk w base w.heap.size e s A n := by
  intro hn
  rcases h.2 with ⟨_, h0⟩ | ⟨g, cap, cur, hv, hb, hx, hnc, _, hs, _⟩
  · omega
  · injection hv with h1 h2 h3
    exact ⟨g, cur, h1, hb, Box.lt hx, hx, by rw [hs]; exact Nat.mul_le_mul_right s hnc⟩
theorem RowOk.set {w : World} {lo hi s n g i : Nat} {e e' : TypeId} {A : Option Addr} {cur : Array Value} (h : RowOk w lo hi e s A n) (hb : Box w g e' cur) (u : Value) : RowOk (w.setCell ⟨g, i, none⟩ u) lo hi e s A n := by
  intro hn
  obtain ⟨g', cur', h1, h2, h3, h4, h5⟩ := h hn
  by_cases hg : g' = g
  · subst hg
    exact ⟨g', _, h1, h2, h3, h4.stored i u, by simpa using h5⟩
  · exact ⟨g', cur', h1, h2, h3, h4.far (p := ⟨g, i, none⟩) hg u, h5⟩
theorem RowOk.alloc {w : World} {lo hi s n : Nat} {e : TypeId} {A : Option Addr} (h : RowOk w lo hi e s A n) (o : Obj) : RowOk (w.alloc o) lo hi e s A n := by
  intro hn
  obtain ⟨g', cur', h1, h2, h3, h4, h5⟩ := h hn
  exact ⟨g', cur', h1, h2, h3, h4.alloc o, h5⟩
/-- but for the blocks from lo up to hi, all that was there is as it was -/
structure Within (lo hi : Nat) (a b : World) : Prop where
  os : b.os = a.os
  tape : b.tape = a.tape
  output : b.output = a.output
  size : a.heap.size ≤ b.heap.size
  block : ∀ i, i < a.heap.size → (i < lo ∨ hi ≤ i) → b.heap[i]? = a.heap[i]?
theorem Within.refl (lo hi : Nat) (a : World) : Within lo hi a a := ⟨rfl, rfl, rfl, Nat.le_refl _, fun _ _ _ => rfl⟩
theorem Within.more {lo hi : Nat} {a b c : World} (h : Within lo hi a b) (k : Below b.heap.size b c) : Within lo hi a c :=
  ⟨k.os.trans h.os, k.tape.trans h.tape, k.output.trans h.output, Nat.le_trans h.size k.size, fun i hi hne => (k.block i (Nat.lt_of_lt_of_le hi h.size)).trans (h.block i hi hne)⟩
theorem Within.alloc {lo hi : Nat} {a b : World} (h : Within lo hi a b) (o : Obj) : Within lo hi a (b.alloc o) := h.more ((Below.refl _ _).alloc (Nat.le_refl _) o)
theorem Within.setCell {lo hi g i : Nat} {a b : World} (h : Within lo hi a b) (h1 : lo ≤ g) (h2 : g < hi) (u : Value) : Within lo hi a (b.setCell ⟨g, i, none⟩ u) := by
  have k : Below g b (b.setCell ⟨g, i, none⟩ u) := (Below.refl g b).setCell (p := ⟨g, i, none⟩) (Nat.le_refl g) u
  refine ⟨k.os.trans h.os, k.tape.trans h.tape, k.output.trans h.output, Nat.le_trans h.size k.size, fun j hj hne => ?_⟩
  rw [← h.block j hj hne]
  exact Below.heap_setCell b ⟨g, i, none⟩ u j (by show j ≠ g; omega)
theorem Within.below {lo hi B : Nat} {a b : World} (h : Within lo hi a b) (hB : B ≤ lo) (hs : B ≤ a.heap.size) : Below B a b := ⟨h.os, h.tape, h.output, h.size, fun i hi => h.block i (by omega) (.inl (by omega))⟩
theorem Box.within {lo hi g : Nat} {a b : World} {t : TypeId} {cs : Array Value} (h : Box a g t cs) (k : Within lo hi a b) (hg : g < lo ∨ hi ≤ g) : Box b g t cs := (k.block g h.lt hg).trans h
theorem RowOk.within {w w' : World} {lo hi lo' hi' s n : Nat} {e : TypeId} {A : Option Addr} (h : RowOk w lo hi e s A n) (k : Within lo' hi' w w') (hd : hi' ≤ lo) : RowOk w' lo hi e s A n := by
  intro hn
  obtain ⟨g, cur, h1, h2, h3, h4, h5⟩ := h hn
  exact ⟨g, cur, h1, h2, h3, h4.within k (.inr (by omega)), h5⟩
theorem RowOk.below {w w' : World} {lo hi s n : Nat} {e : TypeId} {A : Option Addr} (h : RowOk w lo hi e s A n) (k : Below w.heap.size w w') : RowOk w' lo hi e s A n := by
  intro hn
  obtain ⟨g, cur, h1, h2, h3, h4, h5⟩ := h hn
  exact ⟨g, cur, h1, h2, h3, h4.below k h4.lt, h5⟩
def TurnIs (lo hi : Nat) (w : World) (e : Ending) (w' : World) : Prop := e = .returned (.tuple #[]) ∧ Within lo hi w w'
end Go.Proofs.Ytohiemdodffhoaa

namespace Go.Proofs.Ytohiemdodffhoaa.SP
open Go.RowKit
open SM (Sn Sb Vo)
set_option linter.unusedVariables false
set_option linter.unusedSimpArgs false

theorem box_other {w : World} {g q : Nat} {e e' : TypeId} {cs cs' : Array Value} (h : Box w g e cs) (k : Box w q e' cs') (he : e ≠ e') : g ≠ q := by
  intro e2
  subst e2
  rw [Box] at h k
  rw [h] at k
  injection k with k
  injection k with _ k
  exact he k
/-- a row of rows of texts that may be stored into -/
def LogOk (w : World) (lo hi : Nat) (A : Option Addr) (n : Nat) : Prop := 0 < n → ∃ q cur, A = some ⟨q, 0, none⟩ ∧ lo ≤ q ∧ q < hi ∧ Box w q 32 cur ∧ n ≤ cur.size ∧
  ∀ i, i < n → ∃ B m c, cur[i]? = some (.slice B m c) ∧ m ≤ 9223372036854775807 ∧ RowOk w lo hi 9 1 B m
section
variable {w w' : World} {lo hi n g j : Nat} {A : Option Addr} {e : TypeId} {cs : Array Value}
theorem LogOk.set (h : LogOk w lo hi A n) (hb : Box w g e cs) (he : 32 ≠ e) (u : Value) : LogOk (w.setCell ⟨g, j, none⟩ u) lo hi A n := by
  intro hn
  obtain ⟨q, cur, h1, h2, h3, h4, h5, h6⟩ := h hn
  refine ⟨q, cur, h1, h2, h3, h4.far (p := ⟨g, j, none⟩) (box_other h4 hb he) u, h5, fun i hi => ?_⟩
  obtain ⟨B, m, c, g1, g2, g3⟩ := h6 i hi
  exact ⟨B, m, c, g1, g2, g3.set hb u⟩
theorem LogOk.below (h : LogOk w lo hi A n) (k : Below w.heap.size w w') : LogOk w' lo hi A n := by
  intro hn
  obtain ⟨q, cur, h1, h2, h3, h4, h5, h6⟩ := h hn
  refine ⟨q, cur, h1, h2, h3, h4.below k h4.lt, h5, fun i hi => ?_⟩
  obtain ⟨B, m, c, g1, g2, g3⟩ := h6 i hi
  exact ⟨B, m, c, g1, g2, g3.below k⟩
theorem LogOk.within {lo' hi' : Nat} (h : LogOk w lo hi A n) (k : Within lo' hi' w w') (hd : hi' ≤ lo) : LogOk w' lo hi A n := by
  intro hn
  obtain ⟨q, cur, h1, h2, h3, h4, h5, h6⟩ := h hn
  refine ⟨q, cur, h1, h2, h3, h4.within k (.inr (by omega)), h5, fun i hi => ?_⟩
  obtain ⟨B, m, c, g1, g2, g3⟩ := h6 i hi
  exact ⟨B, m, c, g1, g2, g3.within k hd⟩
theorem logOk_own {c : Nat} {rows : List Value} {ls : List (List ByteArray)} (h : w.ownsRow lo 32 1 (.slice A n c) n rows) (hr : RwOwn w lo rows ls) : LogOk w lo w.heap.size A n := by
  intro h0
  rcases h.2 with ⟨_, h1⟩ | ⟨q, cap, cur, hv, hb, hx, hnc, _, hs, hc⟩
  · omega
  injection hv with e1 e2 e3
  have hrl : rows.length = n := by have := h.1; omega
  refine ⟨q, cur, e1, hb, Box.lt hx, hx, by omega, fun i hi => ?_⟩
  obtain ⟨u, hu1, hu2⟩ := hr.2 i (ls[i]'(by rw [← hr.1]; omega)) (List.getElem?_eq_getElem _)
  obtain ⟨B, c', rfl, m1, m2⟩ := own_form hu2
  refine ⟨B, _, c', ?_, ?_, rowOk_own hu2⟩
  · have hu3 : (cur.toList.take (n * 1))[i]? = rows[i]? := by rw [hc]
    rw [List.getElem?_take, if_pos (by omega)] at hu3
    rw [← hu1, ← hu3]
    simp
  · exact Nat.le_trans m1 (Nat.le_trans m2 (by decide))
end
/-- its rows that may be stored into -/
structure SRows (w : World) (lo hi : Nat) (A B : Option Addr) (n m : Nat) : Prop where
  r0 : LogOk w lo hi A n
  r1 : RowOk w lo hi 75 5 B m
section
variable {w w' : World} {lo hi n m : Nat} {A B : Option Addr}
theorem SRows.below (h : SRows w lo hi A B n m) (k : Below w.heap.size w w') : SRows w' lo hi A B n m := ⟨h.r0.below k, h.r1.below k⟩
theorem SRows.within {lo' hi' : Nat} (h : SRows w lo hi A B n m) (k : Within lo' hi' w w') (hd : hi' ≤ lo) : SRows w' lo hi A B n m := ⟨h.r0.within k hd, h.r1.within k hd⟩
theorem srows_zero (w : World) (lo hi : Nat) : SRows w lo hi none none 0 0 := ⟨fun h => absurd h (Nat.lt_irrefl 0), fun h => absurd h (Nat.lt_irrefl 0)⟩
theorem SRows.set {g j : Nat} {e : TypeId} {cs : Array Value} (h : SRows w lo hi A B n m) (hb : Box w g e cs) (he : 32 ≠ e) (u : Value) : SRows (w.setCell ⟨g, j, none⟩ u) lo hi A B n m := ⟨h.r0.set hb he u, h.r1.set hb u⟩
end
theorem StOwn.rows {W : World} {base : Nat} {x : Sb} {A B : Option Addr} {c d : Nat} (h : StOwn W base (.agg #[.slice A x.logs.length c, .slice B x.votes.length d]) x) : SRows W base W.heap.size A B x.logs.length x.votes.length := by
  obtain ⟨vL, vV, rows, e, h1, h2, _, h3⟩ := h
  simp only [Value.agg.injEq, Array.mk.injEq, List.cons.injEq, and_true] at e
  obtain ⟨rfl, rfl⟩ := e
  exact ⟨logOk_own h1 h2, rowOk_own h3⟩
/-- the word of turn's loops -/
structure STn (w : World) (lo hi : Nat) (A B : Option Addr) (n m : Nat) (X : Array Value) (wr : World) : Prop where
  wi : Within lo hi w wr
  bx : Box wr w.heap.size 25 X
  rs : SRows wr lo hi A B n m
theorem STn.set {w wr : World} {lo hi n m g j : Nat} {A B : Option Addr} {X : Array Value} {e : TypeId} {cs : Array Value} (h : STn w lo hi A B n m X wr) (hh : hi ≤ w.heap.size) (hb : Box wr g e cs) (he : 32 ≠ e) (h1 : lo ≤ g) (h2 : g < hi) (u : Value) : STn w lo hi A B n m X (wr.setCell ⟨g, j, none⟩ u) :=
  ⟨h.wi.setCell h1 h2 u, h.bx.far (p := ⟨g, j, none⟩) (by show w.heap.size ≠ g; omega) u, h.rs.set hb he u⟩
set_option maxRecDepth 100000 in
set_option maxHeartbeats 8000000 in
theorem sturn_in (lo hi : Nat) (A B : Option Addr) (n m c d : Nat) (w : World) (H : SRows w lo hi A B n m) (hh : hi ≤ w.heap.size) (f0 : n ≤ 9223372036854775807) (f1 : m ≤ 9223372036854775807) :
    Calls Try.prog 29 #[.agg #[.slice A n c, .slice B m d]] w (TurnIs lo hi w) := by
  have hst : STn w lo hi A B n m #[.slice A n c, .slice B m d] (w.alloc (.cells #[.slice A n c, .slice B m d] 25)) :=
    ⟨(Within.refl _ _ _).alloc _, Box.new _ _ _, H.below ((Below.refl _ _).alloc (Nat.le_refl _) _)⟩
  have HS := Lib.hid hst
  clear hst H
  go_enter Try.func29, Try.ntmps29
  go_wp2_with fail
  go_loopw [2] (fun i wr => ∃ j : Nat, j ≤ m ∧ i = .int .i64 j ∧ Hid (STn w lo hi A B n m #[.slice A n c, .slice B m d] wr)) (fun i _ => m - (intOf i).toNat)
  case atStart => exact ⟨0, by omega, rfl, HS⟩
  case round =>
    clear HS
    obtain ⟨j, hj, rfl, HT⟩ := hrel
    obtain ⟨t0, t1, _, _⟩ := HT.out.bx.two
    by_cases hlt : j < m
    · obtain ⟨g, cur, rfl, g1, g2, hx, hsz⟩ := HT.out.rs.r1 (by omega)
      have hcell : wr.cell? ⟨g, j * 5 + 1, none⟩ = some (cur[j * 5 + 1]'(by omega)) := by rw [hx.cell (j * 5 + 1), Array.getElem?_eq_getElem (by omega)]
      have hfr := hx.frozen (j * 5 + 1)
      have HT2 := Lib.hid (HT.out.set hh (j := j * 5 + 1) hx (by decide) g1 g2 (.int .i64 77))
      generalize cur[j * 5 + 1]'(by omega) = cj at hcell
      clear HT hx
      go_wp2_with fail
      go_roundw
      case rel => exact ⟨j + 1, by omega, by go_num, HT2⟩
      case measure => simp [intOf]; omega
    obtain rfl : m = j := by omega
    have HS2 := HT
    clear HT
    go_wp2_with fail
    clear t0 t1
    go_loopw [3] (fun i wr => ∃ j : Nat, j ≤ n ∧ i = .int .i64 j ∧ Hid (STn w lo hi A B n m #[.slice A n c, .slice B m d] wr)) (fun i _ => n - (intOf i).toNat)
    case atStart => exact ⟨0, by omega, rfl, HS2⟩
    case round =>
      clear HS2
      obtain ⟨j, hj, rfl, HT⟩ := hrel
      obtain ⟨t0, t1, _, _⟩ := HT.out.bx.two
      by_cases hlt : j < n
      · have i0 : (0 : Int) ≤ (j : Int) := by omega
        have i1 : (j : Int) < (n : Int) := by omega
        obtain ⟨q, rfl⟩ : ∃ q, A = some ⟨q, 0, none⟩ := by obtain ⟨q, _, h, _⟩ := HT.out.rs.r0 (by omega); exact ⟨q, h⟩
        go_wp2_with fail
        clear t0 t1
        go_loopw [4] (fun i wr => ∃ k : Nat, i = .int .i64 k ∧ Hid (STn w lo hi (some ⟨q, 0, none⟩) B n m #[.slice (some ⟨q, 0, none⟩) n c, .slice B m d] wr)) (fun i _ => 9223372036854775808 - (intOf i).toNat)
        case atStart => exact ⟨0, rfl, HT⟩
        case round =>
          clear HT
          obtain ⟨k, rfl, HT⟩ := hrel
          obtain ⟨t0, t1, _, _⟩ := HT.out.bx.two
          obtain ⟨q', cur, e', q1, q2, hx, hsz, hall⟩ := HT.out.rs.r0 (by omega)
          injection e' with e'
          injection e' with e'
          subst e'
          obtain ⟨C, y, z, hcB, hm, hrow⟩ := hall j hlt
          have hmc : wr.cell? ⟨q, j, none⟩ = some (.slice C y z) := by rw [hx.cell j]; exact hcB
          by_cases hk : k < y
          · obtain ⟨g, cg, rfl, g1, g2, hxg, hsg⟩ := hrow (by omega)
            have hcell : wr.cell? ⟨g, k, none⟩ = some (cg[k]'(by omega)) := by rw [hxg.cell k, Array.getElem?_eq_getElem (by omega)]
            have hfr := hxg.frozen k
            have HT2 := Lib.hid (HT.out.set hh (j := k) hxg (by decide) g1 g2 (.string ⟨#[116, 117, 114, 110, 101, 100]⟩))
            generalize cg[k]'(by omega) = cj at hcell
            have k0 : (0 : Int) ≤ (k : Int) := by omega
            have k1 : (k : Int) < (y : Int) := by omega
            clear HT hx hxg hall hcB hrow
            go_wp2_with fail
            go_roundw
            case rel => exact ⟨k + 1, by go_num, HT2⟩
            case measure => simp [intOf]; omega
          · have k1 : decide ((k : Int) < (y : Int)) = false := by simp; omega
            clear hx hall hcB hrow
            go_wp2_with fail
            go_roundw
            case rel => exact ⟨j + 1, by omega, by go_num, HT⟩
            case measure => simp [intOf]; omega
      obtain rfl : n = j := by omega
      have HE := Lib.hid HT.out.wi
      clear HT
      go_wp2_with fail
      go_end0
      exact ⟨rfl, HE.out⟩
end Go.Proofs.Ytohiemdodffhoaa.SP

namespace Go.Proofs.Ytohiemdodffhoaa.SP
open Go.RowKit Go.Shelf
open SM (Sn Sb Vo)
set_option linter.unusedVariables false
set_option linter.unusedSimpArgs false
set_option maxRecDepth 100000

set_option maxHeartbeats 16000000 in
theorem rapp_bad (MC : MayC) (k : Int) (A : Option Addr) (c : Nat) (B : Option Addr) (d : Nat) (x : Sb) (g s b : Int) (t : ByteArray) (W : World) (hL : LogsIs W A x.logs.length c x.logs) (hV : VotesIs W B x.votes.length d x.votes) (F : Fit x) (ht : t.size ≤ maxLen) (hn : ¬ SM.may x ∨ ¬ RM.may ⟨k, g, s, b, t⟩) :
    Calls Try.prog 21 #[.agg #[.slice A x.logs.length c, .slice B x.votes.length d], .agg #[.int .u8 k, .int .i64 g, .int .i64 s, .int .i64 b, .string t]] W (AppPost x ⟨k, g, s, b, t⟩ W) := by
  have S := Lib.hid (ap_new (W := W) (X := #[.slice A x.logs.length c, .slice B x.votes.length d]) (R := #[.int .u8 k, .int .i64 g, .int .i64 s, .int .i64 b, .string t]))
  have HL := Lib.hid (fun w (h : Below W.heap.size W w) => hL.below h)
  have HV := Lib.hid (fun w (h : Below W.heap.size W w) => hV.below h)
  have CM := Lib.hid (fun w (h : Below W.heap.size W w) => MC (.agg #[.slice A x.logs.length c, .slice B x.votes.length d]) x w ⟨A, c, B, d, rfl, hL.below h, hV.below h⟩ F)
  have DM := Lib.hid (fun w => RP.rmay_any k g s b t w ht)
  obtain ⟨m0, m1, m2⟩ := rows_rd2 hL
  unfold maxLen at m2
  clear m0 MC
  have HE := Lib.hid (show SM.appF x ⟨k, g, s, b, t⟩ = (SM.zero, 8) by unfold SM.appF; rw [if_pos hn])
  have HN := Lib.hid hn
  clear hL hV F ht hn
  go_enter Try.func21, Try.ntmps21
  go_upto_region 1 with (fail)
  generalize ((W.alloc (.cells #[.slice A x.logs.length c, .slice B x.votes.length d] 25)).alloc (.cells #[.int .u8 k, .int .i64 g, .int .i64 s, .int .i64 b, .string t] 29)).alloc (.cells #[.slice none 0 0, .slice none 0 0] 25) = w1 at S ⊢
  generalize W.heap.size = g0 at S ⊢
  obtain ⟨x0, x1, _, _⟩ := S.out.bx.two
  go_wp2_with fail
  clear x0 x1
  refine (CM.out w1 S.out.bl).mono ?_
  rintro e w2 ⟨rfl, hb⟩
  replace S := Lib.hid (S.out.below hb); clear hb CM
  obtain ⟨x0, x1, _, _⟩ := S.out.bx.two
  obtain ⟨r0, r1, r2, r3, r4⟩ := five_box S.out.br
  obtain ⟨z0, z1, f0, f1⟩ := S.out.bz.two
  by_cases hm : SM.may x
  · rw [decide_eq_true hm]
    have HM := Lib.hid hm
    clear hm
    go_wp2_with fail
    clear x0 x1 r0 r1 r2 r3 r4 z0 z1 f0 f1
    refine (DM.out _).mono ?_
    rintro e w3 ⟨y, hy, rfl, hb⟩
    obtain rfl : y = false := by
      cases y
      · rfl
      · exact (HN.out.elim (fun h => absurd HM.out h) (fun h => absurd (hy.1 rfl) h))
    replace S := Lib.hid (S.out.below hb); clear hb hy
    obtain ⟨x0, x1, _, _⟩ := S.out.bx.two
    obtain ⟨r0, r1, r2, r3, r4⟩ := five_box S.out.br
    obtain ⟨z0, z1, f0, f1⟩ := S.out.bz.two
    go_wp2_with fail
    exact bodyPost_ret (v := .tuple #[.agg #[.slice none 0 0, .slice none 0 0], .int .i64 8]) (by simp [results, Try.results21, go_sem, z0, z1]; try rfl) rfl (ap_err S.out HE.out)
  · rw [decide_eq_false hm]
    clear hm
    go_wp2_with fail
    exact bodyPost_ret (v := .tuple #[.agg #[.slice none 0 0, .slice none 0 0], .int .i64 8]) (by simp [results, Try.results21, go_sem, z0, z1]; try rfl) rfl (ap_err S.out HE.out)
end Go.Proofs.Ytohiemdodffhoaa.SP

namespace Go.Proofs.Ytohiemdodffhoaa.SP
open Go.RowKit Go.Shelf
open SM (Sn Sb Vo)
set_option linter.unusedVariables false
set_option linter.unusedSimpArgs false
set_option maxRecDepth 100000

set_option maxHeartbeats 16000000 in
theorem rapp_1 (MC : MayC) (A : Option Addr) (c : Nat) (B : Option Addr) (d : Nat) (x : Sb) (g s b : Int) (t : ByteArray) (W : World) (hL : LogsIs W A x.logs.length c x.logs) (hV : VotesIs W B x.votes.length d x.votes) (F : Fit x) (ht : t.size ≤ maxLen) (hm : SM.may x) (hr : RM.may ⟨1, g, s, b, t⟩) :
    Calls Try.prog 21 #[.agg #[.slice A x.logs.length c, .slice B x.votes.length d], .agg #[.int .u8 1, .int .i64 g, .int .i64 s, .int .i64 b, .string t]] W (AppPost x ⟨1, g, s, b, t⟩ W) := by
  have S := Lib.hid (ap_new (W := W) (X := #[.slice A x.logs.length c, .slice B x.votes.length d]) (R := #[.int .u8 1, .int .i64 g, .int .i64 s, .int .i64 b, .string t]))
  have HL := Lib.hid (fun w (h : Below W.heap.size W w) => hL.below h)
  have HV := Lib.hid (fun w (h : Below W.heap.size W w) => hV.below h)
  have CM := Lib.hid (fun w (h : Below W.heap.size W w) => MC (.agg #[.slice A x.logs.length c, .slice B x.votes.length d]) x w ⟨A, c, B, d, rfl, hL.below h, hV.below h⟩ F)
  have DM := Lib.hid (fun w => RP.rmay_any 1 g s b t w ht)
  obtain ⟨m0, m1, m2⟩ := rows_rd2 hL
  unfold maxLen at m2
  clear m0 MC
  have hg := hr.1
  have hs := hr.2.1
  simp only at hg hs
  have HM := Lib.hid hm
  have HRR := Lib.hid hr
  have htl := ht
  obtain ⟨gi, rfl⟩ : ∃ gi : Nat, g = gi := ⟨g.toNat, by omega⟩
  obtain ⟨si, rfl⟩ : ∃ si : Nat, s = si := ⟨s.toNat, by omega⟩
  clear hL hV F ht hm hr
  go_enter Try.func21, Try.ntmps21
  go_upto_region 1 with (fail)
  generalize ((W.alloc (.cells #[.slice A x.logs.length c, .slice B x.votes.length d] 25)).alloc (.cells #[.int .u8 1, .int .i64 gi, .int .i64 si, .int .i64 b, .string t] 29)).alloc (.cells #[.slice none 0 0, .slice none 0 0] 25) = w1 at S ⊢
  generalize W.heap.size = g0 at S ⊢
  obtain ⟨x0, x1, _, _⟩ := S.out.bx.two
  go_wp2_with fail
  clear x0 x1
  refine (CM.out w1 S.out.bl).mono ?_
  rintro e w2 ⟨rfl, hb⟩
  replace S := Lib.hid (S.out.below hb); clear hb CM
  obtain ⟨x0, x1, _, _⟩ := S.out.bx.two
  obtain ⟨r0, r1, r2, r3, r4⟩ := five_box S.out.br
  obtain ⟨z0, z1, f0, f1⟩ := S.out.bz.two
  rw [decide_eq_true HM.out]
  go_wp2_with fail
  clear x0 x1 r0 r1 r2 r3 r4 z0 z1 f0 f1
  refine (DM.out _).mono ?_
  rintro e w3 ⟨y, hy, rfl, hb⟩
  obtain rfl : y = true := hy.2 HRR.out
  replace S := Lib.hid (S.out.below hb); clear hb hy DM
  obtain ⟨x0, x1, _, _⟩ := S.out.bx.two
  obtain ⟨r0, r1, r2, r3, r4⟩ := five_box S.out.br
  obtain ⟨z0, z1, f0, f1⟩ := S.out.bz.two
  by_cases c1 : x.logs.length ≤ gi
  · have HE := Lib.hid (app_6 HM.out HRR.out (by simp only; omega))
    go_wp2_with fail
    exact bodyPost_ret (v := .tuple #[.agg #[.slice none 0 0, .slice none 0 0], .int .i64 6]) (by simp [results, Try.results21, go_sem, z0, z1]; try rfl) rfl (ap_err S.out HE.out)
  obtain ⟨l, hl⟩ : ∃ l, x.logs[gi]? = some l := ⟨_, List.getElem?_eq_getElem (by omega)⟩
  have hll := llen_at hl
  have hl200 := (SM.may_logs HM.out).1 l (List.mem_of_getElem? hl)
  obtain ⟨ad, C, e, hA, _, q1, _, q3, q4⟩ := logs_get (HL.out _ S.out.bl) hl
  subst hA
  unfold maxLen at q4
  have HLL := Lib.hid hl
  clear hl
  by_cases c2 : si ≤ l.length
  · have HE := Lib.hid (app_8 HM.out HRR.out (by simp only; omega) (.inl (by simp only [hll]; omega)))
    go_wp2_with fail
    exact bodyPost_ret (v := .tuple #[.agg #[.slice none 0 0, .slice none 0 0], .int .i64 8]) (by simp [results, Try.results21, go_sem, z0, z1]; try rfl) rfl (ap_err S.out HE.out)
  have HA2 := Lib.hid (app_1 HM.out HRR.out (by omega) (by rw [hll]; omega))
  clear hll
  go_wp2_with fail
  clear x0 x1 r0 r1 r2 r3 r4 z0 z1 f0 f1
  clear q1
  refine (rvote_any B x.votes.length d x.votes gi si w3 (HV.out _ S.out.bl)).mono ?_
  rintro e w4 ⟨rfl, hb⟩
  replace S := Lib.hid (S.out.below hb); clear hb
  have hfm := SM.find_may HM.out gi si
  have hvl := SM.votes_le HM.out
  have h44 := HM.out.1.2
  obtain ⟨o, ho⟩ : ∃ o, o = SM.find x.votes gi si := ⟨_, rfl⟩
  try simp only at HA2
  rw [← ho] at hfm HA2 ⊢
  clear ho
  have V := Lib.hid (Box.new w4 48 #[.int .i64 o.p, .int .i64 o.b, .string o.v])
  have hh1 := S.out.behind
  replace S := Lib.hid (S.out.below ((Below.refl _ _).alloc (Nat.le_refl _) (.cells #[.int .i64 o.p, .int .i64 o.b, .string o.v] 48)))
  go_upto_region 9 with (fail)
  generalize w4.alloc (.cells #[.int .i64 o.p, .int .i64 o.b, .string o.v] 48) = w5 at S V ⊢
  generalize w4.heap.size = h1 at V hh1 ⊢
  obtain ⟨x0, x1, _, _⟩ := S.out.bx.two
  obtain ⟨r0, r1, r2, r3, r4⟩ := five_box S.out.br
  obtain ⟨z0, z1, f0, f1⟩ := S.out.bz.two
  obtain ⟨v0, v1, v2, u0, u1, u2⟩ := V.out.three
  go_wp2_with fail
  clear x0 x1 r0 r1 r2 r3 r4 z0 z1 f0 f1
  clear v0 v1 v2 u0 u1 u2
  refine (VP.rPrep_any w5 (by have := hfm.2; unfold maxLen; omega) (SM.prepF_is o b)).mono ?_
  rintro e w6 ⟨rfl, hb⟩
  replace S := Lib.hid (S.out.below hb)
  replace V := Lib.hid (V.out.below hb V.out.lt)
  clear hb
  obtain ⟨p, hp⟩ : ∃ p, p = SM.prepF o b := ⟨_, rfl⟩
  have hok : p.2 = 0 → p.1.p ≠ 0 := fun h0 => by
    rw [hp] at h0 ⊢
    obtain ⟨_, k1, _, k2⟩ := SM.prepF_ok h0
    rw [k2]
    have := k1.1
    simp only; omega
  simp only [← hp] at HA2 ⊢
  clear hp hfm
  obtain ⟨⟨p, q, z⟩, e6⟩ := p
  simp only at hok HA2 ⊢
  obtain ⟨v0, v1, v2, u0, u1, u2⟩ := V.out.three
  go_upto_region 16 with (fail)
  clear v0 v1 v2 u0 u1 u2
  replace S := Lib.hid (((S.out.set hh1 (i := 0) (.int .i64 p)).set hh1 (i := 1) (.int .i64 q)).set hh1 (i := 2) (.string z))
  replace V := Lib.hid (V.out.put3 (.int .i64 p) (.int .i64 q) (.string z))
  generalize ((w6.setCell ⟨h1, 0, none⟩ (.int .i64 p)).setCell ⟨h1, 1, none⟩ (.int .i64 q)).setCell ⟨h1, 2, none⟩ (.string z) = w7 at S V ⊢
  obtain ⟨x0, x1, _, _⟩ := S.out.bx.two
  obtain ⟨r0, r1, r2, r3, r4⟩ := five_box S.out.br
  obtain ⟨z0, z1, f0, f1⟩ := S.out.bz.two
  by_cases he6 : e6 ≠ 0
  · have HE := Lib.hid (HA2.out.trans (by rw [if_pos he6]))
    have hne : (e6 != 0) = true := by simpa using he6
    go_wp2_with fail
    exact bodyPost_ret (v := .tuple #[.agg #[.slice none 0 0, .slice none 0 0], .int .i64 e6]) (by simp [results, Try.results21, go_sem, z0, z1]; try rfl) rfl (ap_err S.out HE.out)
  have he7 : e6 = 0 := Classical.not_not.1 he6
  clear he6
  subst he7
  have hpo := hok rfl
  clear hok
  have HE := Lib.hid (HA2.out.trans (by rw [if_neg (by decide)]))
  clear HA2
  go_wp2_with fail
  clear x0 x1 r0 r1 r2 r3 r4 z0 z1 f0 f1
  refine (rtwin_any (.agg #[.slice (some ad) x.logs.length c, .slice B x.votes.length d]) x w7 ⟨some ad, c, B, d, rfl, HL.out _ S.out.bl, HV.out _ S.out.bl⟩ ⟨by omega, fun l hl => by have := (SM.may_logs HM.out).1 l hl; omega, by omega⟩).mono ?_
  rintro e w8 ⟨v8, rfl, ho, hb⟩
  have hW7 := S.out.bl.size
  replace S := Lib.hid (S.out.below hb)
  replace V := Lib.hid (V.out.below hb V.out.lt)
  obtain ⟨vL, vV, rows, rfl, o1, o2, o3, o4⟩ := ho
  obtain ⟨A2, c5, rfl, _, _⟩ := own_form o1
  obtain ⟨B2, d5, rfl, _, _⟩ := own_form o4
  clear hb o4
  have hh2 := S.out.behind
  have hh12 := V.out.lt
  have hba : Below w8.heap.size w8 (w8.alloc (.cells #[.slice A2 x.logs.length c5, .slice B2 x.votes.length d5] 25)) := (Below.refl _ _).alloc (Nat.le_refl _) _
  have O := Lib.hid (Box.new w8 25 #[.slice A2 x.logs.length c5, .slice B2 x.votes.length d5])
  replace S := Lib.hid (S.out.below hba)
  replace V := Lib.hid (V.out.below hba V.out.lt)
  have O1 := Lib.hid (own_below3 (own_base o1 hW7) hba)
  have O2 := Lib.hid ((show RwOwn w8 W.heap.size rows x.logs from ⟨o2.1, fun i l hi => by obtain ⟨u, h1, h2⟩ := o2.2 i l hi; exact ⟨u, h1, own_base h2 hW7⟩⟩).below hba)
  have o3ap := o3
  clear o1 o2 o3 hba
  go_upto_region 19 with (fail)
  generalize w8.alloc (.cells #[.slice A2 x.logs.length c5, .slice B2 x.votes.length d5] 25) = w9 at S V O O1 O2 ⊢
  generalize w8.heap.size = h2 at O hh2 hh12 ⊢
  obtain ⟨x0, x1, _, _⟩ := S.out.bx.two
  obtain ⟨r0, r1, r2, r3, r4⟩ := five_box S.out.br
  obtain ⟨z0, z1, f0, f1⟩ := S.out.bz.two
  obtain ⟨v0, v1, v2, u0, u1, u2⟩ := V.out.three
  go_wp2_with fail
  clear x0 x1 r0 r1 r2 r3 r4 z0 z1 f0 f1
  clear v0 v1 v2 u0 u1 u2
  refine (rwith_any B x.votes.length d x.votes ⟨gi, si, ⟨p, q, z⟩⟩ w9 (HV.out _ S.out.bl) (by omega) (.inr hpo)).mono ?_
  rintro e w10 ⟨vW, rfl, oW, hb⟩
  have hW9 := S.out.bl.size
  obtain ⟨B3, d6, rfl, _, _⟩ := own_form oW
  replace S := Lib.hid (S.out.below hb)
  replace O := Lib.hid (O.out.below hb O.out.lt)
  replace O1 := Lib.hid (own_below3 O1.out hb)
  replace O2 := Lib.hid (O2.out.below hb)
  clear hb V
  obtain ⟨y0, y1, t0, t1⟩ := O.out.two
  go_upto_region 20 with (fail)
  clear y0 y1 t0 t1
  have ks : Kept isSt w10 (w10.setCell ⟨h2, 1, none⟩ (.slice B3 (SM.put x.votes ⟨gi, si, ⟨p, q, z⟩⟩).length d6)) := Kept.set (S := isSt) O.out rfl _
  have OW := Lib.hid (ks.own (own_base oW hW9) (by unfold isSt; decide))
  replace O1 := Lib.hid (ks.own O1.out (by unfold isSt; decide))
  replace O2 := Lib.hid (O2.out.kept ks (by unfold isSt; decide))
  replace S := Lib.hid (S.out.set hh2 (i := 1) (.slice B3 (SM.put x.votes ⟨gi, si, ⟨p, q, z⟩⟩).length d6))
  replace O := Lib.hid (show Box _ h2 25 #[.slice A2 x.logs.length c5, .slice B3 (SM.put x.votes ⟨gi, si, ⟨p, q, z⟩⟩).length d6] by have := O.out.stored 1 (.slice B3 (SM.put x.votes ⟨gi, si, ⟨p, q, z⟩⟩).length d6); simpa using this)
  clear ks oW
  generalize w10.setCell ⟨h2, 1, none⟩ (.slice B3 (SM.put x.votes ⟨gi, si, ⟨p, q, z⟩⟩).length d6) = w11 at S O O1 O2 OW ⊢
  obtain ⟨x0, x1, _, _⟩ := S.out.bx.two
  obtain ⟨r0, r1, r2, r3, r4⟩ := five_box S.out.br
  obtain ⟨z0, z1, f0, f1⟩ := S.out.bz.two
  obtain ⟨y0, y1, t0, t1⟩ := O.out.two
  go_wp2_with fail
  exact bodyPost_ret (v := .tuple #[.agg #[.slice A2 x.logs.length c5, .slice B3 (SM.put x.votes ⟨gi, si, ⟨p, q, z⟩⟩).length d6], .int .i64 0]) (by simp [results, Try.results21, go_sem, z0, z1]; try rfl) rfl (ap_fin S.out HE.out O1.out O2.out OW.out)
end Go.Proofs.Ytohiemdodffhoaa.SP

namespace Go.Proofs.Ytohiemdodffhoaa.SP
open Go.RowKit Go.Shelf
open SM (Sn Sb Vo)
set_option linter.unusedVariables false
set_option linter.unusedSimpArgs false
set_option maxRecDepth 100000

set_option maxHeartbeats 16000000 in
theorem rapp_2 (MC : MayC) (A : Option Addr) (c : Nat) (B : Option Addr) (d : Nat) (x : Sb) (g s b : Int) (t : ByteArray) (W : World) (hL : LogsIs W A x.logs.length c x.logs) (hV : VotesIs W B x.votes.length d x.votes) (F : Fit x) (ht : t.size ≤ maxLen) (hm : SM.may x) (hr : RM.may ⟨2, g, s, b, t⟩) :
    Calls Try.prog 21 #[.agg #[.slice A x.logs.length c, .slice B x.votes.length d], .agg #[.int .u8 2, .int .i64 g, .int .i64 s, .int .i64 b, .string t]] W (AppPost x ⟨2, g, s, b, t⟩ W) := by
  have S := Lib.hid (ap_new (W := W) (X := #[.slice A x.logs.length c, .slice B x.votes.length d]) (R := #[.int .u8 2, .int .i64 g, .int .i64 s, .int .i64 b, .string t]))
  have HL := Lib.hid (fun w (h : Below W.heap.size W w) => hL.below h)
  have HV := Lib.hid (fun w (h : Below W.heap.size W w) => hV.below h)
  have CM := Lib.hid (fun w (h : Below W.heap.size W w) => MC (.agg #[.slice A x.logs.length c, .slice B x.votes.length d]) x w ⟨A, c, B, d, rfl, hL.below h, hV.below h⟩ F)
  have DM := Lib.hid (fun w => RP.rmay_any 2 g s b t w ht)
  obtain ⟨m0, m1, m2⟩ := rows_rd2 hL
  unfold maxLen at m2
  clear m0 MC
  have hg := hr.1
  have hs := hr.2.1
  simp only at hg hs
  have HM := Lib.hid hm
  have HRR := Lib.hid hr
  have htl := ht
  obtain ⟨gi, rfl⟩ : ∃ gi : Nat, g = gi := ⟨g.toNat, by omega⟩
  obtain ⟨si, rfl⟩ : ∃ si : Nat, s = si := ⟨s.toNat, by omega⟩
  clear hL hV F ht hm hr
  go_enter Try.func21, Try.ntmps21
  go_upto_region 1 with (fail)
  generalize ((W.alloc (.cells #[.slice A x.logs.length c, .slice B x.votes.length d] 25)).alloc (.cells #[.int .u8 2, .int .i64 gi, .int .i64 si, .int .i64 b, .string t] 29)).alloc (.cells #[.slice none 0 0, .slice none 0 0] 25) = w1 at S ⊢
  generalize W.heap.size = g0 at S ⊢
  obtain ⟨x0, x1, _, _⟩ := S.out.bx.two
  go_wp2_with fail
  clear x0 x1
  refine (CM.out w1 S.out.bl).mono ?_
  rintro e w2 ⟨rfl, hb⟩
  replace S := Lib.hid (S.out.below hb); clear hb CM
  obtain ⟨x0, x1, _, _⟩ := S.out.bx.two
  obtain ⟨r0, r1, r2, r3, r4⟩ := five_box S.out.br
  obtain ⟨z0, z1, f0, f1⟩ := S.out.bz.two
  rw [decide_eq_true HM.out]
  go_wp2_with fail
  clear x0 x1 r0 r1 r2 r3 r4 z0 z1 f0 f1
  refine (DM.out _).mono ?_
  rintro e w3 ⟨y, hy, rfl, hb⟩
  obtain rfl : y = true := hy.2 HRR.out
  replace S := Lib.hid (S.out.below hb); clear hb hy DM
  obtain ⟨x0, x1, _, _⟩ := S.out.bx.two
  obtain ⟨r0, r1, r2, r3, r4⟩ := five_box S.out.br
  obtain ⟨z0, z1, f0, f1⟩ := S.out.bz.two
  by_cases c1 : x.logs.length ≤ gi
  · have HE := Lib.hid (app_6 HM.out HRR.out (by simp only; omega))
    go_wp2_with fail
    exact bodyPost_ret (v := .tuple #[.agg #[.slice none 0 0, .slice none 0 0], .int .i64 6]) (by simp [results, Try.results21, go_sem, z0, z1]; try rfl) rfl (ap_err S.out HE.out)
  obtain ⟨l, hl⟩ : ∃ l, x.logs[gi]? = some l := ⟨_, List.getElem?_eq_getElem (by omega)⟩
  have hll := llen_at hl
  have hl200 := (SM.may_logs HM.out).1 l (List.mem_of_getElem? hl)
  obtain ⟨ad, C, e, hA, _, q1, _, q3, q4⟩ := logs_get (HL.out _ S.out.bl) hl
  subst hA
  unfold maxLen at q4
  have HLL := Lib.hid hl
  clear hl
  by_cases c2 : si ≤ l.length
  · have HE := Lib.hid (app_8 HM.out HRR.out (by simp only; omega) (.inl (by simp only [hll]; omega)))
    go_wp2_with fail
    exact bodyPost_ret (v := .tuple #[.agg #[.slice none 0 0, .slice none 0 0], .int .i64 8]) (by simp [results, Try.results21, go_sem, z0, z1]; try rfl) rfl (ap_err S.out HE.out)
  have HA2 := Lib.hid (app_2 HM.out HRR.out (by omega) (by rw [hll]; omega))
  clear hll
  go_wp2_with fail
  clear x0 x1 r0 r1 r2 r3 r4 z0 z1 f0 f1
  clear q1
  refine (rvote_any B x.votes.length d x.votes gi si w3 (HV.out _ S.out.bl)).mono ?_
  rintro e w4 ⟨rfl, hb⟩
  replace S := Lib.hid (S.out.below hb); clear hb
  have hfm := SM.find_may HM.out gi si
  have hvl := SM.votes_le HM.out
  have h44 := HM.out.1.2
  obtain ⟨o, ho⟩ : ∃ o, o = SM.find x.votes gi si := ⟨_, rfl⟩
  try simp only at HA2
  rw [← ho] at hfm HA2 ⊢
  clear ho
  have V := Lib.hid (Box.new w4 48 #[.int .i64 o.p, .int .i64 o.b, .string o.v])
  have hh1 := S.out.behind
  replace S := Lib.hid (S.out.below ((Below.refl _ _).alloc (Nat.le_refl _) (.cells #[.int .i64 o.p, .int .i64 o.b, .string o.v] 48)))
  go_upto_region 9 with (fail)
  generalize w4.alloc (.cells #[.int .i64 o.p, .int .i64 o.b, .string o.v] 48) = w5 at S V ⊢
  generalize w4.heap.size = h1 at V hh1 ⊢
  obtain ⟨x0, x1, _, _⟩ := S.out.bx.two
  obtain ⟨r0, r1, r2, r3, r4⟩ := five_box S.out.br
  obtain ⟨z0, z1, f0, f1⟩ := S.out.bz.two
  obtain ⟨v0, v1, v2, u0, u1, u2⟩ := V.out.three
  go_wp2_with fail
  clear x0 x1 r0 r1 r2 r3 r4 z0 z1 f0 f1
  clear v0 v1 v2 u0 u1 u2
  refine (VP.rAcc_any w5 (by have := hfm.2; unfold maxLen; omega) htl (SM.accF_is o b t)).mono ?_
  rintro e w6 ⟨rfl, hb⟩
  replace S := Lib.hid (S.out.below hb)
  replace V := Lib.hid (V.out.below hb V.out.lt)
  clear hb
  obtain ⟨p, hp⟩ : ∃ p, p = SM.accF o b t := ⟨_, rfl⟩
  have hok : p.2 = 0 → p.1.p ≠ 0 := fun h0 => by
    rw [hp] at h0 ⊢
    obtain ⟨_, k1, _, _, k2⟩ := SM.accF_ok h0
    rw [k2]
    have := k1.1
    simp only; omega
  simp only [← hp] at HA2 ⊢
  clear hp hfm
  obtain ⟨⟨p, q, z⟩, e6⟩ := p
  simp only at hok HA2 ⊢
  obtain ⟨v0, v1, v2, u0, u1, u2⟩ := V.out.three
  go_upto_region 16 with (fail)
  clear v0 v1 v2 u0 u1 u2
  replace S := Lib.hid (((S.out.set hh1 (i := 0) (.int .i64 p)).set hh1 (i := 1) (.int .i64 q)).set hh1 (i := 2) (.string z))
  replace V := Lib.hid (V.out.put3 (.int .i64 p) (.int .i64 q) (.string z))
  generalize ((w6.setCell ⟨h1, 0, none⟩ (.int .i64 p)).setCell ⟨h1, 1, none⟩ (.int .i64 q)).setCell ⟨h1, 2, none⟩ (.string z) = w7 at S V ⊢
  obtain ⟨x0, x1, _, _⟩ := S.out.bx.two
  obtain ⟨r0, r1, r2, r3, r4⟩ := five_box S.out.br
  obtain ⟨z0, z1, f0, f1⟩ := S.out.bz.two
  by_cases he6 : e6 ≠ 0
  · have HE := Lib.hid (HA2.out.trans (by rw [if_pos he6]))
    have hne : (e6 != 0) = true := by simpa using he6
    go_wp2_with fail
    exact bodyPost_ret (v := .tuple #[.agg #[.slice none 0 0, .slice none 0 0], .int .i64 e6]) (by simp [results, Try.results21, go_sem, z0, z1]; try rfl) rfl (ap_err S.out HE.out)
  have he7 : e6 = 0 := Classical.not_not.1 he6
  clear he6
  subst he7
  have hpo := hok rfl
  clear hok
  have HE := Lib.hid (HA2.out.trans (by rw [if_neg (by decide)]))
  clear HA2
  go_wp2_with fail
  clear x0 x1 r0 r1 r2 r3 r4 z0 z1 f0 f1
  refine (rtwin_any (.agg #[.slice (some ad) x.logs.length c, .slice B x.votes.length d]) x w7 ⟨some ad, c, B, d, rfl, HL.out _ S.out.bl, HV.out _ S.out.bl⟩ ⟨by omega, fun l hl => by have := (SM.may_logs HM.out).1 l hl; omega, by omega⟩).mono ?_
  rintro e w8 ⟨v8, rfl, ho, hb⟩
  have hW7 := S.out.bl.size
  replace S := Lib.hid (S.out.below hb)
  replace V := Lib.hid (V.out.below hb V.out.lt)
  obtain ⟨vL, vV, rows, rfl, o1, o2, o3, o4⟩ := ho
  obtain ⟨A2, c5, rfl, _, _⟩ := own_form o1
  obtain ⟨B2, d5, rfl, _, _⟩ := own_form o4
  clear hb o4
  have hh2 := S.out.behind
  have hh12 := V.out.lt
  have hba : Below w8.heap.size w8 (w8.alloc (.cells #[.slice A2 x.logs.length c5, .slice B2 x.votes.length d5] 25)) := (Below.refl _ _).alloc (Nat.le_refl _) _
  have O := Lib.hid (Box.new w8 25 #[.slice A2 x.logs.length c5, .slice B2 x.votes.length d5])
  replace S := Lib.hid (S.out.below hba)
  replace V := Lib.hid (V.out.below hba V.out.lt)
  have O1 := Lib.hid (own_below3 (own_base o1 hW7) hba)
  have O2 := Lib.hid ((show RwOwn w8 W.heap.size rows x.logs from ⟨o2.1, fun i l hi => by obtain ⟨u, h1, h2⟩ := o2.2 i l hi; exact ⟨u, h1, own_base h2 hW7⟩⟩).below hba)
  have o3ap := o3
  clear o1 o2 o3 hba
  go_upto_region 19 with (fail)
  generalize w8.alloc (.cells #[.slice A2 x.logs.length c5, .slice B2 x.votes.length d5] 25) = w9 at S V O O1 O2 ⊢
  generalize w8.heap.size = h2 at O hh2 hh12 ⊢
  obtain ⟨x0, x1, _, _⟩ := S.out.bx.two
  obtain ⟨r0, r1, r2, r3, r4⟩ := five_box S.out.br
  obtain ⟨z0, z1, f0, f1⟩ := S.out.bz.two
  obtain ⟨v0, v1, v2, u0, u1, u2⟩ := V.out.three
  go_wp2_with fail
  clear x0 x1 r0 r1 r2 r3 r4 z0 z1 f0 f1
  clear v0 v1 v2 u0 u1 u2
  refine (rwith_any B x.votes.length d x.votes ⟨gi, si, ⟨p, q, z⟩⟩ w9 (HV.out _ S.out.bl) (by omega) (.inr hpo)).mono ?_
  rintro e w10 ⟨vW, rfl, oW, hb⟩
  have hW9 := S.out.bl.size
  obtain ⟨B3, d6, rfl, _, _⟩ := own_form oW
  replace S := Lib.hid (S.out.below hb)
  replace O := Lib.hid (O.out.below hb O.out.lt)
  replace O1 := Lib.hid (own_below3 O1.out hb)
  replace O2 := Lib.hid (O2.out.below hb)
  clear hb V
  obtain ⟨y0, y1, t0, t1⟩ := O.out.two
  go_upto_region 20 with (fail)
  clear y0 y1 t0 t1
  have ks : Kept isSt w10 (w10.setCell ⟨h2, 1, none⟩ (.slice B3 (SM.put x.votes ⟨gi, si, ⟨p, q, z⟩⟩).length d6)) := Kept.set (S := isSt) O.out rfl _
  have OW := Lib.hid (ks.own (own_base oW hW9) (by unfold isSt; decide))
  replace O1 := Lib.hid (ks.own O1.out (by unfold isSt; decide))
  replace O2 := Lib.hid (O2.out.kept ks (by unfold isSt; decide))
  replace S := Lib.hid (S.out.set hh2 (i := 1) (.slice B3 (SM.put x.votes ⟨gi, si, ⟨p, q, z⟩⟩).length d6))
  replace O := Lib.hid (show Box _ h2 25 #[.slice A2 x.logs.length c5, .slice B3 (SM.put x.votes ⟨gi, si, ⟨p, q, z⟩⟩).length d6] by have := O.out.stored 1 (.slice B3 (SM.put x.votes ⟨gi, si, ⟨p, q, z⟩⟩).length d6); simpa using this)
  clear ks oW
  generalize w10.setCell ⟨h2, 1, none⟩ (.slice B3 (SM.put x.votes ⟨gi, si, ⟨p, q, z⟩⟩).length d6) = w11 at S O O1 O2 OW ⊢
  obtain ⟨x0, x1, _, _⟩ := S.out.bx.two
  obtain ⟨r0, r1, r2, r3, r4⟩ := five_box S.out.br
  obtain ⟨z0, z1, f0, f1⟩ := S.out.bz.two
  obtain ⟨y0, y1, t0, t1⟩ := O.out.two
  go_wp2_with fail
  exact bodyPost_ret (v := .tuple #[.agg #[.slice A2 x.logs.length c5, .slice B3 (SM.put x.votes ⟨gi, si, ⟨p, q, z⟩⟩).length d6], .int .i64 0]) (by simp [results, Try.results21, go_sem, z0, z1]; try rfl) rfl (ap_fin S.out HE.out O1.out O2.out OW.out)
end Go.Proofs.Ytohiemdodffhoaa.SP

namespace Go.Proofs.Ytohiemdodffhoaa.SP
open Go.RowKit
open SM (Sn Sb Vo)
set_option linter.unusedVariables false

theorem rapply_any (v : Value) (x : Sb) (k g s b : Int) (t : ByteArray) (W : World) (H : StIs W v x) (F : Fit x) (ht : t.size ≤ maxLen) :
    Calls Try.prog 21 #[v, .agg #[.int .u8 k, .int .i64 g, .int .i64 s, .int .i64 b, .string t]] W (AppPost x ⟨k, g, s, b, t⟩ W) := by
  obtain ⟨A, c, B, d, rfl, hL, hV⟩ := H
  by_cases hm : SM.may x
  · by_cases hr : RM.may ⟨k, g, s, b, t⟩
    · have hk := RM.may_k hr
      simp only at hk
      rcases (show k = 1 ∨ k = 2 ∨ k = 3 by omega) with rfl | rfl | rfl
      · exact rapp_1 (fun v x W h F => rmay11_any v x W h F) A c B d x g s b t W hL hV F ht hm hr
      · exact rapp_2 (fun v x W h F => rmay11_any v x W h F) A c B d x g s b t W hL hV F ht hm hr
      · exact rapp_3 (fun v x W h F => rmay11_any v x W h F) A c B d x g s b t W hL hV F ht hm hr
    · exact rapp_bad (fun v x W h F => rmay11_any v x W h F) k A c B d x g s b t W hL hV F ht (.inr hr)
  · exact rapp_bad (fun v x W h F => rmay11_any v x W h F) k A c B d x g s b t W hL hV F ht (.inl hm)
end Go.Proofs.Ytohiemdodffhoaa.SP

namespace Go.Proofs.Ytohiemdodffhoaa.SP
open Go.RowKit
open SM (Sn Sb Vo)
set_option linter.unusedVariables false
set_option linter.unusedSimpArgs false
set_option maxRecDepth 100000

set_option maxHeartbeats 4000000 in
theorem rat_any (v : Value) (x : Sb) (g s : Int) (W : World) (H : StIs W v x) (F : Fit x) :
    Calls Try.prog 23 #[v, .int .i64 g, .int .i64 s] W fun e w' =>
      e = .returned (.tuple #[.agg #[.int .i64 (SM.atF x g s).1.p, .int .i64 (SM.atF x g s).1.b, .string (SM.atF x g s).1.v], .int .i64 (SM.atF x g s).2]) ∧ Below W.heap.size W w' := by
  obtain ⟨A, c, B, d, rfl, hL, hV⟩ := H
  obtain ⟨m0, m1, m2⟩ := rows_rd2 hL
  unfold maxLen at m2
  have hb0 : Below W.heap.size W ((W.alloc (.cells #[.slice A x.logs.length c, .slice B x.votes.length d] 25)).alloc (.cells #[.int .i64 0, .int .i64 0, .string ⟨#[]⟩] 48)) := ((Below.refl _ _).alloc (Nat.le_refl _) _).alloc (by simp) _
  have HB := Lib.hid hb0
  have X := Lib.hid ((Box.new W 25 #[.slice A x.logs.length c, .slice B x.votes.length d]).alloc (.cells #[.int .i64 0, .int .i64 0, .string ⟨#[]⟩] 48))
  have Y := Lib.hid (Box.new_at (w := W.alloc (.cells #[.slice A x.logs.length c, .slice B x.votes.length d] 25)) (t := 48) (cs := #[.int .i64 0, .int .i64 0, .string ⟨#[]⟩]) (W.heap.size + 1) (by simp))
  have HV := Lib.hid (hV.below hb0)
  have CM := Lib.hid (rmay11_any (.agg #[.slice A x.logs.length c, .slice B x.votes.length d]) x _ (show StIs _ _ x from ⟨A, c, B, d, rfl, hL.below hb0, hV.below hb0⟩) F)
  have CV := Lib.hid (fun w (h : VotesIs w B x.votes.length d x.votes) => rvote_any B x.votes.length d x.votes g s w h)
  obtain ⟨o, ho⟩ : ∃ o, o = SM.atF x g s := ⟨_, rfl⟩
  rw [← ho]
  unfold SM.atF at ho
  have HO := Lib.hid ho
  clear hL hV hb0 m0 ho
  go_enter Try.func23, Try.ntmps23
  go_upto_region 1 with (fail)
  generalize (W.alloc (.cells #[.slice A x.logs.length c, .slice B x.votes.length d] 25)).alloc (.cells #[.int .i64 0, .int .i64 0, .string ⟨#[]⟩] 48) = w1 at HB X Y HV CM ⊢
  obtain ⟨g0, hg0⟩ : ∃ g0, W.heap.size = g0 := ⟨_, rfl⟩
  rw [hg0] at X Y
  simp only [hg0]
  have HG := Lib.hid hg0
  clear hg0
  obtain ⟨x0, x1, _, _⟩ := X.out.two
  go_wp2_with fail
  refine (CM.out).mono ?_
  rintro e w2 ⟨rfl, hb⟩
  have HB2 := Lib.hid (HB.out.trans (hb.mono HB.out.size))
  replace X := Lib.hid (X.out.below hb X.out.lt)
  replace Y := Lib.hid (Y.out.below hb Y.out.lt)
  replace HV := Lib.hid (HV.out.below hb)
  clear hb x0 x1 CM
  obtain ⟨x0, x1, _, _⟩ := X.out.two
  obtain ⟨y0, y1, y2, z0, z1, z2⟩ := Y.out.three
  have hfin : ∀ a b e, Below W.heap.size W (((w2.setCell ⟨g0 + 1, 0, none⟩ a).setCell ⟨g0 + 1, 1, none⟩ b).setCell ⟨g0 + 1, 2, none⟩ e) := fun a b e => below_put3 HB2.out (by have := HG.out; omega) _ _ _
  have HFI := Lib.hid hfin
  clear hfin
  by_cases hm : SM.may x
  · rw [decide_eq_true hm]
    have HM := Lib.hid hm
    clear hm
    by_cases g1 : g < 0
    · obtain rfl : o = (SM.vz, 6) := by rw [HO.out, if_neg (by simpa using HM.out), if_pos (.inl g1)]
      go_wp2_with fail
      exact bodyPost_ret (v := .tuple #[.agg #[.int .i64 0, .int .i64 0, .string ⟨#[]⟩], .int .i64 6]) (by simp [results, Try.results23, go_sem, y0, y1, y2]; try rfl) rfl ⟨rfl, HFI.out _ _ _⟩
    by_cases g2 : (x.logs.length : Int) ≤ g
    · obtain rfl : o = (SM.vz, 6) := by rw [HO.out, if_neg (by simpa using HM.out), if_pos (.inr g2)]
      go_wp2_with fail
      exact bodyPost_ret (v := .tuple #[.agg #[.int .i64 0, .int .i64 0, .string ⟨#[]⟩], .int .i64 6]) (by simp [results, Try.results23, go_sem, y0, y1, y2]; try rfl) rfl ⟨rfl, HFI.out _ _ _⟩
    by_cases s1 : s < 1
    · obtain rfl : o = (SM.vz, 2) := by rw [HO.out, if_neg (by simpa using HM.out), if_neg (by omega), if_pos (.inl s1)]
      go_wp2_with fail
      exact bodyPost_ret (v := .tuple #[.agg #[.int .i64 0, .int .i64 0, .string ⟨#[]⟩], .int .i64 2]) (by simp [results, Try.results23, go_sem, y0, y1, y2]; try rfl) rfl ⟨rfl, HFI.out _ _ _⟩
    by_cases s2 : 200 < s
    · obtain rfl : o = (SM.vz, 2) := by rw [HO.out, if_neg (by simpa using HM.out), if_neg (by omega), if_pos (.inr s2)]
      go_wp2_with fail
      exact bodyPost_ret (v := .tuple #[.agg #[.int .i64 0, .int .i64 0, .string ⟨#[]⟩], .int .i64 2]) (by simp [results, Try.results23, go_sem, y0, y1, y2]; try rfl) rfl ⟨rfl, HFI.out _ _ _⟩
    obtain rfl : o = (SM.find x.votes g s, 0) := by rw [HO.out, if_neg (by simpa using HM.out), if_neg (by omega), if_neg (by omega)]
    clear HFI
    go_wp2_with fail
    refine (CV.out _ HV.out).mono ?_
    rintro e w3 ⟨rfl, hb⟩
    have HB3 := Lib.hid (HB2.out.trans (hb.mono HB2.out.size))
    have Y3 := Lib.hid (Y.out.below hb Y.out.lt)
    clear hb x0 x1 y0 y1 y2 z0 z1 z2
    obtain ⟨y0, y1, y2, z0, z1, z2⟩ := Y3.out.three
    go_wp2_with fail
    exact bodyPost_ret (v := .tuple #[.agg #[.int .i64 (SM.find x.votes g s).p, .int .i64 (SM.find x.votes g s).b, .string (SM.find x.votes g s).v], .int .i64 0]) (by simp [results, Try.results23, go_sem, y0, y1, y2]; try rfl) rfl ⟨rfl, below_put3 HB3.out (by have := HG.out; omega) _ _ _⟩
  · rw [decide_eq_false hm]
    obtain rfl : o = (SM.vz, 8) := by rw [HO.out, if_pos hm]
    clear hm
    go_wp2_with fail
    exact bodyPost_ret (v := .tuple #[.agg #[.int .i64 0, .int .i64 0, .string ⟨#[]⟩], .int .i64 8]) (by simp [results, Try.results23, go_sem, y0, y1, y2]; try rfl) rfl ⟨rfl, HFI.out _ _ _⟩
end Go.Proofs.Ytohiemdodffhoaa.SP

namespace Go.Proofs.Ytohiemdodffhoaa.SP
open Go.RowKit
open SM (Sn Sb Vo)
set_option linter.unusedVariables false
set_option linter.unusedSimpArgs false
set_option maxRecDepth 100000

theorem st_rows {w : World} {base n : Nat} {v : Value} (h : w.ownsRow base 32 1 v n (List.replicate n (.slice none 0 0))) : StOwn w base (.agg #[v, .slice none 0 0]) ⟨List.replicate n [], []⟩ := by
  refine ⟨v, _, List.replicate n (.slice none 0 0), rfl, by simpa using h, ⟨by simp, fun i l hi => ?_⟩, Apart.nones, World.ownsRow_nil _ _ _ _⟩
  have hil := (List.getElem?_eq_some_iff.1 hi).1
  have hin : i < n := by simpa using hil
  have hl : l = [] := List.eq_of_mem_replicate (List.mem_of_getElem? hi)
  subst hl
  exact ⟨.slice none 0 0, by simp [hin], World.ownsRow_nil _ _ _ _⟩
set_option maxHeartbeats 4000000 in
theorem rnew11_any (n : Int) (W : World) :
    Calls Try.prog 31 #[.int .i64 n] W fun e w' => ∃ v, e = .returned (.tuple #[v, .int .i64 (SM.newF n).2]) ∧ StTy w' v (SM.newF n).1 ∧ Below W.heap.size W w' := by
  obtain ⟨i1, hj, hy0, hy1, hy2⟩ := info_parts info_row
  have HB := Lib.hid (show Below W.heap.size W (W.alloc (.cells #[.slice none 0 0, .slice none 0 0] 25)) from (Below.refl _ _).alloc (Nat.le_refl _) _)
  have Y := Lib.hid (Box.new W 25 #[.slice none 0 0, .slice none 0 0])
  obtain ⟨o, ho⟩ : ∃ o, o = SM.newF n := ⟨_, rfl⟩
  rw [← ho]
  unfold SM.newF at ho
  have HO := Lib.hid ho
  clear ho
  obtain ⟨y0, y1, z0, z1⟩ := Y.out.two
  by_cases n1 : n < 1
  · obtain rfl : o = (SM.zero, 2) := by rw [HO.out, if_pos (.inl n1)]
    go_enter Try.func31, Try.ntmps31
    go_wp2_with fail
    exact bodyPost_ret (v := .tuple #[.agg #[.slice none 0 0, .slice none 0 0], .int .i64 2]) (by simp [results, Try.results31, go_sem, y0, y1]; try rfl) rfl ⟨_, rfl, ty_zero _, HB.out⟩
  by_cases n2 : 4 < n
  · obtain rfl : o = (SM.zero, 2) := by rw [HO.out, if_pos (.inr n2)]
    go_enter Try.func31, Try.ntmps31
    go_wp2_with fail
    exact bodyPost_ret (v := .tuple #[.agg #[.slice none 0 0, .slice none 0 0], .int .i64 2]) (by simp [results, Try.results31, go_sem, y0, y1]; try rfl) rfl ⟨_, rfl, ty_zero _, HB.out⟩
  obtain ⟨m, rfl⟩ : ∃ m : Nat, n = m := ⟨n.toNat, by omega⟩
  obtain rfl : o = (⟨List.replicate m [], []⟩, 0) := by rw [HO.out, if_neg (by omega)]; simp
  go_enter Try.func31, Try.ntmps31
  go_wp2_with (at_make; refine wpList_make_rd _ rfl _ _ 22 rfl 32 i1 (.slice none 0 0) Try.underlying22 hj hy0 hy1 rfl .i64 .i64 m rfl rfl (by rw [hy2]; omega) (by unfold maxLen; omega) ?_; intro A2 w2 hown hb; have Y2 := Y.out.below hb (by simp); obtain ⟨_, _, _, _⟩ := Y2.two)
  have b1 := Y2.stored 0 (.slice A2 m m)
  have b2 := b1.stored 1 (.slice none 0 0)
  have k2 : Kept isSt w2 ((w2.setCell ⟨W.heap.size, 0, none⟩ (.slice A2 m m)).setCell ⟨W.heap.size, 1, none⟩ (.slice none 0 0)) := (Kept.set (S := isSt) Y2 rfl _).trans (Kept.set (S := isSt) b1 rfl _)
  have hs := (st_rows (own_base (k2.own hown (by unfold isSt; decide)) (base' := W.heap.size) (by simp))).ty
  have s0 := b2.cell 0
  have s1 := b2.cell 1
  simp at s0 s1
  exact bodyPost_ret (v := .tuple #[.agg #[.slice A2 m m, .slice none 0 0], .int .i64 0]) (by simp [results, Try.results31, go_sem, s0, s1]; try rfl) rfl ⟨_, rfl, hs, ((bmore HB.out hb (by simp)).setCell (p := ⟨W.heap.size, 0, none⟩) (Nat.le_refl _) _).setCell (p := ⟨W.heap.size, 1, none⟩) (Nat.le_refl _) _⟩
end Go.Proofs.Ytohiemdodffhoaa.SP

namespace Go.Proofs.Ytohiemdodffhoaa
open Go.RowKit
set_option linter.unusedVariables false
set_option maxRecDepth 100000

set_option maxRecDepth 100000 in
set_option maxHeartbeats 1000000 in
theorem refGet_any (A : Option Addr) (n c : Nat) (l : List UInt8) (w : World) (hr : Rd w A n (bc l)) (hm : n ≤ maxLen) :
    Calls Try.prog 102 #[.slice A n c] w fun e w' => e = .returned (getRes (NM.dec l)) ∧ w = w' := by
  unfold maxLen at hm
  have hl : l.length = n := by have := hr.1; rwa [bc_length] at this
  have HL := Lib.hid hl; clear hl
  go_enter Try.func102, Try.ntmps102
  go_wp2
  go_loop [5, 6, 7] (fun nv uv sv => ∃ k acc U : Nat, k ≤ n ∧ k ≤ 6 ∧ sv = .int .i64 k ∧ nv = .int .i64 acc ∧ uv = .int .i64 U ∧ U = 128 ^ k ∧ acc < 128 ^ k ∧ NM.lift acc k (NM.decR (6 - k) (l.drop k)) = NM.decR 6 l) (fun _ _ s => 6 - (intOf s).toNat)
  case atStart => exact ⟨0, 0, 1, by omega, by omega, rfl, rfl, rfl, rfl, by simp, by rw [NM.lift_zero]; rfl⟩
  case round =>
    obtain ⟨k, acc, U, hk, hk6, rfl, rfl, rfl, hU, hacc, hrel⟩ := hrel
    have HR := Lib.hid hrel; clear hrel
    by_cases hlt : k < n
    · by_cases hlt6 : k < 6
      · obtain ⟨ad, u, rfl, _, hu, hcell⟩ := hr.at_ hlt
        have hkl : k < l.length := by have := HL.out; omega
        rw [bc_get l k hkl] at hu
        injection hu with hu
        subst hu
        obtain ⟨p, hp⟩ : ∃ p, p = l[k].toNat := ⟨_, rfl⟩
        have hp256 : p < 256 := by rw [hp]; exact UInt8.toNat_lt _
        rw [← hp] at hcell
        have HP := Lib.hid hp; clear hp
        obtain ⟨x, hx⟩ : ∃ x, x = p % 128 := ⟨_, rfl⟩
        have hx128 : x < 128 := by omega
        obtain ⟨y, hy⟩ : ∃ y, y = 128 ^ k * x := ⟨_, rfl⟩
        obtain ⟨z, hz⟩ : ∃ z, z = acc + 128 ^ k * x := ⟨_, rfl⟩
        have hzs : z < 4398046511104 := by rw [hz]; exact NM.acc_small acc k x hacc hx128 hlt6
        have hzy : z = acc + y := by rw [hz, hy]
        have hUb : U ≤ 34359738368 := by
          rw [hU]
          have : (128 : Nat) ^ k ≤ 128 ^ 5 := Nat.pow_le_pow_right (by omega) (by omega)
          omega
        have hxi : (p : Int) % 128 = (x : Int) := by omega
        have hb2 : wrap64 ((p : Int) % 128 * (U : Int)) = (y : Int) := by
          rw [hxi, hU, hy]
          exact NB.mul_wrap x k hx128 hlt6
        have hyb : y < 4398046511104 := Nat.lt_of_le_of_lt (by rw [hzy]; exact Nat.le_add_left _ _) hzs
        have haccb : acc < 4398046511104 := Nat.lt_of_le_of_lt (by rw [hzy]; exact Nat.le_add_right _ _) hzs
        have hsum : (acc : Int) + (y : Int) = (z : Int) := by rw [hzy]; exact (Int.natCast_add _ _).symm
        have hzl : z < 128 ^ (k + 1) := by rw [hz]; exact NM.acc_lt acc k x hacc hx128
        have hU2 : U * 128 = 128 ^ (k + 1) := by rw [hU, Nat.pow_succ]
        have HX := Lib.hid hx; clear hx
        have HXI := Lib.hid hxi; clear hxi
        have HY := Lib.hid hy; clear hy
        have HZ := Lib.hid hz; clear hz hzy
        have HZL := Lib.hid hzl; clear hzl hacc
        have HU2 := Lib.hid hU2; clear hU2
        have HU := Lib.hid hU; clear hU
        by_cases h128 : 128 ≤ p
        · go_wp2_with fail
          go_round
          case rel =>
            refine ⟨k + 1, z, U * 128, by omega, by omega, by go_num, by go_num, by go_num, HU2.out, HZL.out, ?_⟩
            have e := NM.step_more acc k l _ hkl hlt6 HR.out (by have := HP.out; omega)
            rw [← HP.out, ← HX.out, ← HZ.out] at e
            exact e
          case measure => simp [intOf]; omega
        · have hfin := NM.step_last acc k l hkl hlt6 HR.out (by have := HP.out; omega)
          rw [← HP.out, show p = x by have := HX.out; omega, ← HZ.out] at hfin
          have HFin := Lib.hid hfin; clear hfin
          have h128' : p < 128 := by omega
          by_cases hz0 : 0 < k ∧ p = 0
          · obtain ⟨hk0, hp0⟩ := hz0
            have hp0' : ((p : Int) == 0) = true := by simp [hp0]
            have HX0 : x = 0 := by have := HX.out; omega
            have HXH := Lib.hid HX0; clear HX0
            have HP0 := Lib.hid hp0; clear hp0
            go_wp2_with fail
            go_ret3
            refine ⟨?_, rfl⟩
            rw [HFin.out, if_pos (Or.inl ⟨hk0, HXH.out⟩)]; rfl
          · have hsplit : k = 0 ∨ (0 < k ∧ ¬ p = 0) := by omega
            have hxk : ¬ (0 < k ∧ x = 0) := by have := HX.out; omega
            have HXK := Lib.hid hxk; clear hxk hz0
            by_cases hbig : 1099511627776 < z
            · rcases hsplit with hk00 | ⟨hk0, hp0⟩
              · have hk0 : k ≤ 0 := by omega
                clear hk00
                go_wp2_with (go_at_call 113; refine (refIn_no _ _ (by omega)).mono ?_; rintro e w' ⟨rfl, rfl⟩)
                go_ret3
                refine ⟨?_, rfl⟩
                rw [HFin.out, if_pos (Or.inr hbig)]; rfl
              · have hp0' : ((p : Int) == 0) = false := by simp [hp0]
                go_wp2_with (go_at_call 113; refine (refIn_no _ _ (by omega)).mono ?_; rintro e w' ⟨rfl, rfl⟩)
                go_ret3
                refine ⟨?_, rfl⟩
                rw [HFin.out, if_pos (Or.inr hbig)]; rfl
            · rcases hsplit with hk00 | ⟨hk0, hp0⟩
              · have hk0 : k ≤ 0 := by omega
                clear hk00
                go_wp2_with (go_at_call 113; refine (refIn_yes _ _ (by omega)).mono ?_; rintro e w' ⟨rfl, rfl⟩)
                go_ret3
                refine ⟨?_, rfl⟩
                rw [HFin.out, if_neg (by have := HXK.out; omega)]; rfl
              · have hp0' : ((p : Int) == 0) = false := by simp [hp0]
                go_wp2_with (go_at_call 113; refine (refIn_yes _ _ (by omega)).mono ?_; rintro e w' ⟨rfl, rfl⟩)
                go_ret3
                refine ⟨?_, rfl⟩
                rw [HFin.out, if_neg (by have := HXK.out; omega)]; rfl
      · have hfin := NM.step_end acc k l (by omega) hk6 HR.out
        have HFin := Lib.hid hfin; clear hfin hU hacc
        go_wp2
        go_ret3
        refine ⟨?_, rfl⟩
        rw [HFin.out]; rfl
    · have hfin := NM.step_end acc k l (by have := HL.out; omega) hk6 HR.out
      have HFin := Lib.hid hfin; clear hfin hU hacc
      go_wp2
      go_ret3
      refine ⟨?_, rfl⟩
      rw [HFin.out]; rfl
end Go.Proofs.Ytohiemdodffhoaa

namespace Go.Proofs.Ytohiemdodffhoaa
open Go.RowKit
set_option linter.unusedVariables false
set_option maxRecDepth 100000

set_option maxHeartbeats 1000000 in
theorem refGetText_any (A : Option Addr) (n c : Nat) (l : List UInt8) (w : World) (hr : Rd w A n (bc l)) (hnc : n ≤ c) (hm : c ≤ maxLen) :
    Calls Try.prog 103 #[.slice A n c] w fun e w' => e = .returned (textRes (NM.getText l)) ∧ w = w' := by
  have hg := refGet_any A n c l w hr (Nat.le_trans hnc hm)
  unfold maxLen at hm
  have hl : l.length = n := by have := hr.1; rwa [bc_length] at this
  have HL := Lib.hid hl; clear hl
  rcases hd : NM.dec l with _ | ⟨x, k⟩
  · rw [hd] at hg
    have hfin : NM.getText l = none := by unfold NM.getText; rw [hd]
    have HF := Lib.hid hfin; clear hfin hd
    have HG := Lib.hid hg; clear hg
    go_enter Try.func103, Try.ntmps103
    go_wp2_with (go_at_call 102; refine (HG.out).mono ?_; rintro e w' ⟨rfl, rfl⟩; unfold getRes)
    go_ret3
    rw [HF.out]
    exact ⟨rfl, rfl⟩
  · have hb := NM.dec_bound l x k hd
    rw [hd] at hg
    obtain ⟨hx, hk1, hkl, hk6, _⟩ := hb
    rw [HL.out] at hkl
    have hfin : NM.getText l = if x ≤ 4096 ∧ x ≤ n - k then some ((l.drop k).take x, k + x) else none := by unfold NM.getText; rw [hd]; simp only [HL.out]
    have HF := Lib.hid hfin; clear hfin hd
    have HG := Lib.hid hg; clear hg
    by_cases h1 : x ≤ 4096
    · by_cases h2 : x ≤ n - k
      · have hkx : k + x ≤ n := by omega
        have hc1 : ∀ cap, (convert 94 9 (.slice (Option.map (fun x => x.add k) A) x cap)).run Try.prog w = .ok (.string ⟨((l.drop k).take x).toArray⟩) w := fun cap =>
          run_string_of w _ _ 5 _ _ cap ((l.drop k).take x) Try.underlying94 Try.underlying5 Try.underlying9 (by rw [← bc_take, ← bc_drop]; exact hr.mid hkx)
        obtain ⟨t, ht⟩ : ∃ t, t = (l.drop k).take x := ⟨_, rfl⟩
        rw [← ht] at hc1
        have HT := Lib.hid ht; clear ht
        have HR := Lib.hid hr; clear hr
        by_cases hck : c = k
        · obtain rfl : x = 0 := by omega
          have hc2 : ∀ cap, (convert 94 9 (.slice A 0 cap)).run Try.prog w = .ok (.string ⟨t.toArray⟩) w := fun cap =>
            run_string_of w _ _ 5 _ _ cap t Try.underlying94 Try.underlying5 Try.underlying9 (by rw [HT.out]; simpa [bc] using Rd.nil)
          subst hck
          go_enter Try.func103, Try.ntmps103
          go_wp2_with (go_at_call 102; refine (HG.out).mono ?_; rintro e w' ⟨rfl, rfl⟩; unfold getRes)
          go_ret3
          rw [HF.out, if_pos (by omega), HT.out]
          exact ⟨rfl, rfl⟩
        · go_enter Try.func103, Try.ntmps103
          go_wp2_with (go_at_call 102; refine (HG.out).mono ?_; rintro e w' ⟨rfl, rfl⟩; unfold getRes)
          go_ret3
          rw [HF.out, if_pos (by omega), HT.out]
          exact ⟨rfl, rfl⟩
      · have h2' : (n : Int) - k < x := by omega
        go_enter Try.func103, Try.ntmps103
        go_wp2_with (go_at_call 102; refine (HG.out).mono ?_; rintro e w' ⟨rfl, rfl⟩; unfold getRes)
        go_ret3
        rw [HF.out, if_neg (by omega)]
        exact ⟨rfl, rfl⟩
    · go_enter Try.func103, Try.ntmps103
      go_wp2_with (go_at_call 102; refine (HG.out).mono ?_; rintro e w' ⟨rfl, rfl⟩; unfold getRes)
      go_ret3
      rw [HF.out, if_neg (by omega)]
      exact ⟨rfl, rfl⟩
end Go.Proofs.Ytohiemdodffhoaa

namespace Go.Proofs.Ytohiemdodffhoaa
open Go.RowKit
set_option linter.unusedVariables false
set_option linter.unusedSimpArgs false

/-- a reader in memory: what is left, or nothing once something was wrong -/
def RdrAt (w : World) (g : Nat) (o : Option (List UInt8)) : Prop :=
  ∃ A n c l b, Box w g 116 #[.slice A n c, .bool b] ∧ Src w g A n c l ∧ ((b = false ∧ o = some l) ∨ (b = true ∧ o = none))
theorem RdrAt.below {w w' : World} {g B : Nat} {o : Option (List UInt8)} (h : RdrAt w g o) (hb : Below B w w') (hg : g < B) : RdrAt w' g o := by
  obtain ⟨A, n, c, l, b, h1, h2, h3⟩ := h
  exact ⟨A, n, c, l, b, h1.below hb hg, h2.below (hb.mono (Nat.le_of_lt hg)), h3⟩
theorem RdrAt.far {w : World} {g : Nat} {o : Option (List UInt8)} (h : RdrAt w g o) {p : Addr} (hp : g < p.block) (u : Value) : RdrAt (w.setCell p u) g o := by
  obtain ⟨A, n, c, l, b, h1, h2, h3⟩ := h
  exact ⟨A, n, c, l, b, h1.far (by omega) u, h2.below ((Below.refl _ _).setCell (Nat.le_of_lt hp) u), h3⟩
theorem rdr_bad {w : World} {g : Nat} {A : Option Addr} {n c : Nat} {l : List UInt8} {b : Bool} (h : Box w g 116 #[.slice A n c, .bool b]) (hs : Src w g A n c l) : RdrAt (w.setCell ⟨g, 1, none⟩ (.bool true)) g none := by
  refine ⟨A, n, c, l, true, ?_, hs.below ((Below.refl g w).setCell (p := ⟨g, 1, none⟩) (Nat.le_refl g) _), .inr ⟨rfl, rfl⟩⟩
  have := h.stored 1 (.bool true)
  simpa using this
theorem rdr_ok {w : World} {g : Nat} {v : Value} {A : Option Addr} {n c : Nat} {l : List UInt8} (h : Box w g 116 #[v, .bool false]) (hs : Src w g A n c l) : RdrAt (w.setCell ⟨g, 0, none⟩ (.slice A n c)) g (some l) := by
  refine ⟨A, n, c, l, false, ?_, hs.below ((Below.refl g w).setCell (p := ⟨g, 0, none⟩) (Nat.le_refl g) _), .inl ⟨rfl, rfl⟩⟩
  have := h.stored 0 (.slice A n c)
  simpa using this
/-- what a number's reading leaves: its own block alone is changed -/
def RdrPost (v : Value) (o : Option (List UInt8)) (g : Nat) (w : World) (e : Ending) (w' : World) : Prop := e = .returned v ∧ RdrAt w' g o ∧ ∃ i u, w' = w.setCell ⟨g, i, none⟩ u

set_option maxRecDepth 100000 in
set_option maxHeartbeats 4000000 in
theorem rNumber_any (g hi : Nat) (o : Option (List UInt8)) (w : World) (h : RdrAt w g o) (hh : hi ≤ 1099511627776) :
    Calls Try.prog 81 #[.pointer (some ⟨g, 0, none⟩), .int .i64 hi] w (RdrPost (.int .i64 (RM.nv hi o)) (RM.nx hi o) g w) := by
  obtain ⟨A, n, c, l, b, bx, hs, ho⟩ := h
  have hl := src_len hs
  have hn := hs.2.1
  have hc := hs.2.2.1
  have G := Lib.hid (refGet_any A n c l w hs.1 (by omega))
  have c0 := bx.cell 0
  have c1 := bx.cell 1
  have f0 := bx.frozen 0
  have f1 := bx.frozen 1
  simp at c0 c1
  unfold maxLen at hc
  have BX := Lib.hid bx
  have HS := Lib.hid hs
  rcases hd : NM.dec l with _ | ⟨x, k⟩
  · have HD := Lib.hid (show RM.nv hi o = 0 ∧ RM.nx hi o = none by
      rcases ho with ⟨_, rfl⟩ | ⟨_, rfl⟩
      · simp [RM.nv, RM.nx, RM.num, hd]
      · exact ⟨rfl, rfl⟩)
    rw [hd] at G
    clear hs bx hd hl ho
    go_enter Try.func81, Try.ntmps81
    go_wp2_with fail
    refine (G.out).mono ?_
    rintro e w1 ⟨rfl, rfl⟩
    unfold getRes
    go_wp2_with fail
    go_ret
    refine ⟨by rw [HD.out.1]; rfl, ?_, 1, _, rfl⟩
    rw [HD.out.2]
    exact rdr_bad BX.out HS.out
  · have hk := (NM.dec_bound l x k hd).2.2.1
    have hx := (NM.dec_bound l x k hd).1
    rw [hl] at hk
    by_cases hxh : x ≤ hi
    · cases b
      · have HD := Lib.hid (show RM.nv hi o = x ∧ RM.nx hi o = some (l.drop k) by
          rcases ho with ⟨_, rfl⟩ | ⟨h, _⟩
          · simp [RM.nv, RM.nx, RM.num, hd, hxh]
          · cases h)
        have S := Lib.hid (hs.cut hk)
        rw [hd] at G
        clear hs bx hd hl ho HS
        by_cases hck : c = k
        · rw [if_pos hck] at S
          subst hck
          rw [Nat.sub_self, show n - c = 0 by omega] at S
          go_enter Try.func81, Try.ntmps81
          go_wp2_with fail
          refine (G.out).mono ?_
          rintro e w1 ⟨rfl, rfl⟩
          unfold getRes
          go_wp2_with fail
          go_ret
          refine ⟨by rw [HD.out.1]; rfl, ?_, 0, _, rfl⟩
          rw [HD.out.2]
          exact rdr_ok BX.out S.out
        · rw [if_neg hck] at S
          go_enter Try.func81, Try.ntmps81
          go_wp2_with fail
          refine (G.out).mono ?_
          rintro e w1 ⟨rfl, rfl⟩
          unfold getRes
          go_wp2_with fail
          go_ret
          refine ⟨by rw [HD.out.1]; rfl, ?_, 0, _, rfl⟩
          rw [HD.out.2]
          exact rdr_ok BX.out S.out
      · have HD := Lib.hid (show RM.nv hi o = 0 ∧ RM.nx hi o = none by
          rcases ho with ⟨h, _⟩ | ⟨_, rfl⟩
          · cases h
          · exact ⟨rfl, rfl⟩)
        rw [hd] at G
        clear hs bx hd hl ho
        go_enter Try.func81, Try.ntmps81
        go_wp2_with fail
        refine (G.out).mono ?_
        rintro e w1 ⟨rfl, rfl⟩
        unfold getRes
        go_wp2_with fail
        go_ret
        refine ⟨by rw [HD.out.1]; rfl, ?_, 1, _, rfl⟩
        rw [HD.out.2]
        exact rdr_bad BX.out HS.out
    · have HD := Lib.hid (show RM.nv hi o = 0 ∧ RM.nx hi o = none by
        rcases ho with ⟨_, rfl⟩ | ⟨_, rfl⟩
        · simp [RM.nv, RM.nx, RM.num, hd, hxh]
        · exact ⟨rfl, rfl⟩)
      have hxh2 : hi < x := by omega
      rw [hd] at G
      clear hs bx hd hl ho hxh
      go_enter Try.func81, Try.ntmps81
      go_wp2_with fail
      refine (G.out).mono ?_
      rintro e w1 ⟨rfl, rfl⟩
      unfold getRes
      go_wp2_with fail
      go_ret
      refine ⟨by rw [HD.out.1]; rfl, ?_, 1, _, rfl⟩
      rw [HD.out.2]
      exact rdr_bad BX.out HS.out

set_option maxRecDepth 100000 in
set_option maxHeartbeats 4000000 in
theorem rText_any (g hi : Nat) (o : Option (List UInt8)) (w : World) (h : RdrAt w g o) (hh : hi ≤ 1099511627776) :
    Calls Try.prog 82 #[.pointer (some ⟨g, 0, none⟩), .int .i64 hi] w (RdrPost (.string ⟨(RM.tv hi o).toArray⟩) (RM.tx hi o) g w) := by
  obtain ⟨A, n, c, l, b, bx, hs, ho⟩ := h
  have hl := src_len hs
  have hn := hs.2.1
  have hc := hs.2.2.1
  have G := Lib.hid (refGetText_any A n c l w hs.1 hs.2.1 hs.2.2.1)
  have c0 := bx.cell 0
  have c1 := bx.cell 1
  have f0 := bx.frozen 0
  have f1 := bx.frozen 1
  simp at c0 c1
  unfold maxLen at hc
  have BX := Lib.hid bx
  have HS := Lib.hid hs
  rcases hd : NM.getText l with _ | ⟨t, k⟩
  · have HD := Lib.hid (show RM.tv hi o = [] ∧ RM.tx hi o = none by
      rcases ho with ⟨_, rfl⟩ | ⟨_, rfl⟩
      · simp [RM.tv, RM.tx, RM.txt, hd]
      · exact ⟨rfl, rfl⟩)
    rw [hd] at G
    clear hs bx hd hl ho
    go_enter Try.func82, Try.ntmps82
    go_wp2_with fail
    refine (G.out).mono ?_
    rintro e w1 ⟨rfl, rfl⟩
    unfold textRes
    go_wp2_with fail
    go_ret
    refine ⟨by rw [HD.out.1]; rfl, ?_, 1, _, rfl⟩
    rw [HD.out.2]
    exact rdr_bad BX.out HS.out
  · have hk := (NM.text_getText l t k hd).2.1
    have hx := (NM.text_getText l t k hd).1
    rw [hl] at hk
    obtain ⟨v, hv, hvs⟩ : ∃ v : ByteArray, v = ⟨t.toArray⟩ ∧ v.size = t.length := ⟨_, rfl, by show t.toArray.size = _; simp⟩
    have HV := Lib.hid hv
    have G2 : Hid (Calls Try.prog 103 #[.slice A n c] w fun e w' => e = .returned (.tuple #[.string v, .int .i64 k, .int .i64 0]) ∧ w = w') := by
      rw [hd] at G; rw [hv]; exact G
    clear hv G
    by_cases hxh : v.size ≤ hi
    · cases b
      · have HD := Lib.hid (show RM.tv hi o = t ∧ RM.tx hi o = some (l.drop k) by
          rcases ho with ⟨_, rfl⟩ | ⟨h, _⟩
          · simp [RM.tv, RM.tx, RM.txt, hd, show t.length ≤ hi by omega]
          · cases h)
        have S := Lib.hid (hs.cut hk)
        clear hs bx hd hl ho HS hvs
        by_cases hck : c = k
        · rw [if_pos hck] at S
          subst hck
          rw [Nat.sub_self, show n - c = 0 by omega] at S
          go_enter Try.func82, Try.ntmps82
          go_wp2_with fail
          refine (G2.out).mono ?_
          rintro e w1 ⟨rfl, rfl⟩
          go_wp2_with fail
          go_ret
          refine ⟨by rw [HD.out.1, ← HV.out]; rfl, ?_, 0, _, rfl⟩
          rw [HD.out.2]
          exact rdr_ok BX.out S.out
        · rw [if_neg hck] at S
          go_enter Try.func82, Try.ntmps82
          go_wp2_with fail
          refine (G2.out).mono ?_
          rintro e w1 ⟨rfl, rfl⟩
          go_wp2_with fail
          go_ret
          refine ⟨by rw [HD.out.1, ← HV.out]; rfl, ?_, 0, _, rfl⟩
          rw [HD.out.2]
          exact rdr_ok BX.out S.out
      · have HD := Lib.hid (show RM.tv hi o = [] ∧ RM.tx hi o = none by
          rcases ho with ⟨h, _⟩ | ⟨_, rfl⟩
          · cases h
          · exact ⟨rfl, rfl⟩)
        clear hs bx hd hl ho hvs
        go_enter Try.func82, Try.ntmps82
        go_wp2_with fail
        refine (G2.out).mono ?_
        rintro e w1 ⟨rfl, rfl⟩
        go_wp2_with fail
        go_ret
        refine ⟨by rw [HD.out.1]; rfl, ?_, 1, _, rfl⟩
        rw [HD.out.2]
        exact rdr_bad BX.out HS.out
    · have HD := Lib.hid (show RM.tv hi o = [] ∧ RM.tx hi o = none by
        rcases ho with ⟨_, rfl⟩ | ⟨_, rfl⟩
        · simp [RM.tv, RM.tx, RM.txt, hd, show ¬ t.length ≤ hi by omega]
        · exact ⟨rfl, rfl⟩)
      have hxh2 : hi < v.size := by omega
      clear hs bx hd hl ho hxh hvs
      go_enter Try.func82, Try.ntmps82
      go_wp2_with fail
      refine (G2.out).mono ?_
      rintro e w1 ⟨rfl, rfl⟩
      go_wp2_with fail
      go_ret
      refine ⟨by rw [HD.out.1]; rfl, ?_, 1, _, rfl⟩
      rw [HD.out.2]
      exact rdr_bad BX.out HS.out

theorem rDone_any (g : Nat) (o : Option (List UInt8)) (w : World) (h : RdrAt w g o) :
    Calls Try.prog 83 #[.pointer (some ⟨g, 0, none⟩)] w fun e w' => e = .returned (.bool (decide (o = some []))) ∧ w = w' := by
  obtain ⟨A, n, c, l, b, bx, hs, ho⟩ := h
  have hl := src_len hs
  have c0 := bx.cell 0
  have c1 := bx.cell 1
  simp at c0 c1
  have hn := hs.2.1
  have hc := hs.2.2.1
  unfold maxLen at hc
  clear bx hs
  cases b
  · obtain rfl : o = some l := ho.elim (fun h => h.2) (fun h => by cases h.1)
    have HO := Lib.hid (show decide (some l = some []) = decide ((n : Int) = 0) by
      rw [Bool.eq_iff_iff, decide_eq_true_iff, decide_eq_true_iff, Option.some.injEq, ← hl, ← List.length_eq_zero_iff]; omega)
    clear ho hl
    go_enter Try.func83, Try.ntmps83
    go_wp2_with fail
    go_ret
    rw [HO.out]
    exact ⟨rfl, rfl⟩
  · obtain rfl : o = none := ho.elim (fun h => by cases h.1) (fun h => h.2)
    clear ho
    go_enter Try.func83, Try.ntmps83
    go_wp2_with fail
    go_ret
    exact ⟨rfl, rfl⟩
end Go.Proofs.Ytohiemdodffhoaa

namespace Go.Proofs.Ytohiemdodffhoaa.RP
open Go.RowKit
set_option linter.unusedVariables false
set_option linter.unusedSimpArgs false

theorem nv_le (hi : Nat) (o : Option (List UInt8)) : RM.nv hi o ≤ hi := by
  rcases o with _ | l
  · simp [RM.nv]
  · rcases h : RM.num hi l with _ | ⟨n, r⟩
    · simp [RM.nv, h]
    · simp [RM.nv, h]; exact (RM.enc_num h).1
theorem tv_le (hi : Nat) (o : Option (List UInt8)) : (RM.tv hi o).length ≤ hi := by
  rcases o with _ | l
  · simp [RM.tv]
  · rcases h : RM.txt hi l with _ | ⟨n, r⟩
    · simp [RM.tv, h]
    · simp [RM.tv, h]; exact (RM.text_txt h).1
theorem rbox5 {w : World} {g : Nat} {t : TypeId} {a b c d f : Value} (h : Box w g t #[a, b, c, d, f]) :
    (w.cell? ⟨g, 0, none⟩ = some a ∧ w.cell? ⟨g, 1, none⟩ = some b ∧ w.cell? ⟨g, 2, none⟩ = some c ∧ w.cell? ⟨g, 3, none⟩ = some d ∧ w.cell? ⟨g, 4, none⟩ = some f) ∧
    w.frozen? ⟨g, 0, none⟩ = false ∧ w.frozen? ⟨g, 1, none⟩ = false ∧ w.frozen? ⟨g, 2, none⟩ = false ∧ w.frozen? ⟨g, 3, none⟩ = false ∧ w.frozen? ⟨g, 4, none⟩ = false :=
  ⟨⟨h.cell 0, h.cell 1, h.cell 2, h.cell 3, h.cell 4⟩, h.frozen 0, h.frozen 1, h.frozen 2, h.frozen 3, h.frozen 4⟩
theorem rbelow_put5 {B g : Nat} {a w : World} (h : Below B a w) (hg : B ≤ g) (x y z u v : Value) : Below B a (((((w.setCell ⟨g, 0, none⟩ x).setCell ⟨g, 1, none⟩ y).setCell ⟨g, 2, none⟩ z).setCell ⟨g, 3, none⟩ u).setCell ⟨g, 4, none⟩ v) :=
  ((((h.setCell (p := ⟨g, 0, none⟩) hg x).setCell (p := ⟨g, 1, none⟩) hg y).setCell (p := ⟨g, 2, none⟩) hg z).setCell (p := ⟨g, 3, none⟩) hg u).setCell (p := ⟨g, 4, none⟩) hg v
/-- Read's variables: the answer, the reader -/
def RS (w0 w : World) (g : Nat) (o : Option (List UInt8)) : Prop :=
  Box w w0.heap.size 29 #[.int .u8 0, .int .i64 0, .int .i64 0, .int .i64 0, .string ⟨#[]⟩] ∧ RdrAt w g o ∧ w0.heap.size < g ∧ g < w.heap.size ∧ Below w0.heap.size w0 w
/-- .. and the record -/
def RT (w0 w : World) (g h : Nat) (o : Option (List UInt8)) (R : Array Value) : Prop := RS w0 w g o ∧ Box w h 29 R ∧ g < h
theorem heap_set (w : World) (p : Addr) (u : Value) : (w.setCell p u).heap.size = w.heap.size := by simp
theorem RS.num {w0 w w' : World} {g : Nat} {o o' : Option (List UInt8)} (h : RS w0 w g o) (k : RdrAt w' g o' ∧ ∃ i u, w' = w.setCell ⟨g, i, none⟩ u) : RS w0 w' g o' := by
  obtain ⟨h1, _, h3, h4, h5⟩ := h
  obtain ⟨k1, i, u, rfl⟩ := k
  exact ⟨h1.far (p := ⟨g, i, none⟩) (by simp; omega) u, k1, h3, by rw [heap_set]; exact h4, h5.setCell (p := ⟨g, i, none⟩) (Nat.le_of_lt h3) u⟩
theorem RS.alloc {w0 w : World} {g : Nat} {o : Option (List UInt8)} (h : RS w0 w g o) (R : Array Value) : RT w0 (w.alloc (.cells R 29)) g w.heap.size o R := by
  obtain ⟨h1, h2, h3, h4, h5⟩ := h
  have hb : Below w.heap.size w (w.alloc (.cells R 29)) := (Below.refl _ _).alloc (Nat.le_refl _) _
  exact ⟨⟨h1.alloc _, h2.below hb h4, h3, by simp; omega, bmore h5 hb (Nat.le_refl _)⟩, Box.new _ _ _, h4⟩
theorem RT.num {w0 w w' : World} {g h : Nat} {o o' : Option (List UInt8)} {R : Array Value} (H : RT w0 w g h o R) (k : RdrAt w' g o' ∧ ∃ i u, w' = w.setCell ⟨g, i, none⟩ u) : RT w0 w' g h o' R := by
  refine ⟨H.1.num k, ?_, H.2.2⟩
  obtain ⟨_, i, u, rfl⟩ := k
  exact H.2.1.far (p := ⟨g, i, none⟩) (by have := H.2.2; simp; omega) u
theorem RT.put {w0 w : World} {g h : Nat} {o : Option (List UInt8)} {R : Array Value} (H : RT w0 w g h o R) (i : Nat) (v : Value) : RT w0 (w.setCell ⟨h, i, none⟩ v) g h o (R.setIfInBounds i v) := by
  obtain ⟨⟨h1, h2, h3, h4, h5⟩, h6, h7⟩ := H
  exact ⟨⟨h1.far (p := ⟨h, i, none⟩) (by simp; omega) v, h2.far (p := ⟨h, i, none⟩) h7 v, h3, by rw [heap_set]; exact h4, h5.setCell (p := ⟨h, i, none⟩) (by simp; omega) v⟩, h6.stored i v, h7⟩
theorem rs_new {w0 w : World} {A : Option Addr} {n c : Nat} {l : List UInt8} (h : Box w w0.heap.size 29 #[.int .u8 0, .int .i64 0, .int .i64 0, .int .i64 0, .string ⟨#[]⟩]) (hb : Below w0.heap.size w0 w) (hr : Rd w A n (bc l)) (h1 : n ≤ c) (h2 : c ≤ maxLen) :
    RS w0 (w.alloc (.cells #[.slice A n c, .bool false] 116)) w.heap.size (some l) := by
  have hB : Below w.heap.size w (w.alloc (.cells #[.slice A n c, .bool false] 116)) := (Below.refl _ _).alloc (Nat.le_refl _) _
  exact ⟨h.alloc _, ⟨A, n, c, l, false, Box.new _ _ _, (src_new hr h1 h2).below hB, .inl ⟨rfl, rfl⟩⟩, h.lt, by simp, bmore hb hB (Nat.le_refl _)⟩

set_option maxRecDepth 100000 in
set_option maxHeartbeats 4000000 in
theorem rread_3 {r : RM.Rc} {e : Int} (s : ByteArray) (l : List UInt8) (hl : RM.bsz s = l) (hk : RM.kk l = 3) (h : RM.ReadIs l r e) (hs : s.size ≤ maxLen) (w : World) :
    Calls Try.prog 58 #[.string s] w (RcAns r e w) := by
  have h4 : RM.o4 l = RM.o3 l ∧ RM.bb l = 0 := by unfold RM.o4 RM.bb; rw [hk]; simp
  have h5 : RM.o5 l = RM.tx 1024 (RM.o4 l) ∧ RM.vv l = RM.tv 1024 (RM.o4 l) := by unfold RM.o5 RM.vv; rw [hk]; simp
  have hout : RM.out l = ⟨3, RM.gg l, RM.ss l, 0, ⟨(RM.vv l).toArray⟩⟩ := by unfold RM.out; rw [hk, h4.2] <;> rfl
  have lv : (RM.vv l).length ≤ 1024 := by rw [h5.2]; exact tv_le _ _
  have N1 := Lib.hid (fun g w (h : RdrAt w g (some l)) => (show Calls Try.prog 81 #[.pointer (some ⟨g, 0, none⟩), .int .i64 3] w (RdrPost (.int .i64 3) (RM.o1 l) g w) from (by have := rNumber_any g 3 (some l) w h (by omega); rw [show RM.nv 3 (some l) = 3 from hk] at this; exact this)))
  have N2 := Lib.hid (fun g w (h : RdrAt w g (RM.o1 l)) => (show Calls Try.prog 81 #[.pointer (some ⟨g, 0, none⟩), .int .i64 3] w (RdrPost (.int .i64 (RM.gg l)) (RM.o2 l) g w) from rNumber_any g 3 (RM.o1 l) w h (by omega)))
  have N3 := Lib.hid (fun g w (h : RdrAt w g (RM.o2 l)) => (show Calls Try.prog 81 #[.pointer (some ⟨g, 0, none⟩), .int .i64 200] w (RdrPost (.int .i64 (RM.ss l)) (RM.o3 l) g w) from rNumber_any g 200 (RM.o2 l) w h (by omega)))
  have E4 := Lib.hid h4.1
  have N5 := Lib.hid (fun g w (h : RdrAt w g (RM.o4 l)) => (show Calls Try.prog 82 #[.pointer (some ⟨g, 0, none⟩), .int .i64 1024] w (RdrPost (.string ⟨(RM.vv l).toArray⟩) (RM.o5 l) g w) from (by rw [h5.1, h5.2]; exact rText_any g 1024 (RM.o4 l) w h (by omega))))
  have ND := Lib.hid (fun g w (h : RdrAt w g (RM.o5 l)) => rDone_any g (RM.o5 l) w h)
  have CM := Lib.hid (fun w => rmay_any 3 (RM.gg l) (RM.ss l) 0 ⟨(RM.vv l).toArray⟩ w (by show Array.size _ ≤ _; unfold maxLen; simp; omega))
  have HB := Lib.hid (show Below w.heap.size w (w.alloc (.cells #[.int .u8 0, .int .i64 0, .int .i64 0, .int .i64 0, .string ⟨#[]⟩] 29)) from (Below.refl _ _).alloc (Nat.le_refl _) _)
  have R := Lib.hid (Box.new w 29 #[.int .u8 0, .int .i64 0, .int .i64 0, .int .i64 0, .string ⟨#[]⟩])
  obtain ⟨A, c, w1, hcv, hR, hc1, hc2, hb1⟩ := conv_ex (w.alloc (.cells #[.int .u8 0, .int .i64 0, .int .i64 0, .int .i64 0, .string ⟨#[]⟩] 29)) s hs
  rw [hl] at hR
  have S := Lib.hid (rs_new (R.out.below hb1 R.out.lt) (bmore HB.out hb1 (by simp)) hR hc1 hc2)
  have HO := Lib.hid hout
  have H := Lib.hid h
  clear h4 h5 hout lv HB R hR hb1 h hk
  go_enter Try.func58, Try.ntmps58
  go_upto_region 2 with (fail)
  generalize w1.alloc (.cells #[.slice A s.size c, .bool false] 116) = w2 at S ⊢
  generalize w1.heap.size = g at S ⊢
  go_wp2_with fail
  refine (N1.out g w2 S.out.2.1).mono ?_
  rintro e1 w3 ⟨rfl, hn⟩
  replace S := Lib.hid (S.out.num hn); clear hn N1
  go_wp2_with fail
  refine (N2.out g w3 S.out.2.1).mono ?_
  rintro e1 w4 ⟨rfl, hn⟩
  replace S := Lib.hid (S.out.num hn); clear hn N2
  go_wp2_with fail
  refine (N3.out g w4 S.out.2.1).mono ?_
  rintro e1 w5 ⟨rfl, hn⟩
  replace S := Lib.hid (S.out.num hn); clear hn N3
  go_upto_region 6 with (fail)
  replace S := Lib.hid (S.out.alloc #[.int .u8 3, .int .i64 (RM.gg l), .int .i64 (RM.ss l), .int .i64 0, .string ⟨#[]⟩])
  generalize w5.alloc (.cells #[.int .u8 3, .int .i64 (RM.gg l), .int .i64 (RM.ss l), .int .i64 0, .string ⟨#[]⟩] 29) = w6 at S ⊢
  generalize w5.heap.size = h at S ⊢
  obtain ⟨⟨c0, c1, c2, c3, c4⟩, f0, f1, f2, f3, f4⟩ := rbox5 S.out.2.1
  rw [← E4.out] at S
  go_wp2_with fail
  clear c0 c1 c2 c3 c4 f0 f1 f2 f3 f4
  refine (N5.out g w6 S.out.1.2.1).mono ?_
  rintro e1 w7 ⟨rfl, hn⟩
  replace S := Lib.hid (S.out.num hn); clear hn N5
  obtain ⟨⟨c0, c1, c2, c3, c4⟩, f0, f1, f2, f3, f4⟩ := rbox5 S.out.2.1
  go_upto_region 10 with (fail)
  clear c0 c1 c2 c3 c4 f0 f1 f2 f3 f4
  replace S := Lib.hid (show RT w _ g h (RM.o5 l) #[.int .u8 3, .int .i64 (RM.gg l), .int .i64 (RM.ss l), .int .i64 0, .string ⟨(RM.vv l).toArray⟩] from S.out.put 4 (.string ⟨(RM.vv l).toArray⟩))
  generalize w7.setCell ⟨h, 4, none⟩ _ = w6 at S ⊢
  obtain ⟨⟨c0, c1, c2, c3, c4⟩, f0, f1, f2, f3, f4⟩ := rbox5 S.out.2.1
  obtain ⟨⟨d0, d1, d2, d3, d4⟩, g0, g1, g2, g3, g4⟩ := rbox5 S.out.1.1
  have HB := Lib.hid S.out.1.2.2.2.2
  go_wp2_with fail
  refine (ND.out g w6 S.out.1.2.1).mono ?_
  rintro e1 w7 ⟨rfl, rfl⟩
  clear f0 f1 f2 f3 f4
  by_cases hd : RM.o5 l = some []
  · rw [decide_eq_true hd]
    have HD := Lib.hid hd
    clear hd
    go_wp2_with fail
    refine (CM.out _).mono ?_
    rintro e1 w8 ⟨x, hx, rfl, hb⟩
    have HX := Lib.hid hx
    have HB8 := Lib.hid (bmore HB.out hb (Nat.le_refl _))
    obtain ⟨⟨d0, d1, d2, d3, d4⟩, g0, g1, g2, g3, g4⟩ := rbox5 (S.out.1.1.below hb S.out.1.1.lt)
    obtain ⟨⟨c0, c1, c2, c3, c4⟩, f0, f1, f2, f3, f4⟩ := rbox5 (S.out.2.1.below hb S.out.2.1.lt)
    have hwh : w.heap.size ≠ h := by have h1 := S.out.2.2; have h2 := S.out.1.2.2.1; omega
    clear hb hx S
    cases x
    · obtain ⟨rfl, rfl⟩ := RM.readIs_eq H.out (RM.readIs_chain l RM.zero 8 (.inr ⟨fun h => (by have := HX.out.2 (by rw [← HO.out]; exact h.2); cases this), rfl, rfl⟩))
      go_wp2_with fail
      exact bodyPost_ret (v := .tuple #[.agg #[.int .u8 0, .int .i64 0, .int .i64 0, .int .i64 0, .string ⟨#[]⟩], .int .i64 8]) (by simp [results, Try.results58, go_sem, d0, d1, d2, d3, d4]; try rfl) rfl ⟨rfl, rbelow_put5 HB8.out (Nat.le_refl _) _ _ _ _ _⟩
    · obtain ⟨rfl, rfl⟩ := RM.readIs_eq H.out (RM.readIs_chain l _ 0 (.inl ⟨HD.out, by rw [HO.out]; exact HX.out.1 rfl, rfl, rfl⟩))
      go_wp2_with fail
      exact bodyPost_ret (v := .tuple #[.agg #[.int .u8 3, .int .i64 (RM.gg l), .int .i64 (RM.ss l), .int .i64 0, .string ⟨(RM.vv l).toArray⟩], .int .i64 0]) (by simp [results, Try.results58, go_sem, d0, d1, d2, d3, d4]; try rfl) rfl ⟨by rw [HO.out], rbelow_put5 HB8.out (Nat.le_refl _) _ _ _ _ _⟩
  · obtain ⟨rfl, rfl⟩ := RM.readIs_eq H.out (RM.readIs_chain l RM.zero 8 (.inr ⟨fun h => hd h.1, rfl, rfl⟩))
    rw [decide_eq_false hd]
    clear hd S
    go_wp2_with fail
    exact bodyPost_ret (v := .tuple #[.agg #[.int .u8 0, .int .i64 0, .int .i64 0, .int .i64 0, .string ⟨#[]⟩], .int .i64 8]) (by simp [results, Try.results58, go_sem, d0, d1, d2, d3, d4]; try rfl) rfl ⟨rfl, rbelow_put5 HB.out (Nat.le_refl _) _ _ _ _ _⟩

set_option maxRecDepth 100000 in
set_option maxHeartbeats 4000000 in
theorem rread_1 {r : RM.Rc} {e : Int} (s : ByteArray) (l : List UInt8) (hl : RM.bsz s = l) (hk : RM.kk l = 1) (h : RM.ReadIs l r e) (hs : s.size ≤ maxLen) (w : World) :
    Calls Try.prog 58 #[.string s] w (RcAns r e w) := by
  have h4 : RM.o4 l = RM.nx 8388613 (RM.o3 l) ∧ RM.bb l = RM.nv 8388613 (RM.o3 l) := by unfold RM.o4 RM.bb; rw [hk]; simp
  have h5 : RM.o5 l = RM.o4 l ∧ RM.vv l = [] := by unfold RM.o5 RM.vv; rw [hk]; simp
  have hout : RM.out l = ⟨1, RM.gg l, RM.ss l, (RM.bb l : Nat), ⟨#[]⟩⟩ := by unfold RM.out; rw [hk, h5.2] <;> rfl
  have lv : (RM.vv l).length ≤ 1024 := by rw [h5.2]; simp
  have N1 := Lib.hid (fun g w (h : RdrAt w g (some l)) => (show Calls Try.prog 81 #[.pointer (some ⟨g, 0, none⟩), .int .i64 3] w (RdrPost (.int .i64 1) (RM.o1 l) g w) from (by have := rNumber_any g 3 (some l) w h (by omega); rw [show RM.nv 3 (some l) = 1 from hk] at this; exact this)))
  have N2 := Lib.hid (fun g w (h : RdrAt w g (RM.o1 l)) => (show Calls Try.prog 81 #[.pointer (some ⟨g, 0, none⟩), .int .i64 3] w (RdrPost (.int .i64 (RM.gg l)) (RM.o2 l) g w) from rNumber_any g 3 (RM.o1 l) w h (by omega)))
  have N3 := Lib.hid (fun g w (h : RdrAt w g (RM.o2 l)) => (show Calls Try.prog 81 #[.pointer (some ⟨g, 0, none⟩), .int .i64 200] w (RdrPost (.int .i64 (RM.ss l)) (RM.o3 l) g w) from rNumber_any g 200 (RM.o2 l) w h (by omega)))
  have N4 := Lib.hid (fun g w (h : RdrAt w g (RM.o3 l)) => (show Calls Try.prog 81 #[.pointer (some ⟨g, 0, none⟩), .int .i64 8388613] w (RdrPost (.int .i64 (RM.bb l)) (RM.o4 l) g w) from (by rw [h4.1, h4.2]; exact rNumber_any g 8388613 (RM.o3 l) w h (by omega))))
  have E5 := Lib.hid h5.1
  have ND := Lib.hid (fun g w (h : RdrAt w g (RM.o5 l)) => rDone_any g (RM.o5 l) w h)
  have CM := Lib.hid (fun w => rmay_any 1 (RM.gg l) (RM.ss l) (RM.bb l : Nat) ⟨#[]⟩ w (by decide))
  have HB := Lib.hid (show Below w.heap.size w (w.alloc (.cells #[.int .u8 0, .int .i64 0, .int .i64 0, .int .i64 0, .string ⟨#[]⟩] 29)) from (Below.refl _ _).alloc (Nat.le_refl _) _)
  have R := Lib.hid (Box.new w 29 #[.int .u8 0, .int .i64 0, .int .i64 0, .int .i64 0, .string ⟨#[]⟩])
  obtain ⟨A, c, w1, hcv, hR, hc1, hc2, hb1⟩ := conv_ex (w.alloc (.cells #[.int .u8 0, .int .i64 0, .int .i64 0, .int .i64 0, .string ⟨#[]⟩] 29)) s hs
  rw [hl] at hR
  have S := Lib.hid (rs_new (R.out.below hb1 R.out.lt) (bmore HB.out hb1 (by simp)) hR hc1 hc2)
  have HO := Lib.hid hout
  have H := Lib.hid h
  clear h4 h5 hout lv HB R hR hb1 h hk
  go_enter Try.func58, Try.ntmps58
  go_upto_region 2 with (fail)
  generalize w1.alloc (.cells #[.slice A s.size c, .bool false] 116) = w2 at S ⊢
  generalize w1.heap.size = g at S ⊢
  go_wp2_with fail
  refine (N1.out g w2 S.out.2.1).mono ?_
  rintro e1 w3 ⟨rfl, hn⟩
  replace S := Lib.hid (S.out.num hn); clear hn N1
  go_wp2_with fail
  refine (N2.out g w3 S.out.2.1).mono ?_
  rintro e1 w4 ⟨rfl, hn⟩
  replace S := Lib.hid (S.out.num hn); clear hn N2
  go_wp2_with fail
  refine (N3.out g w4 S.out.2.1).mono ?_
  rintro e1 w5 ⟨rfl, hn⟩
  replace S := Lib.hid (S.out.num hn); clear hn N3
  go_upto_region 6 with (fail)
  replace S := Lib.hid (S.out.alloc #[.int .u8 1, .int .i64 (RM.gg l), .int .i64 (RM.ss l), .int .i64 0, .string ⟨#[]⟩])
  generalize w5.alloc (.cells #[.int .u8 1, .int .i64 (RM.gg l), .int .i64 (RM.ss l), .int .i64 0, .string ⟨#[]⟩] 29) = w6 at S ⊢
  generalize w5.heap.size = h at S ⊢
  obtain ⟨⟨c0, c1, c2, c3, c4⟩, f0, f1, f2, f3, f4⟩ := rbox5 S.out.2.1
  go_wp2_with fail
  clear c0 c1 c2 c3 c4 f0 f1 f2 f3 f4
  refine (N4.out g w6 S.out.1.2.1).mono ?_
  rintro e1 w7 ⟨rfl, hn⟩
  replace S := Lib.hid (S.out.num hn); clear hn N4
  obtain ⟨⟨c0, c1, c2, c3, c4⟩, f0, f1, f2, f3, f4⟩ := rbox5 S.out.2.1
  go_upto_region 8 with (fail)
  clear c0 c1 c2 c3 c4 f0 f1 f2 f3 f4
  replace S := Lib.hid (show RT w _ g h (RM.o4 l) #[.int .u8 1, .int .i64 (RM.gg l), .int .i64 (RM.ss l), .int .i64 (RM.bb l), .string ⟨#[]⟩] from S.out.put 3 (.int .i64 (RM.bb l)))
  generalize w7.setCell ⟨h, 3, none⟩ _ = w6 at S ⊢
  obtain ⟨⟨c0, c1, c2, c3, c4⟩, f0, f1, f2, f3, f4⟩ := rbox5 S.out.2.1
  rw [← E5.out] at S
  obtain ⟨⟨d0, d1, d2, d3, d4⟩, g0, g1, g2, g3, g4⟩ := rbox5 S.out.1.1
  have HB := Lib.hid S.out.1.2.2.2.2
  go_wp2_with fail
  refine (ND.out g w6 S.out.1.2.1).mono ?_
  rintro e1 w7 ⟨rfl, rfl⟩
  clear f0 f1 f2 f3 f4
  by_cases hd : RM.o5 l = some []
  · rw [decide_eq_true hd]
    have HD := Lib.hid hd
    clear hd
    go_wp2_with fail
    refine (CM.out _).mono ?_
    rintro e1 w8 ⟨x, hx, rfl, hb⟩
    have HX := Lib.hid hx
    have HB8 := Lib.hid (bmore HB.out hb (Nat.le_refl _))
    obtain ⟨⟨d0, d1, d2, d3, d4⟩, g0, g1, g2, g3, g4⟩ := rbox5 (S.out.1.1.below hb S.out.1.1.lt)
    obtain ⟨⟨c0, c1, c2, c3, c4⟩, f0, f1, f2, f3, f4⟩ := rbox5 (S.out.2.1.below hb S.out.2.1.lt)
    have hwh : w.heap.size ≠ h := by have h1 := S.out.2.2; have h2 := S.out.1.2.2.1; omega
    clear hb hx S
    cases x
    · obtain ⟨rfl, rfl⟩ := RM.readIs_eq H.out (RM.readIs_chain l RM.zero 8 (.inr ⟨fun h => (by have := HX.out.2 (by rw [← HO.out]; exact h.2); cases this), rfl, rfl⟩))
      go_wp2_with fail
      exact bodyPost_ret (v := .tuple #[.agg #[.int .u8 0, .int .i64 0, .int .i64 0, .int .i64 0, .string ⟨#[]⟩], .int .i64 8]) (by simp [results, Try.results58, go_sem, d0, d1, d2, d3, d4]; try rfl) rfl ⟨rfl, rbelow_put5 HB8.out (Nat.le_refl _) _ _ _ _ _⟩
    · obtain ⟨rfl, rfl⟩ := RM.readIs_eq H.out (RM.readIs_chain l _ 0 (.inl ⟨HD.out, by rw [HO.out]; exact HX.out.1 rfl, rfl, rfl⟩))
      go_wp2_with fail
      exact bodyPost_ret (v := .tuple #[.agg #[.int .u8 1, .int .i64 (RM.gg l), .int .i64 (RM.ss l), .int .i64 (RM.bb l : Nat), .string ⟨#[]⟩], .int .i64 0]) (by simp [results, Try.results58, go_sem, d0, d1, d2, d3, d4]; try rfl) rfl ⟨by rw [HO.out], rbelow_put5 HB8.out (Nat.le_refl _) _ _ _ _ _⟩
  · obtain ⟨rfl, rfl⟩ := RM.readIs_eq H.out (RM.readIs_chain l RM.zero 8 (.inr ⟨fun h => hd h.1, rfl, rfl⟩))
    rw [decide_eq_false hd]
    clear hd S
    go_wp2_with fail
    exact bodyPost_ret (v := .tuple #[.agg #[.int .u8 0, .int .i64 0, .int .i64 0, .int .i64 0, .string ⟨#[]⟩], .int .i64 8]) (by simp [results, Try.results58, go_sem, d0, d1, d2, d3, d4]; try rfl) rfl ⟨rfl, rbelow_put5 HB.out (Nat.le_refl _) _ _ _ _ _⟩

set_option maxRecDepth 100000 in
set_option maxHeartbeats 4000000 in
theorem rread_k (k : Nat) (k1 : k ≠ 1) (k3 : k ≠ 3) {r : RM.Rc} {e : Int} (s : ByteArray) (l : List UInt8) (hl : RM.bsz s = l) (hk : RM.kk l = k) (h : RM.ReadIs l r e) (hs : s.size ≤ maxLen) (w : World) :
    Calls Try.prog 58 #[.string s] w (RcAns r e w) := by
  have h4 : RM.o4 l = RM.nx 8388613 (RM.o3 l) ∧ RM.bb l = RM.nv 8388613 (RM.o3 l) := by unfold RM.o4 RM.bb; rw [hk]; rw [if_neg k3, if_neg k3]; exact ⟨rfl, rfl⟩
  have h5 : RM.o5 l = RM.tx 1024 (RM.o4 l) ∧ RM.vv l = RM.tv 1024 (RM.o4 l) := by unfold RM.o5 RM.vv; rw [hk]; rw [if_neg k1, if_neg k1]; exact ⟨rfl, rfl⟩
  have hout : RM.out l = ⟨(k : Int), RM.gg l, RM.ss l, (RM.bb l : Nat), ⟨(RM.vv l).toArray⟩⟩ := by unfold RM.out; rw [hk] <;> rfl
  have lv : (RM.vv l).length ≤ 1024 := by rw [h5.2]; exact tv_le _ _
  have N1 := Lib.hid (fun g w (h : RdrAt w g (some l)) => (show Calls Try.prog 81 #[.pointer (some ⟨g, 0, none⟩), .int .i64 3] w (RdrPost (.int .i64 (k : Int)) (RM.o1 l) g w) from (by have := rNumber_any g 3 (some l) w h (by omega); rw [show RM.nv 3 (some l) = k from hk] at this; exact this)))
  have N2 := Lib.hid (fun g w (h : RdrAt w g (RM.o1 l)) => (show Calls Try.prog 81 #[.pointer (some ⟨g, 0, none⟩), .int .i64 3] w (RdrPost (.int .i64 (RM.gg l)) (RM.o2 l) g w) from rNumber_any g 3 (RM.o1 l) w h (by omega)))
  have N3 := Lib.hid (fun g w (h : RdrAt w g (RM.o2 l)) => (show Calls Try.prog 81 #[.pointer (some ⟨g, 0, none⟩), .int .i64 200] w (RdrPost (.int .i64 (RM.ss l)) (RM.o3 l) g w) from rNumber_any g 200 (RM.o2 l) w h (by omega)))
  have N4 := Lib.hid (fun g w (h : RdrAt w g (RM.o3 l)) => (show Calls Try.prog 81 #[.pointer (some ⟨g, 0, none⟩), .int .i64 8388613] w (RdrPost (.int .i64 (RM.bb l)) (RM.o4 l) g w) from (by rw [h4.1, h4.2]; exact rNumber_any g 8388613 (RM.o3 l) w h (by omega))))
  have N5 := Lib.hid (fun g w (h : RdrAt w g (RM.o4 l)) => (show Calls Try.prog 82 #[.pointer (some ⟨g, 0, none⟩), .int .i64 1024] w (RdrPost (.string ⟨(RM.vv l).toArray⟩) (RM.o5 l) g w) from (by rw [h5.1, h5.2]; exact rText_any g 1024 (RM.o4 l) w h (by omega))))
  have ND := Lib.hid (fun g w (h : RdrAt w g (RM.o5 l)) => rDone_any g (RM.o5 l) w h)
  have CM := Lib.hid (fun w => rmay_any (k : Int) (RM.gg l) (RM.ss l) (RM.bb l : Nat) ⟨(RM.vv l).toArray⟩ w (by show Array.size _ ≤ _; unfold maxLen; simp; omega))
  have hk3 : k ≤ 3 := by rw [← hk]; exact nv_le _ _
  have e1 : ((k : Int) == 1) = false := by simp; omega
  have e3 : ((k : Int) == 3) = false := by simp; omega
  have HB := Lib.hid (show Below w.heap.size w (w.alloc (.cells #[.int .u8 0, .int .i64 0, .int .i64 0, .int .i64 0, .string ⟨#[]⟩] 29)) from (Below.refl _ _).alloc (Nat.le_refl _) _)
  have R := Lib.hid (Box.new w 29 #[.int .u8 0, .int .i64 0, .int .i64 0, .int .i64 0, .string ⟨#[]⟩])
  obtain ⟨A, c, w1, hcv, hR, hc1, hc2, hb1⟩ := conv_ex (w.alloc (.cells #[.int .u8 0, .int .i64 0, .int .i64 0, .int .i64 0, .string ⟨#[]⟩] 29)) s hs
  rw [hl] at hR
  have S := Lib.hid (rs_new (R.out.below hb1 R.out.lt) (bmore HB.out hb1 (by simp)) hR hc1 hc2)
  have HO := Lib.hid hout
  have H := Lib.hid h
  clear h4 h5 hout lv HB R hR hb1 h hk
  go_enter Try.func58, Try.ntmps58
  go_upto_region 2 with (fail)
  generalize w1.alloc (.cells #[.slice A s.size c, .bool false] 116) = w2 at S ⊢
  generalize w1.heap.size = g at S ⊢
  go_wp2_with fail
  refine (N1.out g w2 S.out.2.1).mono ?_
  rintro e1 w3 ⟨rfl, hn⟩
  replace S := Lib.hid (S.out.num hn); clear hn N1
  go_wp2_with fail
  refine (N2.out g w3 S.out.2.1).mono ?_
  rintro e1 w4 ⟨rfl, hn⟩
  replace S := Lib.hid (S.out.num hn); clear hn N2
  go_wp2_with fail
  refine (N3.out g w4 S.out.2.1).mono ?_
  rintro e1 w5 ⟨rfl, hn⟩
  replace S := Lib.hid (S.out.num hn); clear hn N3
  go_upto_region 6 with (fail)
  replace S := Lib.hid (S.out.alloc #[.int .u8 (k : Int), .int .i64 (RM.gg l), .int .i64 (RM.ss l), .int .i64 0, .string ⟨#[]⟩])
  generalize w5.alloc (.cells #[.int .u8 (k : Int), .int .i64 (RM.gg l), .int .i64 (RM.ss l), .int .i64 0, .string ⟨#[]⟩] 29) = w6 at S ⊢
  generalize w5.heap.size = h at S ⊢
  obtain ⟨⟨c0, c1, c2, c3, c4⟩, f0, f1, f2, f3, f4⟩ := rbox5 S.out.2.1
  go_wp2_with fail
  clear c0 c1 c2 c3 c4 f0 f1 f2 f3 f4
  refine (N4.out g w6 S.out.1.2.1).mono ?_
  rintro e1 w7 ⟨rfl, hn⟩
  replace S := Lib.hid (S.out.num hn); clear hn N4
  obtain ⟨⟨c0, c1, c2, c3, c4⟩, f0, f1, f2, f3, f4⟩ := rbox5 S.out.2.1
  go_upto_region 8 with (fail)
  clear c0 c1 c2 c3 c4 f0 f1 f2 f3 f4
  replace S := Lib.hid (show RT w _ g h (RM.o4 l) #[.int .u8 (k : Int), .int .i64 (RM.gg l), .int .i64 (RM.ss l), .int .i64 (RM.bb l), .string ⟨#[]⟩] from S.out.put 3 (.int .i64 (RM.bb l)))
  generalize w7.setCell ⟨h, 3, none⟩ _ = w6 at S ⊢
  obtain ⟨⟨c0, c1, c2, c3, c4⟩, f0, f1, f2, f3, f4⟩ := rbox5 S.out.2.1
  go_wp2_with fail
  clear c0 c1 c2 c3 c4 f0 f1 f2 f3 f4
  refine (N5.out g w6 S.out.1.2.1).mono ?_
  rintro e1 w7 ⟨rfl, hn⟩
  replace S := Lib.hid (S.out.num hn); clear hn N5
  obtain ⟨⟨c0, c1, c2, c3, c4⟩, f0, f1, f2, f3, f4⟩ := rbox5 S.out.2.1
  go_upto_region 10 with (fail)
  clear c0 c1 c2 c3 c4 f0 f1 f2 f3 f4
  replace S := Lib.hid (show RT w _ g h (RM.o5 l) #[.int .u8 (k : Int), .int .i64 (RM.gg l), .int .i64 (RM.ss l), .int .i64 (RM.bb l : Nat), .string ⟨(RM.vv l).toArray⟩] from S.out.put 4 (.string ⟨(RM.vv l).toArray⟩))
  generalize w7.setCell ⟨h, 4, none⟩ _ = w6 at S ⊢
  obtain ⟨⟨c0, c1, c2, c3, c4⟩, f0, f1, f2, f3, f4⟩ := rbox5 S.out.2.1
  obtain ⟨⟨d0, d1, d2, d3, d4⟩, g0, g1, g2, g3, g4⟩ := rbox5 S.out.1.1
  have HB := Lib.hid S.out.1.2.2.2.2
  go_wp2_with fail
  refine (ND.out g w6 S.out.1.2.1).mono ?_
  rintro e1 w7 ⟨rfl, rfl⟩
  clear f0 f1 f2 f3 f4
  by_cases hd : RM.o5 l = some []
  · rw [decide_eq_true hd]
    have HD := Lib.hid hd
    clear hd
    go_wp2_with fail
    refine (CM.out _).mono ?_
    rintro e1 w8 ⟨x, hx, rfl, hb⟩
    have HX := Lib.hid hx
    have HB8 := Lib.hid (bmore HB.out hb (Nat.le_refl _))
    obtain ⟨⟨d0, d1, d2, d3, d4⟩, g0, g1, g2, g3, g4⟩ := rbox5 (S.out.1.1.below hb S.out.1.1.lt)
    obtain ⟨⟨c0, c1, c2, c3, c4⟩, f0, f1, f2, f3, f4⟩ := rbox5 (S.out.2.1.below hb S.out.2.1.lt)
    have hwh : w.heap.size ≠ h := by have h1 := S.out.2.2; have h2 := S.out.1.2.2.1; omega
    clear hb hx S
    cases x
    · obtain ⟨rfl, rfl⟩ := RM.readIs_eq H.out (RM.readIs_chain l RM.zero 8 (.inr ⟨fun h => (by have := HX.out.2 (by rw [← HO.out]; exact h.2); cases this), rfl, rfl⟩))
      go_wp2_with fail
      exact bodyPost_ret (v := .tuple #[.agg #[.int .u8 0, .int .i64 0, .int .i64 0, .int .i64 0, .string ⟨#[]⟩], .int .i64 8]) (by simp [results, Try.results58, go_sem, d0, d1, d2, d3, d4]; try rfl) rfl ⟨rfl, rbelow_put5 HB8.out (Nat.le_refl _) _ _ _ _ _⟩
    · obtain ⟨rfl, rfl⟩ := RM.readIs_eq H.out (RM.readIs_chain l _ 0 (.inl ⟨HD.out, by rw [HO.out]; exact HX.out.1 rfl, rfl, rfl⟩))
      go_wp2_with fail
      exact bodyPost_ret (v := .tuple #[.agg #[.int .u8 (k : Int), .int .i64 (RM.gg l), .int .i64 (RM.ss l), .int .i64 (RM.bb l : Nat), .string ⟨(RM.vv l).toArray⟩], .int .i64 0]) (by simp [results, Try.results58, go_sem, d0, d1, d2, d3, d4]; try rfl) rfl ⟨by rw [HO.out], rbelow_put5 HB8.out (Nat.le_refl _) _ _ _ _ _⟩
  · obtain ⟨rfl, rfl⟩ := RM.readIs_eq H.out (RM.readIs_chain l RM.zero 8 (.inr ⟨fun h => hd h.1, rfl, rfl⟩))
    rw [decide_eq_false hd]
    clear hd S
    go_wp2_with fail
    exact bodyPost_ret (v := .tuple #[.agg #[.int .u8 0, .int .i64 0, .int .i64 0, .int .i64 0, .string ⟨#[]⟩], .int .i64 8]) (by simp [results, Try.results58, go_sem, d0, d1, d2, d3, d4]; try rfl) rfl ⟨rfl, rbelow_put5 HB.out (Nat.le_refl _) _ _ _ _ _⟩

theorem rread_any {r : RM.Rc} {e : Int} (s : ByteArray) (h : RM.ReadIs (RM.bsz s) r e) (hs : s.size ≤ maxLen) (w : World) :
    Calls Try.prog 58 #[.string s] w (RcAns r e w) := by
  by_cases k3 : RM.kk (RM.bsz s) = 3
  · exact rread_3 s _ rfl k3 h hs w
  by_cases k1 : RM.kk (RM.bsz s) = 1
  · exact rread_1 s _ rfl k1 h hs w
  exact rread_k _ k1 k3 s _ rfl rfl h hs w
end Go.Proofs.Ytohiemdodffhoaa.RP

namespace Go.Proofs.Ytohiemdodffhoaa.SP
open Go.RowKit Go.Shelf
open SM (Sn Sb Vo)
set_option linter.unusedVariables false
set_option linter.unusedSimpArgs false
set_option maxRecDepth 100000

/-- what Apply answers (StApp) -/
def AppC : Prop := ∀ (v : Value) (x : Sb) (k g s b : Int) (t : ByteArray) (W : World), StIs W v x → Fit x → t.size ≤ maxLen →
    Calls Try.prog 21 #[v, .agg #[.int .u8 k, .int .i64 g, .int .i64 s, .int .i64 b, .string t]] W (AppPost x ⟨k, g, s, b, t⟩ W)
theorem fit_may {x : Sb} (h : SM.may x) : Fit x := by
  have hl := SM.may_logs h
  refine ⟨fun l hl2 v hv => by have := hl.2 l hl2 v hv; unfold maxLen; omega, fun v hv => ?_⟩
  obtain ⟨h1, h2, h3, h4, h5, h6⟩ := h.2.2.1 v hv
  have h44 := h.1.2
  obtain ⟨k1, k2⟩ := h5
  have kp : 0 ≤ v.o.p ∧ v.o.p ≤ 8388613 := by
    rcases k1 with k1 | k1
    · omega
    · exact ⟨by have := k1.1; omega, k1.2.1⟩
  have kb : (0 ≤ v.o.b ∧ v.o.b ≤ 8388613) ∧ v.o.v.size ≤ 1024 := by
    rcases k2 with ⟨k2, k3⟩ | ⟨_, k2, _, k3⟩
    · exact ⟨by omega, by rw [k3]; decide⟩
    · exact ⟨⟨by have := k2.1; omega, k2.2.1⟩, k3⟩
  exact ⟨⟨by omega, by omega⟩, ⟨by omega, by omega⟩, ⟨by omega, by omega⟩, ⟨by omega, by omega⟩, by have := kb.2; unfold maxLen; omega⟩
theorem new_fit {n : Int} (h : (SM.newF n).2 = 0) : Fit (SM.newF n).1 := by
  unfold SM.newF at h ⊢
  by_cases h1 : n < 1 ∨ 4 < n
  · rw [if_pos h1] at h; exact absurd h (by decide)
  · rw [if_neg h1]
    exact ⟨fun l hl v hv => (by rw [List.eq_of_mem_replicate hl] at hv; cases hv), fun v hv => (by cases hv)⟩
/-- texts as bytes -/
def tb (l : List ByteArray) : List (List UInt8) := l.map RM.bsz
theorem tb_len (l : List ByteArray) : (tb l).length = l.length := by simp [tb]
theorem run_drop {l : List ByteArray} {k : Nat} {t : ByteArray} (h : l[k]? = some t) (y : Sb) : SM.runF y (tb (l.drop k)) = match RM.read (RM.bsz t) with
    | none => (SM.zero, 8)
    | some r => if (SM.appF y r).2 ≠ 0 then (SM.zero, (SM.appF y r).2) else SM.runF (SM.appF y r).1 (tb (l.drop (k + 1))) := by
  obtain ⟨hk, rfl⟩ := List.getElem?_eq_some_iff.1 h
  rw [List.drop_eq_getElem_cons hk]
  unfold tb
  rw [List.map_cons, SM.runF]
  rcases RM.read (RM.bsz l[k]) with _ | r <;> rfl
/-- Replay's variables -/
structure RpR (W : World) (g0 g1 : Nat) (vL vV : Value) (y : Sb) (wr : World) : Prop where
  bl : Below W.heap.size W wr
  hg : g0 = W.heap.size
  h1 : g0 < g1
  bz : Box wr g0 25 #[.slice none 0 0, .slice none 0 0]
  bs : Box wr g1 25 #[vL, vV]
  st : StTy wr (.agg #[vL, vV]) y
theorem RpR.below {W wr wr' : World} {g0 g1 : Nat} {vL vV : Value} {y : Sb} (h : RpR W g0 g1 vL vV y wr) (hb : Below wr.heap.size wr wr') : RpR W g0 g1 vL vV y wr' :=
  ⟨bmore h.bl hb (Nat.le_refl _), h.hg, h.h1, h.bz.below hb h.bz.lt, h.bs.below hb h.bs.lt, h.st.below hb⟩
def RpPost (n : Int) (l : List ByteArray) (W : World) (e : Ending) (w' : World) : Prop := ∃ v, e = .returned (.tuple #[v, .int .i64 (SM.replayF n (tb l)).2]) ∧ StTy w' v (SM.replayF n (tb l)).1 ∧ Below W.heap.size W w'
theorem rp_err {n : Int} {l : List ByteArray} {W wr : World} {g0 : Nat} {e : Int} (h : Below W.heap.size W wr) (hg : g0 = W.heap.size) (he : SM.replayF n (tb l) = (SM.zero, e)) :
    RpPost n l W (.returned (.tuple #[.agg #[.slice none 0 0, .slice none 0 0], .int .i64 e])) ((wr.setCell ⟨g0, 0, none⟩ (.slice none 0 0)).setCell ⟨g0, 1, none⟩ (.slice none 0 0)) :=
  ⟨_, by rw [he], by rw [he]; exact ty_zero _, (h.setCell (p := ⟨g0, 0, none⟩) (by show _ ≤ g0; omega) _).setCell (p := ⟨g0, 1, none⟩) (by show _ ≤ g0; omega) _⟩
theorem RpR.next {W wr : World} {g0 g1 : Nat} {vL vV uL uV : Value} {y z : Sb} (h : RpR W g0 g1 vL vV y wr) (hz : StTy wr (.agg #[uL, uV]) z) : RpR W g0 g1 uL uV z ((wr.setCell ⟨g1, 0, none⟩ uL).setCell ⟨g1, 1, none⟩ uV) := by
  have h0 := h.hg
  have h1 := h.h1
  have b1 := h.bs.stored 0 uL
  have b2 := b1.stored 1 uV
  have k2 : Kept isSt wr ((wr.setCell ⟨g1, 0, none⟩ uL).setCell ⟨g1, 1, none⟩ uV) := (Kept.set (S := isSt) h.bs rfl _).trans (Kept.set (S := isSt) b1 rfl _)
  exact ⟨(h.bl.setCell (p := ⟨g1, 0, none⟩) (by show _ ≤ g1; omega) _).setCell (p := ⟨g1, 1, none⟩) (by show _ ≤ g1; omega) _, h.hg, h.h1, (h.bz.far (p := ⟨g1, 0, none⟩) (by show g0 ≠ g1; omega) _).far (p := ⟨g1, 1, none⟩) (by show g0 ≠ g1; omega) _,
    by simpa using b2, hz.kept k2 (by unfold isSt; decide) (by unfold isSt; decide) (by unfold isSt; decide)⟩
theorem rp_fin {n : Int} {l : List ByteArray} {W wr : World} {g0 g1 : Nat} {vL vV : Value} {y : Sb} (h : RpR W g0 g1 vL vV y wr) (he : SM.replayF n (tb l) = (y, 0)) :
    RpPost n l W (.returned (.tuple #[.agg #[vL, vV], .int .i64 0])) ((wr.setCell ⟨g0, 0, none⟩ vL).setCell ⟨g0, 1, none⟩ vV) := by
  have h0 := h.hg
  have b1 := h.bz.stored 0 vL
  have k2 : Kept isSt wr ((wr.setCell ⟨g0, 0, none⟩ vL).setCell ⟨g0, 1, none⟩ vV) := (Kept.set (S := isSt) h.bz rfl _).trans (Kept.set (S := isSt) b1 rfl _)
  exact ⟨_, by rw [he], by rw [he]; exact h.st.kept k2 (by unfold isSt; decide) (by unfold isSt; decide) (by unfold isSt; decide), (h.bl.setCell (p := ⟨g0, 0, none⟩) (by show _ ≤ g0; omega) _).setCell (p := ⟨g0, 1, none⟩) (by show _ ≤ g0; omega) _⟩
theorem replay_eq {n : Int} {l : List ByteArray} {y : Sb} (h0 : (SM.newF n).2 = 0) (hl : l.length ≤ 65536) : SM.replayF n (tb l) = SM.runF (SM.newF n).1 (tb l) := by
  unfold SM.replayF
  rw [if_neg (by simpa using h0), if_neg (by rw [tb_len]; omega)]
theorem ty_slices {w : World} {v : Value} {x : Sb} (h : StTy w v x) : ∃ A c B d, v = .agg #[.slice A x.logs.length c, .slice B x.votes.length d] := by
  obtain ⟨A, c, B, d, e, _⟩ := h.is
  exact ⟨A, c, B, d, e⟩
set_option maxHeartbeats 16000000 in
theorem rreplay_any (AC : AppC) (n : Int) (A : Option Addr) (m c : Nat) (l : List ByteArray) (W : World) (hr : Rd W A m (SP.tc l)) (hs : ∀ v ∈ l, v.size ≤ maxLen) (hmc : m ≤ maxLen) :
    Calls Try.prog 32 #[.int .i64 n, .slice A m c] W (RpPost n l W) := by
  have hl : l.length = m := by have := hr.1; rwa [tc_length] at this
  unfold maxLen at hmc
  have hb0 : Below W.heap.size W (W.alloc (.cells #[.slice none 0 0, .slice none 0 0] 25)) := (Below.refl _ _).alloc (Nat.le_refl _) _
  have HB := Lib.hid hb0
  have BZ := Lib.hid (Box.new W 25 #[.slice none 0 0, .slice none 0 0])
  have HR := Lib.hid (fun w (h : Below W.heap.size W w) => hr.below h)
  have HS := Lib.hid hs
  have HL := Lib.hid hl
  clear hr hs hl hb0
  go_enter Try.func32, Try.ntmps32
  go_upto_region 1 with (fail)
  generalize W.alloc (.cells #[.slice none 0 0, .slice none 0 0] 25) = w1 at HB BZ ⊢
  obtain ⟨g0, hg0⟩ : ∃ g0, W.heap.size = g0 := ⟨_, rfl⟩
  rw [hg0] at BZ
  simp only [hg0]
  have HG := Lib.hid hg0
  clear hg0
  go_wp2_with fail
  refine (rnew11_any n w1).mono ?_
  rintro e w2 ⟨v2, rfl, hst, hb⟩
  obtain ⟨A1, c1, B1, d1, rfl⟩ := ty_slices hst
  obtain ⟨o, ho⟩ : ∃ o, o = SM.newF n := ⟨_, rfl⟩
  rw [← ho] at hst ⊢
  have HO := Lib.hid ho
  have S0 := Lib.hid (show RpR W g0 w2.heap.size (.slice A1 o.1.logs.length c1) (.slice B1 o.1.votes.length d1) o.1 (w2.alloc (.cells #[.slice A1 o.1.logs.length c1, .slice B1 o.1.votes.length d1] 25)) from by
    have hb3 := bmore HB.out hb (by have := HB.out.size; have := HG.out; omega)
    have hba : Below w2.heap.size w2 (w2.alloc (.cells #[.slice A1 o.1.logs.length c1, .slice B1 o.1.votes.length d1] 25)) := (Below.refl _ _).alloc (Nat.le_refl _) _
    have bz2 := BZ.out.below hb BZ.out.lt
    exact ⟨bmore hb3 hba (by have := hb3.size; omega), HG.out.symm, bz2.lt, bz2.alloc _, Box.new _ _ _, hst.below hba⟩)
  clear hst hb HB BZ ho
  obtain ⟨y0, e0⟩ := o
  simp only at S0 ⊢
  go_upto_region 2 with (fail)
  generalize w2.alloc (.cells #[.slice A1 y0.logs.length c1, .slice B1 y0.votes.length d1] 25) = w3 at S0 ⊢
  generalize w2.heap.size = g1 at S0 ⊢
  obtain ⟨z0, z1, f0, f1⟩ := S0.out.bz.two
  by_cases he0 : e0 ≠ 0
  · have HE := Lib.hid (show SM.replayF n (tb l) = (SM.zero, e0) by unfold SM.replayF; rw [← HO.out, if_pos he0])
    have hne : (e0 != 0) = true := by simpa using he0
    go_wp2_with fail
    exact bodyPost_ret (v := .tuple #[.agg #[.slice none 0 0, .slice none 0 0], .int .i64 e0]) (by simp [results, Try.results32, go_sem, z0, z1]; try rfl) rfl (rp_err S0.out.bl S0.out.hg HE.out)
  have he1 : e0 = 0 := Classical.not_not.1 he0
  clear he0
  subst he1
  have H0 := Lib.hid (show (SM.newF n).2 = 0 by rw [← HO.out])
  by_cases hlen : 65536 < m
  · have HE := Lib.hid (show SM.replayF n (tb l) = (SM.zero, 4) by unfold SM.replayF; rw [if_neg (by simpa using H0.out), if_pos (by rw [tb_len, HL.out]; exact hlen)])
    go_wp2_with fail
    exact bodyPost_ret (v := .tuple #[.agg #[.slice none 0 0, .slice none 0 0], .int .i64 4]) (by simp [results, Try.results32, go_sem, z0, z1]; try rfl) rfl (rp_err S0.out.bl S0.out.hg HE.out)
  have HRE := Lib.hid (show SM.replayF n (tb l) = SM.runF y0 (tb l) by rw [replay_eq (y := y0) H0.out (by rw [HL.out]; omega), ← HO.out])
  have HFI := Lib.hid (show Fit y0 by have := new_fit H0.out; rw [← HO.out] at this; exact this)
  clear HO H0
  go_wp2_with fail
  clear z0 z1 f0 f1
  go_loopw [8] (fun i wr => ∃ (k : Nat) (y : Sb) (A2 : Option Addr) (c2 : Nat) (B2 : Option Addr) (d2 : Nat), k ≤ m ∧ i = .int .i64 k ∧ Hid (RpR W g0 g1 (.slice A2 y.logs.length c2) (.slice B2 y.votes.length d2) y wr) ∧ Hid (Fit y) ∧ Hid (SM.replayF n (tb l) = SM.runF y (tb (l.drop k)))) (fun i _ => m - (intOf i).toNat)
  case atStart => exact ⟨0, y0, A1, c1, B1, d1, Nat.zero_le _, rfl, S0, HFI, HRE⟩
  case round =>
    clear S0 HFI HRE
    obtain ⟨k, y, A2, c2, B2, d2, hk, rfl, S, HFI, HRE⟩ := hrel
    obtain ⟨z0, z1, f0, f1⟩ := S.out.bz.two
    obtain ⟨s0, s1, _, _⟩ := S.out.bs.two
    by_cases hlt : k < m
    · obtain ⟨t, ht⟩ : ∃ t, l[k]? = some t := ⟨_, List.getElem?_eq_getElem (by have := HL.out; omega)⟩
      obtain ⟨ad, hA, _, q1⟩ := rd_text (HR.out _ S.out.bl) ht
      have hts := HS.out t (List.mem_of_getElem? ht)
      have HD := Lib.hid (run_drop ht y)
      have CR := Lib.hid (fun w => RP.rread_any t (RM.readIs_read (RM.bsz t)) hts w)
      have hk0 : (0 : Int) ≤ (k : Int) := by omega
      have hkn : (k : Int) < (m : Int) := by omega
      subst hA
      clear ht hts
      go_wp2_with fail
      clear z0 z1 f0 f1 s0 s1 q1
      refine (CR.out _).mono ?_
      rintro e1 w4 ⟨rfl, hb⟩
      replace S := Lib.hid (S.out.below hb); clear hb CR
      rcases hrd : RM.read (RM.bsz t) with _ | ⟨rk, rg, rs, rb, rv⟩
      · have HE := Lib.hid (show SM.replayF n (tb l) = (SM.zero, 8) by rw [HRE.out, HD.out, hrd])
        have hb : Below w4.heap.size w4 (w4.alloc (.cells #[.int .u8 0, .int .i64 0, .int .i64 0, .int .i64 0, .string .empty] 29)) := (Below.refl _ _).alloc (Nat.le_refl _) _
        replace S := Lib.hid (S.out.below hb)
        clear hb hrd
        simp only [Option.getD_none, Option.isSome_none, RM.zero, Bool.false_eq_true, if_false]
        go_upto_region 10 with (fail)
        generalize w4.alloc (.cells #[.int .u8 0, .int .i64 0, .int .i64 0, .int .i64 0, .string .empty] 29) = w5 at S ⊢
        obtain ⟨z0, z1, f0, f1⟩ := S.out.bz.two
        go_wp2_with fail
        exact bodyPost_ret (v := .tuple #[.agg #[.slice none 0 0, .slice none 0 0], .int .i64 8]) (by simp [results, Try.results32, go_sem, z0, z1]; try rfl) rfl (rp_err S.out.bl S.out.hg HE.out)
      · have hb : Below w4.heap.size w4 (w4.alloc (.cells #[.int .u8 rk, .int .i64 rg, .int .i64 rs, .int .i64 rb, .string rv] 29)) := (Below.refl _ _).alloc (Nat.le_refl _) _
        have RB := Lib.hid (Box.new w4 29 #[.int .u8 rk, .int .i64 rg, .int .i64 rs, .int .i64 rb, .string rv])
        replace S := Lib.hid (S.out.below hb)
        rw [hrd] at HD
        have hrv : rv.size ≤ maxLen := by
          have h1 := RM.readIs_read (RM.bsz t)
          rw [hrd] at h1
          rcases h1 with ⟨_, h1, _⟩ | ⟨h1, _⟩
          · have := RM.may_v h1; simp only [Option.getD_some] at this; unfold maxLen; omega
          · simp at h1
        have HRV := Lib.hid hrv
        clear hb hrd hrv
        simp only [Option.getD_some, Option.isSome_some, if_true]
        go_upto_region 10 with (fail)
        generalize w4.alloc (.cells #[.int .u8 rk, .int .i64 rg, .int .i64 rs, .int .i64 rb, .string rv] 29) = w5 at S RB ⊢
        generalize w4.heap.size = hr at RB ⊢
        obtain ⟨s0, s1, _, _⟩ := S.out.bs.two
        obtain ⟨r0, r1, r2, r3, r4⟩ := five_box RB.out
        go_wp2_with fail
        clear s0 s1 r0 r1 r2 r3 r4
        refine (AC _ y rk rg rs rb rv w5 S.out.st.is HFI.out HRV.out).mono ?_
        rintro e1 w6 ⟨v6, rfl, hst, hb⟩
        replace S := Lib.hid (S.out.below hb)
        clear hb RB HRV
        obtain ⟨A3, c3, B3, d3, rfl⟩ := ty_slices hst
        obtain ⟨q, hq⟩ : ∃ q, q = SM.appF y ⟨rk, rg, rs, rb, rv⟩ := ⟨_, rfl⟩
        have HQ := Lib.hid hq
        rw [← hq] at hst ⊢
        clear hq
        obtain ⟨y2, e2⟩ := q
        simp only at hst ⊢
        have hb : Below w6.heap.size w6 (w6.alloc (.cells #[.slice A3 y2.logs.length c3, .slice B3 y2.votes.length d3] 25)) := (Below.refl _ _).alloc (Nat.le_refl _) _
        have OB := Lib.hid (Box.new w6 25 #[.slice A3 y2.logs.length c3, .slice B3 y2.votes.length d3])
        replace S := Lib.hid (S.out.below hb)
        have HST := Lib.hid (hst.below hb)
        clear hb hst
        go_upto_region 13 with (fail)
        generalize w6.alloc (.cells #[.slice A3 y2.logs.length c3, .slice B3 y2.votes.length d3] 25) = w7 at S OB HST ⊢
        generalize w6.heap.size = h7 at OB ⊢
        obtain ⟨z0, z1, f0, f1⟩ := S.out.bz.two
        by_cases he2 : e2 ≠ 0
        · have HE := Lib.hid (show SM.replayF n (tb l) = (SM.zero, e2) by rw [HRE.out, HD.out, ← HQ.out, if_pos he2])
          have hne : (e2 != 0) = true := by simpa using he2
          clear he2
          go_wp2_with fail
          exact bodyPost_ret (v := .tuple #[.agg #[.slice none 0 0, .slice none 0 0], .int .i64 e2]) (by simp [results, Try.results32, go_sem, z0, z1]; try rfl) rfl (rp_err S.out.bl S.out.hg HE.out)
        · have he3 : e2 = 0 := Classical.not_not.1 he2
          clear he2
          subst he3
          have HE := Lib.hid (show SM.replayF n (tb l) = SM.runF y2 (tb (l.drop (k + 1))) by rw [HRE.out, HD.out, ← HQ.out, if_neg (show ¬ (0 : Int) ≠ 0 by decide)])
          have HF2 := Lib.hid (show Fit y2 by have h1 := SM.app_done (x := y) (r := ⟨rk, rg, rs, rb, rv⟩) (by rw [← HQ.out]); rw [← HQ.out] at h1; exact fit_may (SM.done_may h1))
          obtain ⟨o0, o1, _, _⟩ := OB.out.two
          obtain ⟨_, _, f2, f3⟩ := S.out.bs.two
          clear z0 z1 f0 f1
          have NX := Lib.hid (S.out.next HST.out)
          go_wp2_with fail
          go_roundw
          case rel => exact ⟨k + 1, y2, A3, c3, B3, d3, by omega, by go_num, NX, HF2, HE⟩
          case measure => simp [intOf]; omega
    · have HE := Lib.hid (show SM.replayF n (tb l) = (y, 0) by rw [HRE.out, List.drop_of_length_le (by have := HL.out; omega)]; rfl)
      go_wp2_with fail
      exact bodyPost_ret (v := .tuple #[.agg #[.slice A2 y.logs.length c2, .slice B2 y.votes.length d2], .int .i64 0]) (by simp [results, Try.results32, go_sem, z0, z1]; try rfl) rfl (rp_fin S.out HE.out)
end Go.Proofs.Ytohiemdodffhoaa.SP

namespace Go.Proofs.Ytohiemdodffhoaa
open Go.RowKit Go.Joins Go.ChangeShapes Go.WideShapes Go.Deep
set_option linter.unusedVariables false

theorem range_i64 {z : Int} (h : (Lit.int .i64 z).wf = true) : -9223372036854775808 ≤ z ∧ z ≤ 9223372036854775807 := by simpa [Lit.wf, IntKind.min, IntKind.max, IntKind.signed, IntKind.bits] using h
theorem range_u8 {z : Int} (h : (Lit.int .u8 z).wf = true) : 0 ≤ z ∧ z ≤ 255 := by simpa [Lit.wf, IntKind.min, IntKind.max, IntKind.signed, IntKind.bits] using h

section
variable {H : Type} {enc : TypeId × Value → H} {P : Program} {w : World} {base : Nat} {spare : Nat → Bool} {held : Bool}
/-- each cell of a struct of fields of one cell reads as its field -/
theorem cells_read {t : TypeId} {fs : Array Field} {fuel : Nat} {cs : List Value} {x : DataW H × List MemPlace} (hs : P.underlying t = some (.struct fs)) (hone : oneCellFields P fs = true) (h : DataW.trod enc P w base spare held fuel t cs = some x) :
    cs.length = P.cellsOf t ∧ ∃ n, ∀ (j : Nat) (f : Field) (c : Value), fs[j]? = some f → cs[j]? = some c → ∃ y, DataW.trod enc P w base spare held n f.type [c] = some y := by
  obtain ⟨xs, n, _, _, hlen, hxl, hf⟩ := DataW.trod_struct hs h
  refine ⟨hlen, n, fun j f c hj hc => ?_⟩
  obtain ⟨ho, hk⟩ := hone_of hone j f hj
  have e := hf j f hj
  rw [ho, hk] at e
  have hjl : j < xs.length := by rw [hxl]; exact (Array.getElem?_eq_some_iff.1 hj).1
  have hcl := (List.getElem?_eq_some_iff.1 hc).1
  have ht : (cs.drop j).take 1 = [c] := by
    rw [List.drop_eq_getElem_cons hcl, List.take_succ_cons, List.take_zero, (List.getElem?_eq_some_iff.1 hc).2]
  rw [ht, List.getElem?_eq_getElem hjl] at e
  exact ⟨_, e⟩
end

end Go.Proofs.Ytohiemdodffhoaa

namespace Go.Proofs.Ytohiemdodffhoaa.RP
open Go.RowKit Go.Joins Go.ChangeShapes Go.WideShapes Go.Deep
set_option linter.unusedVariables false

def RecFit (r : RM.Rc) : Prop := -9223372036854775808 ≤ r.b ∧ r.b ≤ 9223372036854775807 ∧ r.v.size ≤ maxLen
def vrec (r : RM.Rc) : List Value := [.int .u8 r.k, .int .i64 r.g, .int .i64 r.s, .int .i64 r.b, .string r.v]
/-- a record by value -/
def RecArg (v : Value) (r : RM.Rc) : Prop := v = .agg #[.int .u8 r.k, .int .i64 r.g, .int .i64 r.s, .int .i64 r.b, .string r.v] ∧ RecFit r
instance : Inhabited RM.Rc := ⟨⟨0, 0, 0, 0, .empty⟩⟩
section
variable {H : Type} {enc : TypeId × Value → H} {w : World} {spare : Nat → Bool} {held : Bool} {base : Nat}
theorem rec_cells {fuel : Nat} {cs : List Value} {x : DataW H × List MemPlace} (h : DataW.trod enc Try.prog w base spare held fuel 29 cs = some x) : ∃ r : RM.Rc, cs = vrec r ∧ RecFit r := by
  obtain ⟨hlen, n, hf⟩ := cells_read Try.underlying29 (by kernel_rfl) h
  have hl : cs.length = 5 := hlen.trans (by kernel_rfl)
  match cs, hl with
  | [c0, c1, c2, c3, c4], _ =>
    obtain ⟨y0, t0⟩ := hf 0 _ c0 rfl rfl
    obtain ⟨y1, t1⟩ := hf 1 _ c1 rfl rfl
    obtain ⟨y2, t2⟩ := hf 2 _ c2 rfl rfl
    obtain ⟨y3, t3⟩ := hf 3 _ c3 rfl rfl
    obtain ⟨y4, t4⟩ := hf 4 _ c4 rfl rfl
    obtain ⟨k, e0, _, w0⟩ := DataW.trod_int Try.underlying5 t0
    obtain ⟨g, e1, _, w1⟩ := DataW.trod_int Try.underlying3 t1
    obtain ⟨s, e2, _, w2⟩ := DataW.trod_int Try.underlying3 t2
    obtain ⟨b, e3, _, w3⟩ := DataW.trod_int Try.underlying3 t3
    obtain ⟨v, e4, _, w4⟩ := DataW.trod_string Try.underlying9 t4
    simp at e0 e1 e2 e3 e4
    subst e0 e1 e2 e3 e4
    exact ⟨⟨k, g, s, b, v⟩, rfl, (range_i64 w3).1, (range_i64 w3).2, w4⟩
set_option maxRecDepth 100000 in
theorem open_rec {r : Reach} {b0 : Nat} {v : Value} {d : DataW H} {p : List MemPlace} (hv : Value.okWide Try.prog w r b0 29 v) (h : DataW.Trod enc Try.prog w base spare held 29 v d p) : ∃ q, RecArg v q := by
  obtain ⟨cs, rfl, hsz⟩ := okWide_struct Try.underlying29 hv
  obtain ⟨l⟩ := cs
  obtain ⟨fuel, hf⟩ := h
  obtain ⟨q, e, F⟩ := rec_cells hf
  simp [Value.cells, vrec] at e
  subst e
  exact ⟨q, rfl, F⟩
end
end Go.Proofs.Ytohiemdodffhoaa.RP

namespace Go.Proofs.Ytohiemdodffhoaa.SP
open Go.RowKit
open SM (Sn Sb Vo)
set_option linter.unusedVariables false
set_option linter.unusedSimpArgs false
set_option maxRecDepth 100000

def NewP : Prop := ∀ (n : Int) (W : World), Calls Try.prog 15 #[.int .i64 n] W fun e w' => ∃ v, e = .returned (.tuple #[v, .int .i64 (SM.newF n).2]) ∧ StTy w' v (SM.newF n).1 ∧ Below W.heap.size W w'
def AppP : Prop := ∀ (v : Value) (x : Sb) (k g s b : Int) (t : ByteArray) (W : World), StIs W v x → Fit x → t.size ≤ maxLen → -9223372036854775808 ≤ b → b ≤ 9223372036854775807 →
    Calls Try.prog 14 #[v, .agg #[.int .u8 k, .int .i64 g, .int .i64 s, .int .i64 b, .string t]] W (AppPost x ⟨k, g, s, b, t⟩ W)
/-- a record that a program can hold -/
def RcFit (r : RM.Rc) : Prop := r.v.size ≤ maxLen ∧ -9223372036854775808 ≤ r.b ∧ r.b ≤ 9223372036854775807
instance (r : RM.Rc) : Decidable (RcFit r) := by unfold RcFit; infer_instance
def RcRet (r : RM.Rc) (w : World) (e : Ending) (w' : World) : Prop := e = .returned (.agg #[.int .u8 r.k, .int .i64 r.g, .int .i64 r.s, .int .i64 r.b, .string r.v]) ∧ Below w.heap.size w w'
set_option maxHeartbeats 1000000 in
theorem lprom_any (g s b : Int) (w : World) : Calls Try.prog 10 #[.int .i64 g, .int .i64 s, .int .i64 b] w (RcRet ⟨1, g, s, b, ⟨#[]⟩⟩ w) := by
  have hb : Below w.heap.size w (w.alloc (.cells #[.int .u8 1, .int .i64 g, .int .i64 s, .int .i64 b, .string ⟨#[]⟩] 29)) := (Below.refl _ _).alloc (Nat.le_refl _) _
  have HB := Lib.hid hb; clear hb
  go_enter Try.func10, Try.ntmps10
  go_wp2_with fail
  exact bodyPost_ret (v := .agg #[.int .u8 1, .int .i64 g, .int .i64 s, .int .i64 b, .string ⟨#[]⟩]) (by simp [results, Try.results10, go_sem]) rfl ⟨rfl, HB.out⟩
set_option maxHeartbeats 1000000 in
theorem lacc_any (g s b : Int) (v : ByteArray) (w : World) : Calls Try.prog 11 #[.int .i64 g, .int .i64 s, .int .i64 b, .string v] w (RcRet ⟨2, g, s, b, v⟩ w) := by
  have hb : Below w.heap.size w (w.alloc (.cells #[.int .u8 2, .int .i64 g, .int .i64 s, .int .i64 b, .string v] 29)) := (Below.refl _ _).alloc (Nat.le_refl _) _
  have HB := Lib.hid hb; clear hb
  go_enter Try.func11, Try.ntmps11
  go_wp2_with fail
  exact bodyPost_ret (v := .agg #[.int .u8 2, .int .i64 g, .int .i64 s, .int .i64 b, .string v]) (by simp [results, Try.results11, go_sem]) rfl ⟨rfl, HB.out⟩
set_option maxHeartbeats 1000000 in
theorem ldec_any (g s : Int) (v : ByteArray) (w : World) : Calls Try.prog 13 #[.int .i64 g, .int .i64 s, .string v] w (RcRet ⟨3, g, s, 0, v⟩ w) := by
  have hb : Below w.heap.size w (w.alloc (.cells #[.int .u8 3, .int .i64 g, .int .i64 s, .int .i64 0, .string v] 29)) := (Below.refl _ _).alloc (Nat.le_refl _) _
  have HB := Lib.hid hb; clear hb
  go_enter Try.func13, Try.ntmps13
  go_wp2_with fail
  exact bodyPost_ret (v := .agg #[.int .u8 3, .int .i64 g, .int .i64 s, .int .i64 0, .string v]) (by simp [results, Try.results13, go_sem]) rfl ⟨rfl, HB.out⟩
/-- what records make -/
def aftF : Sb → Bool → List RM.Rc → Sb × Bool
  | x, o, [] => (x, o)
  | x, o, r :: l => aftF (SM.appF x r).1 (o && decide ((SM.appF x r).2 = 0)) l
theorem aft_drop {l : List RM.Rc} {k : Nat} {r : RM.Rc} (h : l[k]? = some r) (y : Sb) (o : Bool) : aftF y o (l.drop k) = aftF (SM.appF y r).1 (o && decide ((SM.appF y r).2 = 0)) (l.drop (k + 1)) := by
  obtain ⟨hk, rfl⟩ := List.getElem?_eq_some_iff.1 h
  rw [List.drop_eq_getElem_cons hk]
  rfl
theorem app_zero {x : Sb} {r : RM.Rc} (h : (SM.appF x r).2 ≠ 0) : (SM.appF x r).1 = SM.zero := by
  unfold SM.appF at h ⊢
  by_cases h1 : ¬ SM.may x ∨ ¬ RM.may r
  · rw [if_pos h1]
  rw [if_neg h1] at h ⊢
  by_cases h2 : (x.logs.length : Int) ≤ r.g
  · rw [if_pos h2]
  rw [if_neg h2] at h ⊢
  by_cases h3 : r.s ≤ SM.llen x.logs r.g ∨ (r.k = 3 ∧ r.s ≠ SM.llen x.logs r.g + 1)
  · rw [if_pos h3]
  rw [if_neg h3] at h ⊢
  by_cases h4 : r.k = 1
  · rw [if_pos h4] at h ⊢
    by_cases h5 : (SM.prepF (SM.find x.votes r.g r.s) r.b).2 ≠ 0
    · rw [if_pos h5]
    · rw [if_neg h5] at h; exact absurd rfl h
  rw [if_neg h4] at h ⊢
  by_cases h6 : r.k = 2
  · rw [if_pos h6] at h ⊢
    by_cases h5 : (SM.accF (SM.find x.votes r.g r.s) r.b r.v).2 ≠ 0
    · rw [if_pos h5]
    · rw [if_neg h5] at h; exact absurd rfl h
  rw [if_neg h6] at h
  exact absurd rfl h
theorem fit_zero : Fit SM.zero := by
  constructor
  · intro l hl; cases hl
  · intro v hv; cases hv
theorem fit_app (x : Sb) (r : RM.Rc) : Fit (SM.appF x r).1 := by
  by_cases h : (SM.appF x r).2 = 0
  · exact fit_may (SM.done_may (SM.app_done h))
  · rw [app_zero h]; exact fit_zero
theorem vrc_len (l : List RM.Rc) : ∀ a ∈ l, (RP.vrec a).length = 5 := fun _ _ => rfl
/-- the five cells of a record in its row -/
theorem rdg_rc {w : World} {bl o m k : Nat} {l : List RM.Rc} {x : RM.Rc} (h : RdG w 5 (some ⟨bl, o, none⟩) m (flat RP.vrec l)) (hk : l[k]? = some x) :
    bl < w.heap.size ∧ w.cell? ⟨bl, o + k * 5, none⟩ = some (.int .u8 x.k) ∧ w.cell? ⟨bl, o + k * 5 + 1, none⟩ = some (.int .i64 x.g) ∧ w.cell? ⟨bl, o + k * 5 + 2, none⟩ = some (.int .i64 x.s) ∧
      w.cell? ⟨bl, o + k * 5 + 3, none⟩ = some (.int .i64 x.b) ∧ w.cell? ⟨bl, o + k * 5 + 4, none⟩ = some (.string x.v) := by
  have hkl := (List.getElem?_eq_some_iff.1 hk).1
  have hm : 0 < m := by
    have := h.1
    rw [flat_length (vrc_len l)] at this
    omega
  obtain ⟨ad, e, hbl, hc⟩ := h.2 hm
  injection e with e
  subst e
  have hg : ∀ j u, j < 5 → (RP.vrec x)[j]? = some u → w.cell? ⟨bl, o + k * 5 + j, none⟩ = some u := fun j u hj hu => by
    have := hc (k * 5 + j) u (by rw [flat_get (vrc_len l) hk j hj]; exact hu)
    rw [addr_add] at this
    rw [show o + k * 5 + j = o + (k * 5 + j) by omega]
    exact this
  exact ⟨hbl, hg 0 _ (by omega) rfl, hg 1 _ (by omega) rfl, hg 2 _ (by omega) rfl, hg 3 _ (by omega) rfl, hg 4 _ (by omega) rfl⟩
/-- behind the call of a round: its answer in a variable of its own -/
def AfMid (wr : World) (y : Sb) (e : Int) (u8 u9 : Value) (wx : World) : Prop :=
  ∃ g A c B d, u8 = .pointer (some ⟨g, 0, none⟩) ∧ u9 = .int .i64 e ∧ Below wr.heap.size wr wx ∧ wr.heap.size ≤ g ∧ Box wx g 25 #[.slice A y.logs.length c, .slice B y.votes.length d] ∧ StTy wx (.agg #[.slice A y.logs.length c, .slice B y.votes.length d]) y
section
variable {wr w4 : World} {A B : Option Addr} {c d : Nat} {y : Sb} {e : Int} {a b : Value}
theorem af_1 (hs : StTy w4 (.agg #[.slice A y.logs.length c, .slice B y.votes.length d]) y) (hb : Below wr.drew.heap.size wr.drew w4) :
    Below wr.heap.size wr w4 ∧ AfMid wr y e (.pointer (some ⟨w4.heap.size, 0, none⟩)) (.int .i64 e) (w4.alloc (.cells #[.slice A y.logs.length c, .slice B y.votes.length d] 25)) := by
  have h : Below wr.heap.size wr w4 := bmore ((Below.refl _ _).drew) hb (Nat.le_refl _)
  exact ⟨h, _, A, c, B, d, rfl, rfl, h.alloc h.size _, h.size, Box.new _ _ _, hs.below ((Below.refl _ _).alloc (Nat.le_refl _) _)⟩
theorem af_2 (hs : StTy w4 (.agg #[.slice A y.logs.length c, .slice B y.votes.length d]) y) (hb : Below ((wr.alloc (.cells #[a, b] 25)).drew).heap.size ((wr.alloc (.cells #[a, b] 25)).drew) w4) :
    Below wr.heap.size wr w4 ∧ Box w4 wr.heap.size 25 #[a, b] ∧ AfMid wr y e (.pointer (some ⟨wr.heap.size, 0, none⟩)) (.int .i64 e) ((w4.setCell ⟨wr.heap.size, 0, none⟩ (.slice A y.logs.length c)).setCell ⟨wr.heap.size, 1, none⟩ (.slice B y.votes.length d)) := by
  have h : Below wr.heap.size wr w4 := bmore (((Below.refl _ _).alloc (Nat.le_refl _) _).drew) hb (Nat.le_refl _)
  have hx : Box w4 wr.heap.size 25 #[a, b] := ((Box.new wr 25 #[a, b]).drew).below hb (by show wr.heap.size < (wr.alloc (.cells #[a, b] 25)).heap.size; simp)
  have k2 : Kept isSt w4 ((w4.setCell ⟨wr.heap.size, 0, none⟩ (.slice A y.logs.length c)).setCell ⟨wr.heap.size, 1, none⟩ (.slice B y.votes.length d)) := (Kept.set (S := isSt) hx rfl _).trans (Kept.set (S := isSt) (hx.stored 0 _) rfl _)
  exact ⟨h, hx, _, A, c, B, d, rfl, rfl, (h.setCell (p := ⟨wr.heap.size, 0, none⟩) (Nat.le_refl _) _).setCell (p := ⟨wr.heap.size, 1, none⟩) (Nat.le_refl _) _, Nat.le_refl _, hx.put _ _, hs.kept k2 (by unfold isSt; decide) (by unfold isSt; decide) (by unfold isSt; decide)⟩
end
def AftPost (l : List RM.Rc) (W : World) (e : Ending) (w' : World) : Prop := ∃ v, e = .returned (.tuple #[v, .bool (aftF (SM.newF 2).1 true l).2]) ∧ StTy w' v (aftF (SM.newF 2).1 true l).1 ∧ Below W.heap.size W w'
theorem aft_fin {l : List RM.Rc} {W wr : World} {g0 g1 : Nat} {vL vV : Value} {y : Sb} {o : Bool} (h : RpR W g0 g1 vL vV y wr) (he : aftF (SM.newF 2).1 true l = (y, o)) :
    AftPost l W (.returned (.tuple #[.agg #[vL, vV], .bool o])) ((wr.setCell ⟨g0, 0, none⟩ vL).setCell ⟨g0, 1, none⟩ vV) := by
  have h0 := h.hg
  have b1 := h.bz.stored 0 vL
  have k2 : Kept isSt wr ((wr.setCell ⟨g0, 0, none⟩ vL).setCell ⟨g0, 1, none⟩ vV) := (Kept.set (S := isSt) h.bz rfl _).trans (Kept.set (S := isSt) b1 rfl _)
  exact ⟨_, by rw [he], by rw [he]; exact h.st.kept k2 (by unfold isSt; decide) (by unfold isSt; decide) (by unfold isSt; decide), (h.bl.setCell (p := ⟨g0, 0, none⟩) (by show _ ≤ g0; omega) _).setCell (p := ⟨g0, 1, none⟩) (by show _ ≤ g0; omega) _⟩
set_option maxHeartbeats 16000000 in
theorem after_any (NP : NewP) (AP : AppP) (bl o n c : Nat) (l : List RM.Rc) (W : World) (hr : RdG W 5 (some ⟨bl, o, none⟩) n (flat RP.vrec l)) (hl : l.length = n) (hn : n ≤ maxLen) (hF : ∀ r ∈ l, RcFit r) :
    Calls Try.prog 9 #[.slice (some ⟨bl, o, none⟩) n c] W (AftPost l W) := by
  unfold maxLen at hn
  have hb0 : Below W.heap.size W (W.alloc (.cells #[.slice none 0 0, .slice none 0 0] 25)) := (Below.refl _ _).alloc (Nat.le_refl _) _
  have HB := Lib.hid hb0
  have BZ := Lib.hid (Box.new W 25 #[.slice none 0 0, .slice none 0 0])
  have HR := Lib.hid (fun w (h : Below W.heap.size W w) => RdG.below hr h)
  have HF := Lib.hid hF
  have HL := Lib.hid hl
  clear hr hl hF hb0
  go_enter Try.func9, Try.ntmps9
  go_upto_region 1 with (fail)
  generalize W.alloc (.cells #[.slice none 0 0, .slice none 0 0] 25) = w1 at HB BZ ⊢
  obtain ⟨g0, hg0⟩ : ∃ g0, W.heap.size = g0 := ⟨_, rfl⟩
  rw [hg0] at BZ
  simp only [hg0]
  have HG := Lib.hid hg0
  clear hg0
  go_wp2_with fail
  refine (NP 2 w1).mono ?_
  rintro e w2 ⟨v2, rfl, hst, hb⟩
  obtain ⟨A1, c1, B1, d1, rfl⟩ := ty_slices hst
  have h20 : (SM.newF 2).2 = 0 := by rfl
  rw [h20]
  obtain ⟨y0, ho⟩ : ∃ y0, y0 = (SM.newF 2).1 := ⟨_, rfl⟩
  have HFI := Lib.hid (show Fit y0 by rw [ho]; exact new_fit h20)
  rw [← ho] at hst ⊢
  have HO := Lib.hid ho
  have S0 := Lib.hid (show RpR W g0 w2.heap.size (.slice A1 y0.logs.length c1) (.slice B1 y0.votes.length d1) y0 (w2.alloc (.cells #[.slice A1 y0.logs.length c1, .slice B1 y0.votes.length d1] 25)) from by
    have hb3 := bmore HB.out hb (by have := HB.out.size; have := HG.out; omega)
    have hba : Below w2.heap.size w2 (w2.alloc (.cells #[.slice A1 y0.logs.length c1, .slice B1 y0.votes.length d1] 25)) := (Below.refl _ _).alloc (Nat.le_refl _) _
    have bz2 := BZ.out.below hb BZ.out.lt
    exact ⟨bmore hb3 hba (by have := hb3.size; omega), HG.out.symm, bz2.lt, bz2.alloc _, Box.new _ _ _, hst.below hba⟩)
  have HRE := Lib.hid (show aftF (SM.newF 2).1 true l = aftF y0 true (l.drop 0) by rw [HO.out]; rfl)
  clear hst hb HB BZ ho h20 HO
  go_upto_region 2 with (fail)
  generalize w2.alloc (.cells #[.slice A1 y0.logs.length c1, .slice B1 y0.votes.length d1] 25) = w3 at S0 ⊢
  generalize w2.heap.size = g1 at S0 ⊢
  go_wp2_with fail
  go_loopw [6, 7] (fun ob i wr => ∃ (k : Nat) (b : Bool) (y : Sb) (A2 : Option Addr) (c2 : Nat) (B2 : Option Addr) (d2 : Nat), k ≤ n ∧ ob = .bool b ∧ i = .int .i64 k ∧ Hid (RpR W g0 g1 (.slice A2 y.logs.length c2) (.slice B2 y.votes.length d2) y wr) ∧ Hid (Fit y) ∧ Hid (aftF (SM.newF 2).1 true l = aftF y b (l.drop k))) (fun _ i _ => n - (intOf i).toNat)
  case atStart => exact ⟨0, true, y0, A1, c1, B1, d1, Nat.zero_le _, rfl, rfl, S0, HFI, HRE⟩
  case round =>
    clear S0 HFI HRE
    obtain ⟨k, b, y, A2, c2, B2, d2, hk, rfl, rfl, S, HFI, HRE⟩ := hrel
    by_cases hlt : k < n
    · obtain ⟨r, hkr⟩ : ∃ r, l[k]? = some r := ⟨_, List.getElem?_eq_getElem (by have := HL.out; omega)⟩
      obtain ⟨hbl, x0, x1, x2, x3, x4⟩ := rdg_rc (HR.out _ S.out.bl) hkr
      have hrv := HF.out r (List.mem_of_getElem? hkr)
      have HD := Lib.hid (aft_drop hkr y b)
      have HAP := Lib.hid (fun (U : World) (hU : Below wr.heap.size wr U) => AP (.agg #[.slice A2 y.logs.length c2, .slice B2 y.votes.length d2]) y r.k r.g r.s r.b r.v U (S.out.st.below hU).is HFI.out hrv.1 hrv.2.1 hrv.2.2)
      have HF2 := Lib.hid (fit_app y r)
      obtain ⟨rk, rg, rs, rb, rv⟩ := r
      simp only at x0 x1 x2 x3 x4 HAP
      obtain ⟨q, hq⟩ : ∃ q, q = SM.appF y ⟨rk, rg, rs, rb, rv⟩ := ⟨_, rfl⟩
      unfold AppPost at HAP
      rw [← hq] at HD HF2
      simp only [← hq] at HAP
      clear hq
      obtain ⟨y2, e2⟩ := q
      simp only at HD HF2 HAP
      have hk0 : (0 : Int) ≤ (k : Int) := by omega
      have hkn : (k : Int) < (n : Int) := by omega
      have HSS := Lib.hid (fun (w' : World) (h : Below wr.heap.size wr w') => show w'.cell? ⟨g1, 0, none⟩ = some (.slice A2 y.logs.length c2) ∧ w'.cell? ⟨g1, 1, none⟩ = some (.slice B2 y.votes.length d2) ∧ w'.cell? ⟨bl, o + k * 5, none⟩ = some (.int .u8 rk) ∧ w'.cell? ⟨bl, o + k * 5 + 1, none⟩ = some (.int .i64 rg) ∧ w'.cell? ⟨bl, o + k * 5 + 2, none⟩ = some (.int .i64 rs) ∧ w'.cell? ⟨bl, o + k * 5 + 3, none⟩ = some (.int .i64 rb) ∧ w'.cell? ⟨bl, o + k * 5 + 4, none⟩ = some (.string rv) from by
        obtain ⟨s0, s1, _, _⟩ := (S.out.bs.below h S.out.bs.lt).two
        exact ⟨s0, s1, (h.cell hbl).trans x0, (h.cell hbl).trans x1, (h.cell hbl).trans x2, (h.cell hbl).trans x3, (h.cell hbl).trans x4⟩)
      clear x0 x1 x2 x3 x4 hkr hrv hbl
      obtain ⟨s0, s1, _, _⟩ := S.out.bs.two
      go_upto_region 6 with (fail)
      clear s0 s1
      go_cut [8, 9] (fun u8 u9 wx => AfMid wr y2 e2 u8 u9 wx)
      case first =>
        have bb1 : Below wr.heap.size wr wr.drew := (Below.refl _ _).drew
        go_region_held3 (fun w' => w'.cell? ⟨g1, 0, none⟩ = some (.slice A2 y.logs.length c2) ∧ w'.cell? ⟨g1, 1, none⟩ = some (.slice B2 y.votes.length d2) ∧ w'.cell? ⟨bl, o + k * 5, none⟩ = some (.int .u8 rk) ∧ w'.cell? ⟨bl, o + k * 5 + 1, none⟩ = some (.int .i64 rg) ∧ w'.cell? ⟨bl, o + k * 5 + 2, none⟩ = some (.int .i64 rs) ∧ w'.cell? ⟨bl, o + k * 5 + 3, none⟩ = some (.int .i64 rb) ∧ w'.cell? ⟨bl, o + k * 5 + 4, none⟩ = some (.string rv))
          (first | exact HSS.out _ bb2 | exact HSS.out _ (bb2.alloc bb2.size _) | exact HSS.out _ ((bb2.setCell (p := ⟨_, 0, none⟩) (Nat.le_refl _) _).setCell (p := ⟨_, 1, none⟩) (Nat.le_refl _) _) | exact HSS.out _ bb1 | exact HSS.out _ (((Below.refl _ _).alloc (Nat.le_refl _) _).drew) | go_keep)
          (first
            | (go_at_call 14; ((first | with_reducible refine (HAP.out _ bb1).mono ?_ | with_reducible refine (HAP.out _ (((Below.refl _ _).alloc (Nat.le_refl _) _).drew)).mono ?_); rintro e wa ⟨v6, rfl, hst, ha⟩; obtain ⟨A3, c3, B3, d3, rfl⟩ := ty_slices hst; (first | (have hq := af_2 (e := e2) hst ha; have bb2 := hq.1; obtain ⟨q0, q1, q2, q3⟩ := hq.2.1.two; have mid := Lib.hid hq.2.2; clear hq) | (have hq := af_1 (e := e2) hst ha; have bb2 := hq.1; have mid := Lib.hid hq.2; clear hq)); clear ha hst)))
        all_goals (go_wp2_with fail; go_meet; case rel => exact mid.out)
      case rest =>
        obtain ⟨gy, A3, c3, B3, d3, rfl, rfl, hmb, hmg, hmv, hst⟩ := hcut
        have S2 := Lib.hid (S.out.below hmb)
        obtain ⟨o0, o1, _, _⟩ := hmv.two
        obtain ⟨_, _, f2, f3⟩ := S2.out.bs.two
        have NX := Lib.hid (S2.out.next hst)
        have HE := Lib.hid (HRE.out.trans HD.out)
        clear S HSS HAP HRE HD hmb hmg hmv hst S2
        by_cases he2 : e2 = 0
        · have b2 : (e2 == 0) = true := by simpa using he2
          have HE2 := Lib.hid (show aftF (SM.newF 2).1 true l = aftF y2 b (l.drop (k + 1)) by rw [HE.out]; simp [he2])
          clear he2 HE
          rcases b with _ | _
          all_goals
            go_wp2_with fail
            go_roundw
            case rel => exact ⟨k + 1, _, y2, A3, c3, B3, d3, by omega, rfl, by go_num, NX, HF2, HE2⟩
            case measure => simp [intOf]; omega
        · have b2 : (e2 == 0) = false := by simpa using he2
          have HE2 := Lib.hid (show aftF (SM.newF 2).1 true l = aftF y2 false (l.drop (k + 1)) by rw [HE.out]; simp [he2])
          clear he2 HE
          rcases b with _ | _
          all_goals
            go_wp2_with fail
            go_roundw
            case rel => exact ⟨k + 1, _, y2, A3, c3, B3, d3, by omega, rfl, by go_num, NX, HF2, HE2⟩
            case measure => simp [intOf]; omega
    · obtain rfl : k = n := by omega
      have HE := Lib.hid (show aftF (SM.newF 2).1 true l = (y, b) by rw [HRE.out, ← HL.out, List.drop_length]; rfl)
      clear HRE
      obtain ⟨s0, s1, _, _⟩ := S.out.bs.two
      obtain ⟨z0, z1, f0, f1⟩ := S.out.bz.two
      have hne : g1 ≠ g0 := by have := S.out.h1; omega
      go_wp2_with fail
      exact bodyPost_ret (v := .tuple #[.agg #[.slice A2 y.logs.length c2, .slice B2 y.votes.length d2], .bool b]) (by simp [results, Try.results9, go_sem, z0, z1]; try rfl) rfl (aft_fin S.out HE.out)
end Go.Proofs.Ytohiemdodffhoaa.SP

namespace Go.Proofs.Ytohiemdodffhoaa.SP
open Go.RowKit
open SM (Sn Sb Vo)
set_option linter.unusedVariables false
set_option linter.unusedSimpArgs false
set_option maxRecDepth 100000

def AtP : Prop := ∀ (v : Value) (x : Sb) (g s : Int) (W : World), StIs W v x → Fit x →
    Calls Try.prog 22 #[v, .int .i64 g, .int .i64 s] W fun e w' =>
      e = .returned (.tuple #[.agg #[.int .i64 (SM.atF x g s).1.p, .int .i64 (SM.atF x g s).1.b, .string (SM.atF x g s).1.v], .int .i64 (SM.atF x g s).2]) ∧ Below W.heap.size W w'
theorem fit_aft : ∀ (l : List RM.Rc) (y : Sb) (o : Bool), Fit y → Fit (aftF y o l).1
  | [], y, o, h => h
  | r :: l, y, o, h => fit_aft l _ _ (fit_app y r)
theorem fit_aft2 (l : List RM.Rc) : Fit (aftF (SM.newF 2).1 true l).1 := fit_aft l _ _ (new_fit rfl)
def exX : ByteArray := ⟨#[120]⟩
def exL : List RM.Rc := [⟨1, 1, 3, 17, ⟨#[]⟩⟩, ⟨2, 1, 3, 17, exX⟩, ⟨1, 1, 3, 25, ⟨#[]⟩⟩]
theorem ex_ok : (aftF (SM.newF 2).1 true exL).2 = true := by decide +kernel
theorem ex_at : SM.atF (aftF (SM.newF 2).1 true exL).1 1 3 = (⟨25, 17, exX⟩, 0) := by decide +kernel
theorem ex_fit : ∀ r ∈ exL, RcFit r := by
  intro x hx
  unfold exL at hx
  simp only [List.mem_cons, List.not_mem_nil, or_false] at hx
  rcases hx with rfl | rfl | rfl <;> decide
set_option maxHeartbeats 4000000 in
theorem alive_any (NP : NewP) (AP : AppP) (TP : AtP) (w : World) : Calls Try.prog 17 #[] w fun e w' => e = .returned (.bool true) ∧ Below w.heap.size w w' := by
  go_enter Try.func17, Try.ntmps17
  go_wp2_with fail
  refine (lprom_any 1 3 17 _).mono ?_
  rintro e w1 ⟨rfl, hb⟩
  have HB := Lib.hid hb
  clear hb
  go_wp2_with fail
  refine (lacc_any 1 3 17 exX _).mono ?_
  rintro e w2 ⟨rfl, hb⟩
  replace HB := Lib.hid (bmore HB.out hb (Nat.le_refl _))
  clear hb
  go_wp2_with fail
  refine (lprom_any 1 3 25 _).mono ?_
  rintro e w3 ⟨rfl, hb⟩
  replace HB := Lib.hid (bmore HB.out hb (Nat.le_refl _))
  clear hb
  go_wp2_with fail
  have hal : Below w3.heap.size w3 (w3.alloc (.cells #[.int .u8 1, .int .i64 1, .int .i64 3, .int .i64 17, .string ⟨#[]⟩, .int .u8 2, .int .i64 1, .int .i64 3, .int .i64 17, .string ⟨#[120]⟩, .int .u8 1, .int .i64 1, .int .i64 3, .int .i64 25, .string ⟨#[]⟩] 29)) := (Below.refl _ _).alloc (Nat.le_refl _) _
  have hrl : RdG (w3.alloc (.cells #[.int .u8 1, .int .i64 1, .int .i64 3, .int .i64 17, .string ⟨#[]⟩, .int .u8 2, .int .i64 1, .int .i64 3, .int .i64 17, .string ⟨#[120]⟩, .int .u8 1, .int .i64 1, .int .i64 3, .int .i64 25, .string ⟨#[]⟩] 29)) 5 (some ⟨w3.heap.size, 0, none⟩) 3 (flat RP.vrec exL) := rdG_box (Box.new _ _ _) rfl rfl
  refine (after_any NP AP w3.heap.size 0 3 3 exL _ hrl rfl (by decide) ex_fit).mono ?_
  rintro e w4 ⟨v, rfl, hst, hb⟩
  rw [ex_ok]
  replace HB := Lib.hid (bmore (bmore HB.out hal (Nat.le_refl _)) hb (Nat.le_refl _))
  have HA := Lib.hid ex_at
  have HFI := Lib.hid (fit_aft2 exL)
  clear hal hrl hb
  generalize (aftF (SM.newF 2).1 true exL).1 = y at hst HA HFI
  obtain ⟨A, c, B, d, rfl⟩ := ty_slices hst
  have hb2 : Below w4.heap.size w4 (w4.alloc (.cells #[.slice A y.logs.length c, .slice B y.votes.length d] 25)) := (Below.refl _ _).alloc (Nat.le_refl _) _
  have BX := Lib.hid (Box.new w4 25 #[.slice A y.logs.length c, .slice B y.votes.length d])
  replace HB := Lib.hid (bmore HB.out hb2 (Nat.le_refl _))
  have HST := Lib.hid (hst.below hb2).is
  clear hst hb2
  go_upto_region 2 with (fail)
  generalize w4.alloc (.cells #[.slice A y.logs.length c, .slice B y.votes.length d] 25) = w5 at HB BX HST ⊢
  generalize w4.heap.size = g1 at BX ⊢
  obtain ⟨b0, b1, _, _⟩ := BX.out.two
  go_wp2_with fail
  refine (TP _ y 1 3 w5 HST.out HFI.out).mono ?_
  rintro e w6 ⟨rfl, hb⟩
  replace HB := Lib.hid (bmore HB.out hb (Nat.le_refl _))
  rw [HA.out]
  simp only [exX]
  clear hb b0 b1 HST HA HFI
  have HBF := Lib.hid (bmore HB.out ((Below.refl w6.heap.size w6).alloc (Nat.le_refl _) (.cells #[.int .i64 25, .int .i64 17, .string ⟨#[120]⟩] 48)) (Nat.le_refl _))
  go_wp2_with fail
  go_ret
  exact ⟨by rfl, HBF.out⟩
end Go.Proofs.Ytohiemdodffhoaa.SP
