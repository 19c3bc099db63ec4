/-
  The document's own Begin (towncrierref08), and the laws' turn. Conditions: as each theorem says.
-/
import Derived.Test.YtmcfamoicdmkdaaAttW
import Derived.Test.YtmcfamoicdmkdaaBallotRC
import Derived.Test.YtmcfamoicdmkdaaQuorumRA
namespace Go.Proofs.Ytmcfamoicdmkdaa
open Go.RowKit
set_option linter.unusedVariables false
set_option linter.unusedSimpArgs false

/-- a row that may be stored into -/
def RowOk (w : World) (lo hi : Nat) (e : TypeId) (s : Nat) (A : Option Addr) (n : Nat) : Prop := 0 < n → ∃ g cur, A = some ⟨g, 0, none⟩ ∧ lo ≤ g ∧ g < hi ∧ Box w g e cur ∧ n * s ≤ cur.size
theorem rowOk_own {w : World} {base s n c : Nat} {e : TypeId} {A : Option Addr} {xs : List Value} (h : w.ownsRow base e s (.slice A n c) n xs) : RowOk w base w.heap.size e s A n := by
  intro hn
  rcases h.2 with ⟨_, h0⟩ | ⟨g, cap, cur, hv, hb, hx, hnc, _, hs, _⟩
  · omega
  · injection hv with h1 h2 h3
    exact ⟨g, cur, h1, hb, Box.lt hx, hx, by rw [hs]; exact Nat.mul_le_mul_right s hnc⟩
theorem RowOk.set {w : World} {lo hi s n g i : Nat} {e e' : TypeId} {A : Option Addr} {cur : Array Value} (h : RowOk w lo hi e s A n) (hb : Box w g e' cur) (u : Value) : RowOk (w.setCell ⟨g, i, none⟩ u) lo hi e s A n := by
  intro hn
  obtain ⟨g', cur', h1, h2, h3, h4, h5⟩ := h hn
  by_cases hg : g' = g
  · subst hg
    exact ⟨g', _, h1, h2, h3, h4.stored i u, by simpa using h5⟩
  · exact ⟨g', cur', h1, h2, h3, h4.far (p := ⟨g, i, none⟩) hg u, h5⟩
theorem RowOk.alloc {w : World} {lo hi s n : Nat} {e : TypeId} {A : Option Addr} (h : RowOk w lo hi e s A n) (o : Obj) : RowOk (w.alloc o) lo hi e s A n := by
  intro hn
  obtain ⟨g', cur', h1, h2, h3, h4, h5⟩ := h hn
  exact ⟨g', cur', h1, h2, h3, h4.alloc o, h5⟩
/-- the word of turn's loops -/
def TurnOk (w : World) (base : Nat) (A : Option Addr) (n c : Nat) (B : Option Addr) (m d : Nat) (C : Option Addr) (k f : Nat) (c0 c1 c3 c4 : Value) (wr : World) : Prop :=
  Below base w wr ∧ Box wr w.heap.size 25 #[c0, c1, .slice A n c, c3, c4, .slice B m d, .slice C k f] ∧ RowOk wr base w.heap.size 3 1 A n ∧ RowOk wr base w.heap.size 31 3 B m ∧ RowOk wr base w.heap.size 3 1 C k
theorem TurnOk.set {w wr : World} {base n c m d k f g i : Nat} {A B C : Option Addr} {c0 c1 c3 c4 : Value} {e : TypeId} {cur : Array Value} (h : TurnOk w base A n c B m d C k f c0 c1 c3 c4 wr) (hb : Box wr g e cur) (h1 : base ≤ g) (h2 : g < w.heap.size) (u : Value) :
    TurnOk w base A n c B m d C k f c0 c1 c3 c4 (wr.setCell ⟨g, i, none⟩ u) :=
  ⟨h.1.setCell (p := ⟨g, i, none⟩) h1 u, h.2.1.far (p := ⟨g, i, none⟩) (by show w.heap.size ≠ g; omega) u, h.2.2.1.set hb u, h.2.2.2.1.set hb u, h.2.2.2.2.set hb u⟩
def TurnRet (base : Nat) (w : World) (e : Ending) (w' : World) : Prop := e = .returned (.tuple #[]) ∧ Below base w w'

set_option maxRecDepth 100000 in
set_option maxHeartbeats 4000000 in
theorem turn_any (v : Value) (a : AM.At) (base : Nat) (w : World) (H : AtOwn w base v a) (hbase : base ≤ w.heap.size) (F : Fit a) :
    Calls Try.prog 24 #[v] w (TurnRet base w) := by
  obtain ⟨x, y, z, rfl, h1, h2, h3⟩ := H
  obtain ⟨A, c, rfl, _, _⟩ := own_form h1
  obtain ⟨B, d, rfl, _, _⟩ := own_form h2
  obtain ⟨C, f, rfl, _, _⟩ := own_form h3
  obtain ⟨n, hn⟩ : ∃ n, n = a.ms.length := ⟨_, rfl⟩
  obtain ⟨m, hm⟩ : ∃ m, m = a.ps.length := ⟨_, rfl⟩
  obtain ⟨k, hk⟩ : ∃ k, k = a.ac.length := ⟨_, rfl⟩
  have f1 : n ≤ 2000 := by rw [hn]; exact F.ms
  have f2 : m ≤ 2000 := by rw [hm]; exact F.ps
  have f3 : k ≤ 2000 := by rw [hk]; exact F.ac
  rw [← hn] at h1
  rw [← hm] at h2
  rw [← hk] at h3
  rw [← hn, ← hm, ← hk]
  clear hn hm hk F
  generalize a.ph = ph
  generalize a.ba = ba
  generalize a.wi = wi
  generalize a.va = va
  have hst : TurnOk w base A n c B m d C k f (.int .u8 ph) (.int .i64 ba) (.string wi) (.string va) (w.alloc (.cells #[.int .u8 ph, .int .i64 ba, .slice A n c, .string wi, .string va, .slice B m d, .slice C k f] 25)) :=
    ⟨(Below.refl _ _).alloc hbase _, Box.new _ _ _, (rowOk_own h1).alloc _, (rowOk_own h2).alloc _, (rowOk_own h3).alloc _⟩
  have HS := Lib.hid hst
  clear hst h1 h2 h3
  go_enter Try.func24, Try.ntmps24
  go_wp2_with fail
  go_loopw [2] (fun i wr => ∃ j : Nat, j ≤ n ∧ i = .int .i64 j ∧ TurnOk w base A n c B m d C k f (.int .u8 ph) (.int .i64 ba) (.string wi) (.string va) wr) (fun i _ => n - (intOf i).toNat)
  case atStart => exact ⟨0, by omega, rfl, HS.out⟩
  case round =>
    clear HS
    obtain ⟨j, hj, rfl, hT⟩ := hrel
    obtain ⟨⟨t0, t1, t2, t3, t4, t5, t6⟩, _⟩ := hT.2.1.seven
    by_cases hlt : j < n
    · obtain ⟨g, cur, rfl, g1, g2, hx, hsz⟩ := hT.2.2.1 (by omega)
      have hcell : wr.cell? ⟨g, j, none⟩ = some (cur[j]'(by omega)) := by rw [hx.cell j, Array.getElem?_eq_getElem (by omega)]
      have hfr := hx.frozen j
      have HT := Lib.hid (hT.set (i := j) hx g1 g2 (.int .i64 77))
      generalize cur[j]'(by omega) = cj at hcell
      clear hT hx
      go_wp2_with fail
      go_roundw
      case rel => exact ⟨j + 1, by omega, by go_num, HT.out⟩
      case measure => simp [intOf]; omega
    · obtain rfl : n = j := by omega
      have HS2 := Lib.hid hT
      clear hT
      go_wp2_with fail
      clear t0 t1 t2 t3 t4 t5 t6
      go_loopw [3] (fun i wr => ∃ j : Nat, j ≤ m ∧ i = .int .i64 j ∧ TurnOk w base A n c B m d C k f (.int .u8 ph) (.int .i64 ba) (.string wi) (.string va) wr) (fun i _ => m - (intOf i).toNat)
      case atStart => exact ⟨0, by omega, rfl, HS2.out⟩
      case round =>
        clear HS2
        obtain ⟨j, hj, rfl, hT⟩ := hrel
        obtain ⟨⟨t0, t1, t2, t3, t4, t5, t6⟩, _⟩ := hT.2.1.seven
        by_cases hlt : j < m
        · obtain ⟨g, cur, rfl, g1, g2, hx, hsz⟩ := hT.2.2.2.1 (by omega)
          have hcell : wr.cell? ⟨g, j * 3, none⟩ = some (cur[j * 3]'(by omega)) := by rw [hx.cell (j * 3), Array.getElem?_eq_getElem (by omega)]
          have hfr := hx.frozen (j * 3)
          have HT := Lib.hid (hT.set (i := j * 3) hx g1 g2 (.int .i64 77))
          generalize cur[j * 3]'(by omega) = cj at hcell
          clear hT hx
          go_wp2_with fail
          go_roundw
          case rel => exact ⟨j + 1, by omega, by go_num, HT.out⟩
          case measure => simp [intOf]; omega
        · obtain rfl : m = j := by omega
          have HS3 := Lib.hid hT
          clear hT
          go_wp2_with fail
          clear t0 t1 t2 t3 t4 t5 t6
          go_loopw [4] (fun i wr => ∃ j : Nat, j ≤ k ∧ i = .int .i64 j ∧ TurnOk w base A n c B m d C k f (.int .u8 ph) (.int .i64 ba) (.string wi) (.string va) wr) (fun i _ => k - (intOf i).toNat)
          case atStart => exact ⟨0, by omega, rfl, HS3.out⟩
          case round =>
            clear HS3
            obtain ⟨j, hj, rfl, hT⟩ := hrel
            obtain ⟨⟨t0, t1, t2, t3, t4, t5, t6⟩, _⟩ := hT.2.1.seven
            by_cases hlt : j < k
            · obtain ⟨g, cur, rfl, g1, g2, hx, hsz⟩ := hT.2.2.2.2 (by omega)
              have hcell : wr.cell? ⟨g, j, none⟩ = some (cur[j]'(by omega)) := by rw [hx.cell j, Array.getElem?_eq_getElem (by omega)]
              have hfr := hx.frozen j
              have HT := Lib.hid (hT.set (i := j) hx g1 g2 (.int .i64 77))
              generalize cur[j]'(by omega) = cj at hcell
              clear hT hx
              go_wp2_with fail
              go_roundw
              case rel => exact ⟨j + 1, by omega, by go_num, HT.out⟩
              case measure => simp [intOf]; omega
            · obtain rfl : k = j := by omega
              have HE := Lib.hid hT.1
              clear hT
              go_wp2_with fail
              go_end0
              exact ⟨rfl, HE.out⟩
end Go.Proofs.Ytmcfamoicdmkdaa
