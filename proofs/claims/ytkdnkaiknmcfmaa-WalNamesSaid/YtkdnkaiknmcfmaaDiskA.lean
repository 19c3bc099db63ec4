/-
  What disk.Check answers, whatever disk. Conditions: the disk's slices read as bytes and writes.
-/
import Derived.Test.YtkdnkaiknmcfmaaMemP
import Derived.Test.YtkdnkaiknmcfmaaProg
import Derived.Deep.QuietTactic
import Derived.BigQuiet
namespace Go.Proofs.Ytkdnkaiknmcfmaa
open Go.RowKit
set_option linter.unusedVariables false

def MayIs (b : List UInt8) (ps : List DM.Wr) (x : Int) : Prop := (DM.may b ps ∧ x = 0) ∨ (¬ DM.may b ps ∧ x = 30)
theorem mayIs_ex (b : List UInt8) (ps : List DM.Wr) : ∃ x, MayIs b ps x := by
  by_cases h : DM.may b ps
  · exact ⟨0, .inl ⟨h, rfl⟩⟩
  · exact ⟨30, .inr ⟨h, rfl⟩⟩

def CheckPost (w : World) (b : List UInt8) (ps : List DM.Wr) (e : Ending) (w' : World) : Prop := ∃ x, e = .returned (.int .i64 x) ∧ MayIs b ps x ∧ Below w.heap.size w w'
def CheckRel (w : World) (b : List UInt8) (ps : List DM.Wr) (k z : Nat) (wr : World) : Prop :=
  z = (DM.behind b (ps.take k)).length ∧ (∀ j, j ≤ k → (DM.behind b (ps.take j)).length ≤ 1048576) ∧ Below w.heap.size w wr
theorem checkRel_next {w wr w2 : World} {b : List UInt8} {ps : List DM.Wr} {k z z' : Nat} {s : Bool} {d : List UInt8} (h : CheckRel w b ps k z wr) (hk : ps[k]? = some (s, d)) (hz : z' = DM.more z (s, d)) (hle : z' ≤ 1048576) (hb : Below w.heap.size w w2) : CheckRel w b ps (k + 1) z' w2 := by
  obtain ⟨h1, h2, h3⟩ := h
  obtain ⟨hlt, he⟩ := List.getElem?_eq_some_iff.1 hk
  have e : (DM.behind b (ps.take (k + 1))).length = z' := by rw [DM.behind_take _ _ _ hlt, DM.step_length, he, hz, h1]
  refine ⟨e.symm, fun j hj => ?_, hb⟩
  rcases Nat.lt_or_ge k j with hlt | hge
  · have : j = k + 1 := by omega
    subst this
    omega
  · exact h2 j hge
theorem checkRel_bad {w wr w2 : World} {b : List UInt8} {ps : List DM.Wr} {k z z' : Nat} {s : Bool} {d : List UInt8} (h : CheckRel w b ps k z wr) (hk : ps[k]? = some (s, d)) (hz : z' = DM.more z (s, d)) (hle : 1048576 < z') (hb : Below w.heap.size w w2) : CheckPost w b ps (.returned (.int .i64 30)) w2 := by
  obtain ⟨h1, h2, h3⟩ := h
  obtain ⟨hlt, he⟩ := List.getElem?_eq_some_iff.1 hk
  have e : (DM.behind b (ps.take (k + 1))).length = z' := by rw [DM.behind_take _ _ _ hlt, DM.step_length, he, hz, h1]
  refine ⟨30, rfl, .inr ⟨fun hm => ?_, rfl⟩, hb⟩
  have := hm.2 (k + 1) (by omega)
  omega
theorem checkRel_end {w wr : World} {b : List UInt8} {ps : List DM.Wr} {k z : Nat} (h : CheckRel w b ps k z wr) (hk : ps.length = k) (hle : k ≤ 1024) : CheckPost w b ps (.returned (.int .i64 0)) wr := by
  obtain ⟨h1, h2, h3⟩ := h
  exact ⟨0, rfl, .inl ⟨⟨by omega, fun j hj => h2 j (by omega)⟩, rfl⟩, h3⟩
theorem checkRel_start {w w1 : World} {b : List UInt8} {ps : List DM.Wr} {n : Nat} (hn : b.length = n) (hl : n ≤ 1048576) (hb : Below w.heap.size w w1) : CheckRel w b ps 0 n w1 := by
  refine ⟨by simp [DM.behind, hn], fun j hj => ?_, hb⟩
  obtain rfl : j = 0 := by omega
  simp [DM.behind]; omega

set_option maxHeartbeats 2000000 in
theorem check_any (A B : Option Addr) (n c m d : Nat) (b : List UInt8) (ps : List DM.Wr) (w : World) (HR : Hid (Rd w A n (bc b))) (HW : Hid (WaitIs w B m ps)) (hn : n ≤ 9223372036854775807) (hm : m ≤ 9223372036854775807) :
    Calls Try.prog 26 #[.agg #[.slice A n c, .slice B m d]] w (CheckPost w b ps) := by
  have hbl : b.length = n := by have := HR.out.1; rwa [bc_length] at this
  have hpl : ps.length = m := HW.out.1
  by_cases hn1 : 1048576 < n
  · have hfin : CheckPost w b ps (.returned (.int .i64 30)) (w.alloc (.cells #[.slice A n c, .slice B m d] 25)) :=
      ⟨30, rfl, .inr ⟨fun h => by have := DM.fits_zero h.2; omega, rfl⟩, (Below.refl _ _).alloc (Nat.le_refl _) _⟩
    have HF := Lib.hid hfin; clear hfin hbl hpl
    go_enter Try.func26, Try.ntmps26
    go_wp2_with fail
    go_ret
    exact HF.out
  by_cases hm1 : 1024 < m
  · have hfin : CheckPost w b ps (.returned (.int .i64 30)) (w.alloc (.cells #[.slice A n c, .slice B m d] 25)) :=
      ⟨30, rfl, .inr ⟨fun h => by have := h.1; omega, rfl⟩, (Below.refl _ _).alloc (Nat.le_refl _) _⟩
    have HF := Lib.hid hfin; clear hfin hbl hpl
    go_enter Try.func26, Try.ntmps26
    go_wp2_with fail
    go_ret
    exact HF.out
  have hb0 : Below w.heap.size w (w.alloc (.cells #[.slice A n c, .slice B m d] 25)) := (Below.refl _ _).alloc (Nat.le_refl _) _
  have hstart := checkRel_start (ps := ps) hbl (by omega) hb0
  have HS := Lib.hid hstart
  have HP := Lib.hid hpl
  clear hstart hb0 hbl hpl
  go_enter Try.func26, Try.ntmps26
  go_wp2_with fail
  go_loopw [3, 22] (fun z i wr => ∃ k x : Nat, k ≤ m ∧ i = .int .i64 k ∧ z = .int .i64 x ∧ x ≤ 1048576 ∧ CheckRel w b ps k x wr) (fun _ i _ => m - (intOf i).toNat)
  case atStart => exact ⟨0, n, by omega, rfl, rfl, by omega, HS.out⟩
  case round =>
    clear HS
    obtain ⟨k, x, hk, rfl, rfl, hx, hrel⟩ := hrel
    by_cases hlt : k < m
    · have hbel := hrel.2.2
      obtain ⟨bl, o, Ai, ci, s, dd, rfl, hadb, hps, hc0, hc1, h1, h2, hrd⟩ := (HW.out.below hbel).at_ hlt
      have hdd : dd.length ≤ 9223372036854775807 := by unfold maxLen at h2; omega
      have HRel := Lib.hid hrel
      have HPs := Lib.hid hps
      have hws := hbel.size
      clear hrel hps h1 h2 hrd
      obtain ⟨y, hy⟩ : ∃ y, y = dd.length := ⟨_, rfl⟩
      rw [← hy] at hc1 hdd
      have HY := Lib.hid hy; clear hy
      cases s with
      | true =>
        by_cases hle : y ≤ 1048576
        · have hnext := fun w2 (hb : Below w.heap.size w w2) => checkRel_next (z' := 0 + y) HRel.out HPs.out (by rw [HY.out]; rfl) (by omega) hb
          have HN := Lib.hid hnext; clear hnext
          go_wp2_with fail
          go_roundw
          case rel => exact ⟨k + 1, 0 + y, by omega, by go_num, by go_num, by omega, HN.out _ (by first | exact (hbel.alloc hws _) | (refine ((hbel.alloc hws _).setCell ?_ _).setCell ?_ _ <;> simp <;> omega))⟩
          case measure => simp [intOf]; omega
        · have hfin := fun w2 (hb : Below w.heap.size w w2) => checkRel_bad (z' := 0 + y) HRel.out HPs.out (by rw [HY.out]; rfl) (by omega) hb
          have HF := Lib.hid hfin; clear hfin
          go_wp2_with fail
          go_ret
          exact HF.out _ (by first | exact (hbel.alloc hws _) | (refine ((hbel.alloc hws _).setCell ?_ _).setCell ?_ _ <;> simp <;> omega))
      | false =>
        by_cases hle : x + y ≤ 1048576
        · have hnext := fun w2 (hb : Below w.heap.size w w2) => checkRel_next (z' := x + y) HRel.out HPs.out (by rw [HY.out]; rfl) (by omega) hb
          have HN := Lib.hid hnext; clear hnext
          have t1 : ¬ ((1048576 : Int) - x < y) := by omega
          go_wp2_with fail
          go_roundw
          case rel => exact ⟨k + 1, x + y, by omega, by go_num, by go_num, by omega, HN.out _ (by first | exact (hbel.alloc hws _) | (refine ((hbel.alloc hws _).setCell ?_ _).setCell ?_ _ <;> simp <;> omega))⟩
          case measure => simp [intOf]; omega
        · have hfin := fun w2 (hb : Below w.heap.size w w2) => checkRel_bad (z' := x + y) HRel.out HPs.out (by rw [HY.out]; rfl) (by omega) hb
          have HF := Lib.hid hfin; clear hfin
          have t1 : (1048576 : Int) - x < y := by omega
          go_wp2_with fail
          go_ret
          exact HF.out _ (by first | exact (hbel.alloc hws _) | (refine ((hbel.alloc hws _).setCell ?_ _).setCell ?_ _ <;> simp <;> omega))
    · obtain rfl : m = k := by omega
      have hfin := checkRel_end hrel HP.out (by omega)
      have HF := Lib.hid hfin; clear hfin hrel
      go_wp2_with fail
      go_ret
      exact HF.out
end Go.Proofs.Ytkdnkaiknmcfmaa
