/-
  What Same of the document's disks answers at two disks that read alike: true. Conditions: as the theorem says.
-/
import Derived.Test.YtkdnkaiknmcfmaaDiskV
namespace Go.Proofs.Ytkdnkaiknmcfmaa
open Go.RowKit
set_option linter.unusedVariables false

theorem Rd.drewN' {w : World} {A : Option Addr} {n : Nat} {xs : List Value} (h : Rd w A n xs) (k : Nat) : Rd (w.drewN k) A n xs := h

set_option maxRecDepth 100000 in
set_option maxHeartbeats 8000000 in
theorem same_any (v v' : Value) (b : List UInt8) (ps : List DM.Wr) (w : World) (HV : Hid (DiskIs w v b ps)) (HV' : Hid (DiskIs w v' b ps)) :
    Calls Try.prog 20 #[v, v'] w fun e w' => e = .returned (.bool true) ∧ Below w.heap.size w w' := by
  obtain ⟨A, n, c, B, m, d, rfl, h1, h2, h3, h4, h5, h6⟩ := HV.out
  obtain ⟨A', n', c', B', m', d', rfl, h1', h2', h3', h4', h5', h6'⟩ := HV'.out
  have hn : n' = n := by have e1 := h5.1; have e2 := h5'.1; omega
  have hm : m' = m := by have e1 := h6.1; have e2 := h6'.1; omega
  subst hn
  subst hm
  have hd : d ≤ 9223372036854775807 := by unfold maxLen at h4; omega
  have hd' : d' ≤ 9223372036854775807 := by unfold maxLen at h4'; omega
  have hB0 : Below w.heap.size w ((w.alloc (.cells #[.slice A n' c, .slice B m' d] 25)).alloc (.cells #[.slice A' n' c', .slice B' m' d'] 25)) := ((Below.refl _ _).alloc (Nat.le_refl _) _).alloc (by simp) _
  have X : Hid (Box ((w.alloc (.cells #[.slice A n' c, .slice B m' d] 25)).alloc (.cells #[.slice A' n' c', .slice B' m' d'] 25)) w.heap.size 25 #[.slice A n' c, .slice B m' d]) := Lib.hid ((Box.new _ _ _).alloc _)
  have Y : Hid (Box ((w.alloc (.cells #[.slice A n' c, .slice B m' d] 25)).alloc (.cells #[.slice A' n' c', .slice B' m' d'] 25)) (w.heap.size + 1) 25 #[.slice A' n' c', .slice B' m' d']) := Lib.hid (Box.new_at _ (by simp))
  have HR := Lib.hid (h5.below hB0)
  have HR' := Lib.hid (h5'.below hB0)
  have HW := Lib.hid (h6.below hB0)
  have HW' := Lib.hid (h6'.below hB0)
  have HB := Lib.hid hB0
  clear h2 h4 h5 h6 h2' h4' h5' h6' hB0 HV HV'
  go_enter Try.func20, Try.ntmps20
  go_upto_region 1 with (fail)
  generalize (w.alloc (.cells #[.slice A n' c, .slice B m' d] 25)).alloc (.cells #[.slice A' n' c', .slice B' m' d'] 25) = w1 at X Y HR HR' HW HW' HB ⊢
  have x0 : w1.cell? ⟨w.heap.size, 0, none⟩ = some (.slice A n' c) := X.out.cell 0
  have x1 : w1.cell? ⟨w.heap.size, 1, none⟩ = some (.slice B m' d) := X.out.cell 1
  have y0 : w1.cell? ⟨w.heap.size + 1, 0, none⟩ = some (.slice A' n' c') := Y.out.cell 0
  have y1 : w1.cell? ⟨w.heap.size + 1, 1, none⟩ = some (.slice B' m' d') := Y.out.cell 1
  have s0 := rd_str (c := c) HR.out
  have s1 := rd_str (c := c') HR'.out
  go_upto_region 3 with (fail)
  clear x0 y0 s0 s1
  go_wp2_with fail
  go_loopw [5] (fun i wr => ∃ k nq : Nat, k ≤ m' ∧ i = .int .i64 k ∧ wr = w1.drewN nq) (fun i _ => m' - (intOf i).toNat)
  case atStart => exact ⟨0, 0, by omega, rfl, rfl⟩
  case round =>
    obtain ⟨k, nq', hk, rfl, rfl⟩ := hrel
    by_cases hlt : k < m'
    · obtain ⟨bl, o, Ai, ci, s, dd, rfl, hadb, hps, hc0, hc1, g1, g2, hrd⟩ := HW.out.at_ hlt
      obtain ⟨bl', o', Ai', ci', s', dd', rfl, hadb', hps', hc0', hc1', g1', g2', hrd'⟩ := HW'.out.at_ hlt
      rw [hps] at hps'
      injection hps' with hps'
      injection hps' with e1 e2
      subst e1
      subst e2
      obtain ⟨y, hy⟩ : ∃ y, dd.length = y := ⟨_, rfl⟩
      rw [hy] at hc1 hc1' hrd hrd'
      have st : ∀ q, (convert 22 9 (.slice Ai y ci)).run Try.prog ((w1.drewN nq').drewN q) = .ok (.string ⟨dd.toArray⟩) ((w1.drewN nq').drewN q) := fun q => rd_str ((hrd.drewN nq').drewN q)
      have st' : ∀ q, (convert 22 9 (.slice Ai' y ci')).run Try.prog ((w1.drewN nq').drewN q) = .ok (.string ⟨dd.toArray⟩) ((w1.drewN nq').drewN q) := fun q => rd_str ((hrd'.drewN nq').drewN q)
      have st2 : ∀ q, (convert 22 9 (.slice Ai y ci)).run Try.prog (w1.drewN q) = .ok (.string ⟨dd.toArray⟩) (w1.drewN q) := fun q => rd_str (hrd.drewN q)
      have st2' : ∀ q, (convert 22 9 (.slice Ai' y ci')).run Try.prog (w1.drewN q) = .ok (.string ⟨dd.toArray⟩) (w1.drewN q) := fun q => rd_str (hrd'.drewN q)
      have i0 : (0 : Int) ≤ (k : Int) := by omega
      have i1 : (k : Int) < (m' : Int) := by omega
      have ss : (s != s) = false := by cases s <;> rfl
      clear hps hy hrd hrd' g1 g2 g1' g2' hadb hadb'
      cases s with
      | true =>
        go_wp2_with fail
        go_quiet (fail)
        go_wp2_with fail
        go_roundw
        case rel => exact ⟨k + 1, nq' + nq, by omega, by go_num, by simp⟩
        case measure => simp [intOf]; omega
      | false =>
        go_wp2_with fail
        go_quiet (fail)
        go_wp2_with fail
        go_roundw
        case rel => exact ⟨k + 1, nq' + nq, by omega, by go_num, by simp⟩
        case measure => simp [intOf]; omega
    · obtain rfl : m' = k := by omega
      go_wp2_with fail
      go_ret
      exact ⟨rfl, below_drewN HB.out nq'⟩
end Go.Proofs.Ytkdnkaiknmcfmaa
