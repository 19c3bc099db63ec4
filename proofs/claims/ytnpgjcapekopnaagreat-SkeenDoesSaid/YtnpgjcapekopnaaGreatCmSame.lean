/-
  The document's own SameInts (towncrierref01) of any two lists. Conditions: the slices read as ints.
-/
import Derived.Test.YtnpgjcapekopnaaGreatProg
import Derived.Test.YtnpgjcapekopnaaGreatCmMem
import Derived.Deep.QuietTactic
import Derived.BigQuiet
namespace Go.Proofs.YtnpgjcapekopnaaGreat.CP
open Go.RowKit
set_option linter.unusedVariables false

theorem drewN_below (w : World) (q : Nat) : Below w.heap.size w (w.drewN q) := below_drewN (Below.refl _ _) q
theorem drop_step {x y : List Int} {k : Nat} {u v : Int} (hx : x.drop k = u :: x.drop (k + 1)) (hy : y.drop k = v :: y.drop (k + 1)) (huv : u = v) : decide (x.drop (k + 1) = y.drop (k + 1)) = decide (x.drop k = y.drop k) := by
  rw [hx, hy, huv]; simp
set_option maxHeartbeats 2000000 in
theorem same_ints_any (A B : Option Addr) (ca cb : Nat) (x y : List Int) (w : World) (h1 : Rd w A x.length (ic x)) (h2 : Rd w B y.length (ic y)) (hm : x.length ≤ maxLen) (hm2 : y.length ≤ maxLen) :
    Calls Tryz.prog 47 #[.slice A x.length ca, .slice B y.length cb] w (BoolIs (decide (x = y)) w) := by
  unfold maxLen at hm hm2
  have hst : decide (x.drop 0 = y.drop 0) = decide (x = y) := rfl
  obtain ⟨n, hn⟩ : ∃ n, n = x.length := ⟨_, rfl⟩
  obtain ⟨m, hme⟩ : ∃ m, m = y.length := ⟨_, rfl⟩
  have hne0 : n ≠ m → decide (x = y) = false := fun h => by simpa using fun e => h (by rw [hn, hme, e])
  rw [← hn] at h1 hm ⊢
  rw [← hme] at h2 hm2 ⊢
  generalize decide (x = y) = r at hst hne0 ⊢
  have HN := Lib.hid hn; clear hn
  have HM := Lib.hid hme; clear hme
  have HS := Lib.hid hst; clear hst
  by_cases hnm : n = m
  rotate_left
  · have HR := Lib.hid (hne0 hnm)
    have hb : ((n : Int) != (m : Int)) = true := by simpa using fun h : (n : Int) = m => hnm (by omega)
    clear hne0 hnm
    go_enter Tryz.func47, Tryz.ntmps47
    go_wp2
    go_ret
    exact bool_ret HR.out.symm (Below.refl _ _)
  subst hnm
  clear hne0
  have hne : ((n : Int) != (n : Int)) = false := by simp
  go_enter Tryz.func47, Tryz.ntmps47
  go_wp2
  go_loopw [5] (fun i wr => ∃ k q : Nat, k ≤ n ∧ i = .int .i64 k ∧ wr = w.drewN q ∧ Hid (decide (x.drop k = y.drop k) = r)) (fun i _ => n - (intOf i).toNat)
  case atStart => exact ⟨0, 0, by omega, rfl, rfl, HS⟩
  case round =>
    clear HS
    obtain ⟨k, q, hk, rfl, rfl, HR⟩ := hrel
    by_cases hlt : k < n
    · obtain ⟨ad1, u1, rfl, _, hu1, hcell1⟩ := h1.at_ hlt
      obtain ⟨ad2, u2, rfl, _, hu2, hcell2⟩ := h2.at_ hlt
      have hkz : k < x.length := by have := HN.out; omega
      have hkz2 : k < y.length := by have := HM.out; omega
      have hx := List.drop_eq_getElem_cons hkz
      have hy := List.drop_eq_getElem_cons hkz2
      rw [ic_get x k hkz] at hu1
      rw [ic_get y k hkz2] at hu2
      injection hu1 with hu1
      injection hu2 with hu2
      subst hu1
      subst hu2
      generalize x[k] = u at hcell1 hx
      generalize y[k] = v at hcell2 hy
      have hk0 : (0 : Int) ≤ (k : Int) := by omega
      have hkn : (k : Int) < (n : Int) := by omega
      by_cases huv : u = v
      · have HT := Lib.hid ((drop_step hx hy huv).trans HR.out)
        have hbz : (u != v) = false := by simp [huv]
        clear hx hy huv hkz hkz2
        go_wp2_with fail
        go_quiet (fail)
        go_wp2_with fail
        go_roundw
        case rel => exact ⟨k + 1, q + nq, by omega, by go_num, by simp, HT⟩
        case measure => simp [intOf]; omega
      · have HT : Hid (false = r) := Lib.hid (by rw [← HR.out, hx, hy]; simp [huv])
        have hbz : (u != v) = true := by simpa using huv
        clear hx hy huv hkz hkz2
        go_wp2_with fail
        go_quiet (fail)
        go_wp2_with fail
        go_ret
        exact bool_ret HT.out (by rw [World.drewN_drewN]; exact drewN_below _ _)
    · have HT : Hid (true = r) := Lib.hid (by
        have h1 : x.length ≤ k := by have := HN.out; omega
        have h2 : y.length ≤ k := by have := HM.out; omega
        rw [← HR.out, List.drop_of_length_le h1, List.drop_of_length_le h2]; simp)
      go_wp2
      go_ret
      exact bool_ret HT.out (drewN_below _ _)
end Go.Proofs.YtnpgjcapekopnaaGreat.CP
