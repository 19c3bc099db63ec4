/-
  The walk of NumApart.
-/
import Derived.Test.YtffikjepeoeimaaNumAlive
import Derived.Deep.QuietTactic
import Derived.BigQuiet
namespace Go.Proofs.Ytffikjepeoeimaa
open Go.RowKit
set_option linter.unusedVariables false

set_option maxHeartbeats 1000000 in
theorem numApart_both (n m : Nat) (w : World) (hn : n ≤ 1099511627776) (hm : m ≤ 1099511627776) (hne : n ≠ m) :
    Calls Try.prog 8 #[.int .i64 n, .int .i64 m] w fun e w' => e = .returned (.bool true) ∧ Below w.heap.size w w' := by
  have hap := NM.enc_apart n m hn hm hne
  obtain ⟨l1, hl1⟩ : ∃ l, NM.enc n = l := ⟨_, rfl⟩
  obtain ⟨l2, hl2⟩ : ∃ l, NM.enc m = l := ⟨_, rfl⟩
  obtain ⟨k1, hk1⟩ : ∃ k, l1.length = k := ⟨_, rfl⟩
  obtain ⟨k2, hk2⟩ : ∃ k, l2.length = k := ⟨_, rfl⟩
  have hs1 : k1 ≤ 6 := by rw [← hk1, ← hl1]; exact NM.enc_le n
  have hs2 : k2 ≤ 6 := by rw [← hk2, ← hl2]; exact NM.enc_le m
  have hp1 := fun w => put_rd n l1 k1 w hn hl1 hk1
  have hp2 := fun w => put_rd m l2 k2 w hm hl2 hk2
  have H1 := Lib.hid hp1; clear hp1
  have H2 := Lib.hid hp2; clear hp2
  rw [hl1, hl2, hk1, hk2] at hap
  have HA := Lib.hid hap; clear hap
  clear hl1 hl2
  have HK1 := Lib.hid hk1; clear hk1
  have HK2 := Lib.hid hk2; clear hk2
  have hne' : ((n : Int) == (m : Int)) = false := by simp; omega
  clear hne
  rcases (Nat.lt_or_ge k2 k1).symm with hle | hle
  · rw [Nat.min_eq_left hle] at HA
    go_enter Try.func8, Try.ntmps8
    go_wp2_with fail
    refine (alive_any _).mono ?_
    rintro e w1 ⟨rfl, hb1⟩
    go_wp2_with fail
    refine (H1.out _).mono ?_
    rintro e w2 ⟨A1, c1, rfl, hr1, hc1, hm1, hb2⟩
    go_wp2_with fail
    refine (H2.out _).mono ?_
    rintro e w3 ⟨A2, c2, rfl, hr2, hc2, hm2, hb3⟩
    have hr1' := (hr1.below hb3).front (k := k1) (Nat.le_refl _)
    have hr2' := hr2.front (k := k1) hle
    rw [bc_take] at hr1' hr2'
    have hx1 : ∀ (nq cap : Nat), (convert 22 9 (.slice A1 k1 cap)).run Try.prog (w3.drewN nq) = .ok (.string ⟨(l1.take k1).toArray⟩) (w3.drewN nq) := fun nq cap =>
      run_string_of _ _ _ 5 _ _ cap _ Try.underlying22 Try.underlying5 Try.underlying9 (hr1'.drewN nq)
    have hx2 : ∀ (nq cap : Nat), (convert 22 9 (.slice A2 k1 cap)).run Try.prog (w3.drewN nq) = .ok (.string ⟨(l2.take k1).toArray⟩) (w3.drewN nq) := fun nq cap =>
      run_string_of _ _ _ 5 _ _ cap _ Try.underlying22 Try.underlying5 Try.underlying9 (hr2'.drewN nq)
    have hbb := (hb1.trans (hb2.mono hb1.size)).trans (hb3.mono (Nat.le_trans hb1.size hb2.size))
    clear hr1 hr2 hr1' hr2' hb1 hb2 hb3
    obtain ⟨t1, ht1⟩ : ∃ t, t = l1.take k1 := ⟨_, rfl⟩
    obtain ⟨t2, ht2⟩ : ∃ t, t = l2.take k1 := ⟨_, rfl⟩
    rw [← ht1] at hx1 HA
    rw [← ht2] at hx2 HA
    have HT1 := Lib.hid ht1; clear ht1
    have HT2 := Lib.hid ht2; clear ht2
    unfold maxLen at hm1 hm2
    have hne2 : (t1 == t2) = false := by simpa using HA.out
    go_wp2_with fail
    go_quiet (fail)
    go_wp2
    go_ret
    exact ⟨rfl, below_drewN hbb nq⟩
  · rw [Nat.min_eq_right (Nat.le_of_lt hle)] at HA
    go_enter Try.func8, Try.ntmps8
    go_wp2_with fail
    refine (alive_any _).mono ?_
    rintro e w1 ⟨rfl, hb1⟩
    go_wp2_with fail
    refine (H1.out _).mono ?_
    rintro e w2 ⟨A1, c1, rfl, hr1, hc1, hm1, hb2⟩
    go_wp2_with fail
    refine (H2.out _).mono ?_
    rintro e w3 ⟨A2, c2, rfl, hr2, hc2, hm2, hb3⟩
    have hr1' := (hr1.below hb3).front (k := k2) (Nat.le_of_lt hle)
    have hr2' := hr2.front (k := k2) (Nat.le_refl _)
    rw [bc_take] at hr1' hr2'
    have hx1 : ∀ (nq cap : Nat), (convert 22 9 (.slice A1 k2 cap)).run Try.prog (w3.drewN nq) = .ok (.string ⟨(l1.take k2).toArray⟩) (w3.drewN nq) := fun nq cap =>
      run_string_of _ _ _ 5 _ _ cap _ Try.underlying22 Try.underlying5 Try.underlying9 (hr1'.drewN nq)
    have hx2 : ∀ (nq cap : Nat), (convert 22 9 (.slice A2 k2 cap)).run Try.prog (w3.drewN nq) = .ok (.string ⟨(l2.take k2).toArray⟩) (w3.drewN nq) := fun nq cap =>
      run_string_of _ _ _ 5 _ _ cap _ Try.underlying22 Try.underlying5 Try.underlying9 (hr2'.drewN nq)
    have hbb := (hb1.trans (hb2.mono hb1.size)).trans (hb3.mono (Nat.le_trans hb1.size hb2.size))
    clear hr1 hr2 hr1' hr2' hb1 hb2 hb3
    obtain ⟨t1, ht1⟩ : ∃ t, t = l1.take k2 := ⟨_, rfl⟩
    obtain ⟨t2, ht2⟩ : ∃ t, t = l2.take k2 := ⟨_, rfl⟩
    rw [← ht1] at hx1 HA
    rw [← ht2] at hx2 HA
    have HT1 := Lib.hid ht1; clear ht1
    have HT2 := Lib.hid ht2; clear ht2
    unfold maxLen at hm1 hm2
    have hne2 : (t1 == t2) = false := by simpa using HA.out
    go_wp2_with fail
    go_quiet (fail)
    go_wp2
    go_ret
    exact ⟨rfl, below_drewN hbb nq⟩

theorem numApart_walk (a0 : Int) (a1 : Int) (w : World) (w0 : (Lit.int .i64 a0).wf = true) (w1 : (Lit.int .i64 a1).wf = true) :
    Calls Try.prog 8 #[.int .i64 a0, .int .i64 a1] w fun e w' => e = .returned (.bool true) ∧ Below w.heap.size w w' := by
  by_cases h0 : 0 ≤ a0 ∧ a0 ≤ 1099511627776
  · obtain ⟨n, rfl⟩ := Int.eq_ofNat_of_zero_le h0.1
    have hn : n ≤ 1099511627776 := by omega
    have hp0 := fun w => put_rd n _ _ w hn rfl rfl
    have H0 := Lib.hid hp0; clear hp0
    by_cases h1 : 0 ≤ a1 ∧ a1 ≤ 1099511627776
    · obtain ⟨m, rfl⟩ := Int.eq_ofNat_of_zero_le h1.1
      have hm : m ≤ 1099511627776 := by omega
      by_cases hne : n = m
      · subst hne
        have he : ((n : Int) == (n : Int)) = true := by simp
        go_enter Try.func8, Try.ntmps8
        go_wp2_with fail
        refine (alive_any _).mono ?_
        rintro e w1 ⟨rfl, hb1⟩
        go_wp2_with fail
        refine (H0.out _).mono ?_
        rintro e w2 ⟨A1, c1, rfl, hr1, hc1, hm1, hb2⟩
        go_wp2_with fail
        refine (H0.out _).mono ?_
        rintro e w3 ⟨A2, c2, rfl, hr2, hc2, hm2, hb3⟩
        go_wp2
        go_ret
        exact ⟨rfl, (hb1.trans (hb2.mono hb1.size)).trans (hb3.mono (Nat.le_trans hb1.size hb2.size))⟩
      · exact numApart_both n m w hn hm hne
    · go_enter Try.func8, Try.ntmps8
      go_wp2_with fail
      refine (alive_any _).mono ?_
      rintro e w1 ⟨rfl, hb1⟩
      go_wp2_with fail
      refine (H0.out _).mono ?_
      rintro e w2 ⟨A1, c1, rfl, hr1, hc1, hm1, hb2⟩
      go_wp2_with fail
      refine (put_no _ _ h1).mono ?_
      rintro e w3 ⟨rfl, rfl⟩
      go_wp2
      go_ret
      exact ⟨rfl, hb1.trans (hb2.mono hb1.size)⟩
  · have hp1 : ∀ w, Calls Try.prog 9 #[.int .i64 a1] w fun e w' => ∃ v x, e = .returned (.tuple #[v, .int .i64 x]) ∧ Below w.heap.size w w' := by
      intro w
      by_cases h1 : 0 ≤ a1 ∧ a1 ≤ 1099511627776
      · obtain ⟨m, rfl⟩ := Int.eq_ofNat_of_zero_le h1.1
        refine (put_ok m w (by omega)).mono ?_
        rintro e w' ⟨v, rfl, _, hb⟩
        exact ⟨v, 0, rfl, hb⟩
      · refine (put_no a1 w h1).mono ?_
        rintro e w' ⟨rfl, rfl⟩
        exact ⟨_, 2, rfl, Below.refl _ _⟩
    have H1 := Lib.hid hp1; clear hp1
    go_enter Try.func8, Try.ntmps8
    go_wp2_with fail
    refine (alive_any _).mono ?_
    rintro e w1 ⟨rfl, hb1⟩
    go_wp2_with fail
    refine (put_no _ _ h0).mono ?_
    rintro e w2 ⟨rfl, rfl⟩
    go_wp2_with fail
    refine (H1.out _).mono ?_
    rintro e w3 ⟨v, x, rfl, hb3⟩
    go_wp2
    go_ret
    exact ⟨rfl, hb1.trans (hb3.mono hb1.size)⟩
end Go.Proofs.Ytffikjepeoeimaa
