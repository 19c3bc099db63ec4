/-
  The document's own May (towncrierref08): the ways that end ahead of its loop. Conditions: the attempt fits.
-/
import Derived.Test.YtmcfamoicdmkdaaAttRM
import Derived.Test.YtmcfamoicdmkdaaAttR
import Derived.Test.YtmcfamoicdmkdaaAttE
import Derived.Test.YtmcfamoicdmkdaaAttF
namespace Go.Proofs.Ytmcfamoicdmkdaa
open Go.RowKit
set_option linter.unusedVariables false
set_option linter.unusedSimpArgs false

set_option maxRecDepth 100000 in
set_option maxHeartbeats 4000000 in
theorem rmay_0 (ph ba : Int) (ms : List Int) (wi va : ByteArray) (ps : List AM.Pr) (ac : List Int) (A : Option Addr) (n c : Nat) (B : Option Addr) (m d : Nat) (C : Option Addr) (k f : Nat) (w : World) (h1 : Rd w A n (ic ms)) (h2 : RdP w B m ps) (h3 : Rd w C k (ic ac)) (F : Fit ⟨ph, ba, ms, wi, va, ps, ac⟩) (hp : ph = 0) :
    Calls Try.prog 22 #[.agg #[.int .u8 ph, .int .i64 ba, .slice A n c, .string wi, .string va, .slice B m d, .slice C k f]] w (BoolIs (AM.may ⟨ph, ba, ms, wi, va, ps, ac⟩) w) := by
  obtain ⟨f1, f2, f3⟩ := AtIs.fit_n (a := ⟨ph, ba, ms, wi, va, ps, ac⟩) h1 h2 h3 F
  have l1 : ms.length = n := by have := h1.1; rwa [ic_length] at this
  have l2 : ps.length = m := h2.1
  have l3 : ac.length = k := by have := h3.1; rwa [ic_length] at this
  obtain ⟨W0, hW0⟩ : ∃ W0, W0 = w.alloc (.cells #[.int .u8 ph, .int .i64 ba, .slice A n c, .string wi, .string va, .slice B m d, .slice C k f] 25) := ⟨_, rfl⟩
  have hb0 : Below w.heap.size w W0 := by rw [hW0]; exact (Below.refl _ _).alloc (Nat.le_refl _) _
  have X0 := Lib.hid (show Box W0 w.heap.size 25 #[.int .u8 ph, .int .i64 ba, .slice A n c, .string wi, .string va, .slice B m d, .slice C k f] by rw [hW0]; exact Box.new _ _ _)
  have B0 := Lib.hid hb0
  have hst : AM.may ⟨ph, ba, ms, wi, va, ps, ac⟩ = ((ba == 0) && (decide (n = 0) && (wi.toList.isEmpty && (va.toList.isEmpty && (decide (m = 0) && decide (k = 0)))))) := by
    subst hp
    unfold AM.may AM.zero
    rw [if_pos rfl, Bool.eq_iff_iff, ← l1, ← l2, ← l3, str_no, str_no]
    simp only [decide_eq_true_eq, AM.At.mk.injEq, true_and, Bool.and_eq_true, beq_iff_eq, List.length_eq_zero_iff]
  have HS := Lib.hid hst
  subst hp
  generalize AM.may ⟨0, ba, ms, wi, va, ps, ac⟩ = r at HS ⊢
  clear hst hb0 h1 h2 h3 l1 l2 l3 F f1 f2 f3
  by_cases hba : ba = 0
  rotate_left
  · have E0 := Lib.hid (show (ba == 0) = false by simpa using hba)
    have d0 : (ba == 0) = false := by simpa using hba
    clear hba
    go_enter Try.func22, Try.ntmps22
    go_upto_region 1 with (fail)
    rw [← hW0]
    clear hW0
    obtain ⟨⟨s0, s1, s2, s3, s4, s5, s6⟩, _⟩ := X0.out.seven
    go_wp2_with fail
    go_ret
    exact bool_ret (by rw [HS.out]; simp [E0.out]) B0.out
  subst hba
  by_cases hn : n = 0
  rotate_left
  · have E0 := Lib.hid hn
    have d1 : (((n : Nat) : Int) == 0) = false := by simp; omega
    have d2 : (n == 0) = false := by simpa using hn
    have d3 : decide (n = 0) = false := by simpa using hn
    clear hn
    go_enter Try.func22, Try.ntmps22
    go_upto_region 1 with (fail)
    rw [← hW0]
    clear hW0
    obtain ⟨⟨s0, s1, s2, s3, s4, s5, s6⟩, _⟩ := X0.out.seven
    go_wp2_with fail
    go_ret
    exact bool_ret (by rw [HS.out]; simp [E0.out]) B0.out
  subst hn
  rcases e1 : wi.toList.isEmpty with _ | _
  · have E0 := Lib.hid e1
    go_enter Try.func22, Try.ntmps22
    go_upto_region 1 with (fail)
    rw [← hW0]
    clear hW0
    obtain ⟨⟨s0, s1, s2, s3, s4, s5, s6⟩, _⟩ := X0.out.seven
    go_wp2_with fail
    go_ret
    exact bool_ret (by rw [HS.out]; simp [E0.out]) B0.out
  rcases e2 : va.toList.isEmpty with _ | _
  · have E0 := Lib.hid e2
    go_enter Try.func22, Try.ntmps22
    go_upto_region 1 with (fail)
    rw [← hW0]
    clear hW0
    obtain ⟨⟨s0, s1, s2, s3, s4, s5, s6⟩, _⟩ := X0.out.seven
    go_wp2_with fail
    go_ret
    exact bool_ret (by rw [HS.out]; simp [E0.out]) B0.out
  by_cases hm : m = 0
  rotate_left
  · have E0 := Lib.hid hm
    have d1 : (((m : Nat) : Int) == 0) = false := by simp; omega
    have d2 : (m == 0) = false := by simpa using hm
    have d3 : decide (m = 0) = false := by simpa using hm
    clear hm
    go_enter Try.func22, Try.ntmps22
    go_upto_region 1 with (fail)
    rw [← hW0]
    clear hW0
    obtain ⟨⟨s0, s1, s2, s3, s4, s5, s6⟩, _⟩ := X0.out.seven
    go_wp2_with fail
    go_ret
    exact bool_ret (by rw [HS.out]; simp [E0.out]) B0.out
  subst hm
  by_cases hk : k = 0
  rotate_left
  · have E0 := Lib.hid hk
    have d1 : (((k : Nat) : Int) == 0) = false := by simp; omega
    have d2 : (k == 0) = false := by simpa using hk
    have d3 : decide (k = 0) = false := by simpa using hk
    clear hk
    go_enter Try.func22, Try.ntmps22
    go_upto_region 1 with (fail)
    rw [← hW0]
    clear hW0
    obtain ⟨⟨s0, s1, s2, s3, s4, s5, s6⟩, _⟩ := X0.out.seven
    go_wp2_with fail
    go_ret
    exact bool_ret (by rw [HS.out]; simp [E0.out]) B0.out
  subst hk
  have E1 := Lib.hid e1
  have E2 := Lib.hid e2
  go_enter Try.func22, Try.ntmps22
  go_upto_region 1 with (fail)
  rw [← hW0]
  clear hW0
  obtain ⟨⟨s0, s1, s2, s3, s4, s5, s6⟩, _⟩ := X0.out.seven
  go_wp2_with fail
  go_ret
  exact bool_ret (by rw [HS.out]; simp [E1.out, E2.out]) B0.out

end Go.Proofs.Ytmcfamoicdmkdaa
