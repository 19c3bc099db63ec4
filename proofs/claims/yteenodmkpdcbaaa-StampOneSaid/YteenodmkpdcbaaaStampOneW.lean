/-
  The walk of StampOne: Of tells what Id was told, Id what Of was told. Conditions: any numbers.
-/
import Derived.Test.YteenodmkpdcbaaaSpLv
import Derived.Test.YteenodmkpdcbaaaArgOne
namespace Go.Proofs.Yteenodmkpdcbaaa
open Go.RowKit TP
open TM (Sp)
set_option linter.unusedVariables false
set_option linter.unusedSimpArgs false
set_option maxRecDepth 100000

/-- the second half: what Of tells of any number -/
theorem of_back {i : Int} (h1 : -9223372036854775808 ≤ i) (h2 : i ≤ 9223372036854775807) : ∃ r m z, TM.OfIs i r m z ∧ ((z = 0 ∧ TM.IdIs r m i 0) ∨ (z = 2 ∧ r = 0 ∧ m = 0)) := by
  by_cases h : TM.good i
  · exact ⟨_, _, _, .inl ⟨h, rfl, rfl, rfl⟩, .inl ⟨rfl, TM.id_of h⟩⟩
  · exact ⟨_, _, _, .inr ⟨h, rfl, rfl, rfl⟩, .inr ⟨rfl, rfl, rfl⟩⟩
set_option maxHeartbeats 4000000 in
theorem stampOne_walk (s n i : Int) (w : World) (hs : (Lit.int .i64 s).wf = true) (hn : (Lit.int .i64 n).wf = true) (hi : (Lit.int .i64 i).wf = true) :
    Calls Try.prog 8 #[.int .i64 s, .int .i64 n, .int .i64 i] w fun e w' => e = .returned (.bool true) ∧ Below w.heap.size w w' := by
  obtain ⟨h1, h2⟩ := range_i64 hi
  obtain ⟨r, m, z, hof, hz⟩ := of_back h1 h2
  have KO := Lib.hid (fun w => pof_any hof h1 h2 w)
  have HZ := Lib.hid hz
  have KA := Lib.hid (fun w => alive14_any w)
  have e1 : (i == i) = true := by simp
  have e2 : (s != s) = false := by simp
  have e3 : (n != n) = false := by simp
  clear hof hz hs hn hi h1 h2
  by_cases h : TM.may s n
  · have K1 := Lib.hid (fun w => pid_any (.inl ⟨h, rfl, rfl⟩) w)
    obtain ⟨x, hx⟩ : ∃ x, x = s * 1048576 + n := ⟨_, rfl⟩
    have K2 := Lib.hid (fun w => pof_any (TM.of_id h) (by unfold TM.may at h; omega) (by unfold TM.may at h; omega) w)
    rw [← hx] at K1 K2
    clear hx h
    rcases HZ.out with ⟨rfl, hid⟩ | ⟨rfl, rfl, rfl⟩
    · have K3 := Lib.hid (fun w => pid_any hid w)
      clear hid HZ
      go_enter Try.func8, Try.ntmps8
      go_wp2_with fail
      refine (KA.out _).mono ?_
      rintro e w1 ⟨rfl, hb⟩
      have HB := Lib.hid hb
      clear hb
      go_wp2_with fail
      refine (K1.out _).mono ?_
      rintro e w2 ⟨rfl, rfl⟩
      go_wp2_with fail
      refine (K2.out _).mono ?_
      rintro e w2 ⟨rfl, rfl⟩
      go_wp2_with fail
      refine (KO.out _).mono ?_
      rintro e w2 ⟨rfl, rfl⟩
      go_wp2_with fail
      refine (K3.out _).mono ?_
      rintro e w2 ⟨rfl, rfl⟩
      go_wp2_with fail
      go_ret
      exact ⟨rfl, HB.out⟩
    · clear HZ
      go_enter Try.func8, Try.ntmps8
      go_wp2_with fail
      refine (KA.out _).mono ?_
      rintro e w1 ⟨rfl, hb⟩
      have HB := Lib.hid hb
      clear hb
      go_wp2_with fail
      refine (K1.out _).mono ?_
      rintro e w2 ⟨rfl, rfl⟩
      go_wp2_with fail
      refine (K2.out _).mono ?_
      rintro e w2 ⟨rfl, rfl⟩
      go_wp2_with fail
      refine (KO.out _).mono ?_
      rintro e w2 ⟨rfl, rfl⟩
      go_wp2_with fail
      go_ret
      exact ⟨rfl, HB.out⟩
  · have K1 := Lib.hid (fun w => pid_any (.inr ⟨h, rfl, rfl⟩) w)
    clear h
    rcases HZ.out with ⟨rfl, hid⟩ | ⟨rfl, rfl, rfl⟩
    · have K3 := Lib.hid (fun w => pid_any hid w)
      clear hid HZ
      go_enter Try.func8, Try.ntmps8
      go_wp2_with fail
      refine (KA.out _).mono ?_
      rintro e w1 ⟨rfl, hb⟩
      have HB := Lib.hid hb
      clear hb
      go_wp2_with fail
      refine (K1.out _).mono ?_
      rintro e w2 ⟨rfl, rfl⟩
      go_wp2_with fail
      refine (KO.out _).mono ?_
      rintro e w2 ⟨rfl, rfl⟩
      go_wp2_with fail
      refine (K3.out _).mono ?_
      rintro e w2 ⟨rfl, rfl⟩
      go_wp2_with fail
      go_ret
      exact ⟨rfl, HB.out⟩
    · clear HZ
      go_enter Try.func8, Try.ntmps8
      go_wp2_with fail
      refine (KA.out _).mono ?_
      rintro e w1 ⟨rfl, hb⟩
      have HB := Lib.hid hb
      clear hb
      go_wp2_with fail
      refine (K1.out _).mono ?_
      rintro e w2 ⟨rfl, rfl⟩
      go_wp2_with fail
      refine (KO.out _).mono ?_
      rintro e w2 ⟨rfl, rfl⟩
      go_wp2_with fail
      go_ret
      exact ⟨rfl, HB.out⟩
end Go.Proofs.Yteenodmkpdcbaaa
