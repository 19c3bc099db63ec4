/-
  The walk of BallotOwn: no two nodes, or rounds, have one ballot, and a ballot tells its own. Conditions: any int64 numbers.
-/
import Derived.Test.YtcgblaioobhakaaBallotAlive
namespace Go.Proofs.Ytcgblaioobhakaa
open Go.RowKit
set_option linter.unusedVariables false

def Same (r n o t : Int) : Prop := r = o ∧ n = t
set_option maxRecDepth 100000 in
set_option maxHeartbeats 2000000 in
theorem ballotOwn_walk (r n o t : Int) (w : World) (hr : (Lit.int .i64 r).wf = true) (hn : (Lit.int .i64 n).wf = true) (ho : (Lit.int .i64 o).wf = true) (ht : (Lit.int .i64 t).wf = true) :
    Calls Try.prog 5 #[.int .i64 r, .int .i64 n, .int .i64 o, .int .i64 t] w fun e w' => e = .returned (.bool true) ∧ Below w.heap.size w w' := by
  clear hr hn ho ht
  by_cases h1 : BM.ok r n
  · have H1 := Lib.hid (show BM.MakeIs r n (r * 8 + n) 0 from .inl ⟨h1, rfl, rfl⟩)
    by_cases h2 : BM.ok o t
    · have H2 := Lib.hid (show BM.MakeIs o t (o * 8 + t) 0 from .inl ⟨h2, rfl, rfl⟩)
      have H3 := Lib.hid (BM.of_make h1)
      obtain ⟨a1, a2, a3, a4⟩ := h1
      obtain ⟨b1, b2, b3, b4⟩ := h2
      obtain ⟨x, hx⟩ : ∃ x, x = r * 8 + n := ⟨_, rfl⟩
      obtain ⟨y, hy⟩ : ∃ y, y = o * 8 + t := ⟨_, rfl⟩
      rw [← hx] at H1 H3
      rw [← hy] at H2
      have hw : -9223372036854775808 ≤ x ∧ x ≤ 9223372036854775807 := by omega
      have HW := Lib.hid hw; clear hw
      by_cases hs : r = o ∧ n = t
      · obtain ⟨rfl, rfl⟩ := hs
        obtain rfl : x = y := by omega
        clear hx hy
        go_enter Try.func5, Try.ntmps5
        go_wp2_with fail
        refine (alive_any _).mono ?_
        rintro e w1 ⟨rfl, rfl⟩
        go_wp2_with fail
        refine (make_any H1.out _).mono ?_
        rintro e w1 ⟨rfl, rfl⟩
        go_wp2_with fail
        refine (make_any H2.out _).mono ?_
        rintro e w1 ⟨rfl, rfl⟩
        go_wp2_with fail
        refine (of_any H3.out HW.out.1 HW.out.2 _).mono ?_
        rintro e w1 ⟨rfl, rfl⟩
        go_wp2_with fail
        refine (check_any H3.out HW.out.1 HW.out.2 _).mono ?_
        rintro e w1 ⟨rfl, rfl⟩
        go_wp2
        go_ret
        exact ⟨by simp, Below.refl _ _⟩
      · have hne : (x == y) = false := by simp; omega
        have hlt : r ≥ o ∨ x < y := by omega
        have hz : r ≠ o ∨ n ≠ t := by omega
        have HL := Lib.hid hlt; clear hlt
        have HZ := Lib.hid hz; clear hz
        clear hx hy hs
        go_enter Try.func5, Try.ntmps5
        go_wp2_with fail
        refine (alive_any _).mono ?_
        rintro e w1 ⟨rfl, rfl⟩
        go_wp2_with fail
        refine (make_any H1.out _).mono ?_
        rintro e w1 ⟨rfl, rfl⟩
        go_wp2_with fail
        refine (make_any H2.out _).mono ?_
        rintro e w1 ⟨rfl, rfl⟩
        go_wp2_with fail
        refine (of_any H3.out HW.out.1 HW.out.2 _).mono ?_
        rintro e w1 ⟨rfl, rfl⟩
        go_wp2_with fail
        refine (check_any H3.out HW.out.1 HW.out.2 _).mono ?_
        rintro e w1 ⟨rfl, rfl⟩
        go_wp2
        all_goals
          go_ret
          have h3 := HL.out
          have h4 := HZ.out
          refine ⟨?_, Below.refl _ _⟩
          simp_all
          try omega
    · have H2 := Lib.hid (show BM.MakeIs o t 0 2 from .inr ⟨h2, rfl, rfl⟩)
      obtain ⟨x, hx⟩ : ∃ x, x = r * 8 + n := ⟨_, rfl⟩
      rw [← hx] at H1
      clear h1 h2 hx
      go_enter Try.func5, Try.ntmps5
      go_wp2_with fail
      refine (alive_any _).mono ?_
      rintro e w1 ⟨rfl, rfl⟩
      go_wp2_with fail
      refine (make_any H1.out _).mono ?_
      rintro e w1 ⟨rfl, rfl⟩
      go_wp2_with fail
      refine (make_any H2.out _).mono ?_
      rintro e w1 ⟨rfl, rfl⟩
      go_wp2
      go_ret
      exact ⟨rfl, Below.refl _ _⟩
  · have H1 := Lib.hid (show BM.MakeIs r n 0 2 from .inr ⟨h1, rfl, rfl⟩)
    obtain ⟨y, f, h2⟩ := BM.makeIs_ex o t
    have H2 := Lib.hid h2; clear h2 h1
    go_enter Try.func5, Try.ntmps5
    go_wp2_with fail
    refine (alive_any _).mono ?_
    rintro e w1 ⟨rfl, rfl⟩
    go_wp2_with fail
    refine (make_any H1.out _).mono ?_
    rintro e w1 ⟨rfl, rfl⟩
    go_wp2_with fail
    refine (make_any H2.out _).mono ?_
    rintro e w1 ⟨rfl, rfl⟩
    go_wp2
    go_ret
    exact ⟨rfl, Below.refl _ _⟩
end Go.Proofs.Ytcgblaioobhakaa
