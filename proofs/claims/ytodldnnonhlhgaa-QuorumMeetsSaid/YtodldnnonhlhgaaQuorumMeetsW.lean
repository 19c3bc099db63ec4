/-
  The walk of QuorumMeets: two lists of nodes that are majorities of the same members have a member in common. Conditions: any three slices of ints.
-/
import Derived.Test.YtodldnnonhlhgaaQuorumAlive
namespace Go.Proofs.Ytodldnnonhlhgaa
open Go.RowKit
set_option linter.unusedVariables false

set_option maxRecDepth 100000 in
set_option maxHeartbeats 2000000 in
theorem meets_rd (A B C : Option Addr) (n cn m cm l cl : Nat) (ms xs ys : List Int) (w : World) (h1 : Rd w A n (ic ms)) (h2 : Rd w B m (ic xs)) (h3 : Rd w C l (ic ys)) (g1 : n ≤ 9223372036854775807) (g2 : m ≤ 9223372036854775807) (g3 : l ≤ 9223372036854775807) :
    Calls Try.prog 5 #[.slice A n cn, .slice B m cm, .slice C l cl] w fun e w' => e = .returned (.bool true) ∧ Below w.heap.size w w' := by
  obtain ⟨p, e, hp⟩ := QM.mostIs_ex ms xs
  obtain ⟨q, f, hq⟩ := QM.mostIs_ex ms ys
  have hl : ms.length = n := by have := h1.1; rwa [ic_length] at this
  have HP := Lib.hid hp
  have HQ := Lib.hid hq
  have R1 := Lib.hid h1; clear h1
  have R2 := Lib.hid h2; clear h2
  have R3 := Lib.hid h3; clear h3
  by_cases he : e = 0
  · by_cases hf : f = 0
    · rcases p with _ | _
      · clear hp hq hl
        subst he
        subst hf
        go_enter Try.func5, Try.ntmps5
        go_wp2_with fail
        refine (alive_any _).mono ?_
        rintro e w1 ⟨rfl, hb⟩
        have S1 := Lib.hid (R1.out.below hb); have S2 := Lib.hid (R2.out.below hb); have S3 := Lib.hid (R3.out.below hb); have HB := Lib.hid hb; clear hb
        go_wp2_with fail
        refine (most_any _ _ _ _ _ _ _ _ _ _ _ S1.out g1 S2.out g2 HP.out).mono ?_
        rintro e w2 ⟨rfl, rfl⟩
        go_wp2_with fail
        refine (most_any _ _ _ _ _ _ _ _ _ _ _ S1.out g1 S3.out g3 HQ.out).mono ?_
        rintro e w2 ⟨rfl, rfl⟩
        go_wp2
        go_ret
        exact ⟨rfl, HB.out⟩
      · rcases q with _ | _
        · clear hp hq hl
          subst he
          subst hf
          go_enter Try.func5, Try.ntmps5
          go_wp2_with fail
          refine (alive_any _).mono ?_
          rintro e w1 ⟨rfl, hb⟩
          have S1 := Lib.hid (R1.out.below hb); have S2 := Lib.hid (R2.out.below hb); have S3 := Lib.hid (R3.out.below hb); have HB := Lib.hid hb; clear hb
          go_wp2_with fail
          refine (most_any _ _ _ _ _ _ _ _ _ _ _ S1.out g1 S2.out g2 HP.out).mono ?_
          rintro e w2 ⟨rfl, rfl⟩
          go_wp2_with fail
          refine (most_any _ _ _ _ _ _ _ _ _ _ _ S1.out g1 S3.out g3 HQ.out).mono ?_
          rintro e w2 ⟨rfl, rfl⟩
          go_wp2
          go_ret
          exact ⟨rfl, HB.out⟩
        · have hmeet : ∃ x ∈ ms.drop 0, QM.has xs x = true ∧ QM.has ys x = true := by
            subst he
            subst hf
            have k1 : ms.length / 2 + 1 ≤ QM.cnt ms xs := by
              rcases hp with ⟨_, h, _⟩ | ⟨_, _, h, _⟩ | ⟨_, _, h, _⟩
              · exact absurd rfl h
              · cases h
              · exact of_decide_eq_true h.symm
            have k2 : ms.length / 2 + 1 ≤ QM.cnt ms ys := by
              rcases hq with ⟨_, h, _⟩ | ⟨_, _, h, _⟩ | ⟨_, _, h, _⟩
              · exact absurd rfl h
              · cases h
              · exact of_decide_eq_true h.symm
            exact QM.meet k1 k2
          have HM := Lib.hid hmeet; clear hmeet hp hq
          have HL := Lib.hid hl; clear hl
          subst he
          subst hf
          go_enter Try.func5, Try.ntmps5
          go_wp2_with fail
          refine (alive_any _).mono ?_
          rintro e w1 ⟨rfl, hb⟩
          have S1 := Lib.hid (R1.out.below hb); have S2 := Lib.hid (R2.out.below hb); have S3 := Lib.hid (R3.out.below hb); have HB := Lib.hid hb; clear hb
          go_wp2_with fail
          refine (most_any _ _ _ _ _ _ _ _ _ _ _ S1.out g1 S2.out g2 HP.out).mono ?_
          rintro e w2 ⟨rfl, rfl⟩
          go_wp2_with fail
          refine (most_any _ _ _ _ _ _ _ _ _ _ _ S1.out g1 S3.out g3 HQ.out).mono ?_
          rintro e w2 ⟨rfl, rfl⟩
          clear HP HQ R1 R2 R3
          go_wp2
          go_loop [12] (fun i => ∃ k : Nat, k ≤ n ∧ i = .int .i64 k ∧ Hid (∃ x ∈ ms.drop k, QM.has xs x = true ∧ QM.has ys x = true)) (fun i => n - (intOf i).toNat)
          case atStart => exact ⟨0, by omega, rfl, HM⟩
          case round =>
            clear HM
            obtain ⟨k, hk, rfl, HR⟩ := hrel
            have hlt : k < n := by
              obtain ⟨x, hx, _⟩ := HR.out
              rcases Nat.lt_or_ge k n with h | h
              · exact h
              · rw [List.drop_of_length_le (by have := HL.out; omega)] at hx
                simp at hx
            have hkz : k < ms.length := by have := HL.out; omega
            obtain ⟨ad, u, rfl, _, hu, hcell⟩ := S1.out.at_ hlt
            rw [ic_get ms k hkz] at hu
            injection hu with hu
            subst hu
            have hd := HR.out
            rw [List.drop_eq_getElem_cons hkz] at hd
            obtain ⟨z, hz⟩ : ∃ z, z = ms[k] := ⟨_, rfl⟩
            rw [← hz] at hcell hd
            clear hz HR hkz
            have c1 := has_any B m cm xs z w1 S2.out g2
            have c2 := has_any C l cl ys z w1 S3.out g3
            have hnext : ¬ (QM.has xs z = true ∧ QM.has ys z = true) → ∃ x ∈ ms.drop (k + 1), QM.has xs x = true ∧ QM.has ys x = true := by
              intro hn
              obtain ⟨x, hx, hxx⟩ := hd
              rcases List.mem_cons.1 hx with rfl | hx
              · exact absurd hxx hn
              · exact ⟨x, hx, hxx⟩
            clear hd
            rcases hb1 : QM.has xs z with _ | _
            · have HN := Lib.hid (hnext (by rw [hb1]; simp))
              rw [hb1] at c1
              clear hnext hb1 c2
              have C1 := Lib.hid c1; clear c1
              go_wp2_with fail
              refine C1.out.mono ?_
              rintro e w2 ⟨rfl, rfl⟩
              go_wp2
              go_round
              case rel => exact ⟨k + 1, by omega, by go_num, HN⟩
              case measure => simp [intOf]; omega
            · rcases hb2 : QM.has ys z with _ | _
              · have HN := Lib.hid (hnext (by rw [hb2]; simp))
                rw [hb1] at c1
                rw [hb2] at c2
                clear hnext hb1 hb2
                have C1 := Lib.hid c1; clear c1
                have C2 := Lib.hid c2; clear c2
                go_wp2_with fail
                refine C1.out.mono ?_
                rintro e w2 ⟨rfl, rfl⟩
                go_wp2_with fail
                refine C2.out.mono ?_
                rintro e w2 ⟨rfl, rfl⟩
                go_wp2
                go_round
                case rel => exact ⟨k + 1, by omega, by go_num, HN⟩
                case measure => simp [intOf]; omega
              · rw [hb1] at c1
                rw [hb2] at c2
                clear hnext hb1 hb2
                have C1 := Lib.hid c1; clear c1
                have C2 := Lib.hid c2; clear c2
                go_wp2_with fail
                refine C1.out.mono ?_
                rintro e w2 ⟨rfl, rfl⟩
                go_wp2_with fail
                refine C2.out.mono ?_
                rintro e w2 ⟨rfl, rfl⟩
                go_wp2
                go_ret
                exact ⟨rfl, HB.out⟩
    · have hne : (f != 0) = true := by simpa using hf
      clear hp hq hf hl
      subst he
      go_enter Try.func5, Try.ntmps5
      go_wp2_with fail
      refine (alive_any _).mono ?_
      rintro e w1 ⟨rfl, hb⟩
      have S1 := Lib.hid (R1.out.below hb); have S2 := Lib.hid (R2.out.below hb); have S3 := Lib.hid (R3.out.below hb); have HB := Lib.hid hb; clear hb
      go_wp2_with fail
      refine (most_any _ _ _ _ _ _ _ _ _ _ _ S1.out g1 S2.out g2 HP.out).mono ?_
      rintro e w2 ⟨rfl, rfl⟩
      go_wp2_with fail
      refine (most_any _ _ _ _ _ _ _ _ _ _ _ S1.out g1 S3.out g3 HQ.out).mono ?_
      rintro e w2 ⟨rfl, rfl⟩
      go_wp2
      go_ret
      exact ⟨rfl, HB.out⟩
  · have hne : (e != 0) = true := by simpa using he
    clear hp hq he hl
    go_enter Try.func5, Try.ntmps5
    go_wp2_with fail
    refine (alive_any _).mono ?_
    rintro e w1 ⟨rfl, hb⟩
    have S1 := Lib.hid (R1.out.below hb); have S2 := Lib.hid (R2.out.below hb); have S3 := Lib.hid (R3.out.below hb); have HB := Lib.hid hb; clear hb
    go_wp2_with fail
    refine (most_any _ _ _ _ _ _ _ _ _ _ _ S1.out g1 S2.out g2 HP.out).mono ?_
    rintro e w2 ⟨rfl, rfl⟩
    go_wp2_with fail
    refine (most_any _ _ _ _ _ _ _ _ _ _ _ S1.out g1 S3.out g3 HQ.out).mono ?_
    rintro e w2 ⟨rfl, rfl⟩
    go_wp2
    go_ret
    exact ⟨rfl, HB.out⟩

theorem quorumMeets_walk (A : Option Addr) (n cn : Nat) (zs : List Int) (B : Option Addr) (m cm : Nat) (ys : List Int) (C : Option Addr) (l cl : Nat) (xs : List Int) (w : World) (h1 : IsRow .i64 w A n cn zs) (h2 : IsRow .i64 w B m cm ys) (h3 : IsRow .i64 w C l cl xs) :
    Calls Try.prog 5 #[.slice A n cn, .slice B m cm, .slice C l cl] w fun e w' => e = .returned (.bool true) ∧ Below w.heap.size w w' := by
  obtain ⟨a1, a2, _⟩ := h1.len_le
  obtain ⟨b1, b2, _⟩ := h2.len_le
  obtain ⟨c1, c2, _⟩ := h3.len_le
  unfold maxLen at a2 b2 c2
  exact meets_rd A B C n cn m cm l cl _ _ _ w h1.ints h2.ints h3.ints (by omega) (by omega) (by omega)
end Go.Proofs.Ytodldnnonhlhgaa
