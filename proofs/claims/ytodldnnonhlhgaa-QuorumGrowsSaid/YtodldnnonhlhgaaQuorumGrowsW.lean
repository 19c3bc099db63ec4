/-
  The walk of QuorumGrows: a majority stays one with more nodes; all members are one, nobody is none, fewer than Need are none, as many as Need are one. Conditions: any three slices of ints.
-/
import Derived.Test.YtodldnnonhlhgaaQuorumAlive
namespace Go.Proofs.Ytodldnnonhlhgaa
open Go.RowKit
set_option linter.unusedVariables false

theorem below_app2 {w1 w4 w5 : World} {Ai : Option Addr} {m ci : Nat} (hg4 : w1.grownBy w4 (Value.slice none 0 0).ownBlock) (hob4 : (Value.slice Ai m ci).ownBlock = (Value.slice none 0 0).ownBlock ∨ (Value.slice Ai m ci).ownBlock = some w1.heap.size) (hg5 : w4.grownBy w5 (Value.slice Ai m ci).ownBlock) : Below w1.heap.size w1 w5 := by
  refine below_of_grown (grown_more hg4 hg5 ?_) (by simp [Value.ownBlock])
  rcases hob4 with h | h
  · exact .inl h
  · refine .inr fun g hg => ?_
    rw [h] at hg
    injection hg with hg
    omega
theorem grows_few {ms : List Int} {n k : Nat} (hl : ms.length = n) (hk : k = n / 2) (h : QM.ChkIs ms 0) : QM.MostIs ms (ms.take k) false 0 := by
  have hmay : QM.may ms = true := by
    rcases QM.chkIs_cases h with ⟨_, h⟩ | ⟨_, h⟩
    · exact h
    · omega
  obtain ⟨a1, a2, a3⟩ := QM.may_len hmay
  refine .inr (.inr ⟨h, by rw [List.length_take]; omega, ?_, rfl⟩)
  rw [QM.cnt_take (QM.rise_nodup a3) k (by omega)]
  simp
  omega
theorem grows_just {ms : List Int} {n k j : Nat} (hl : ms.length = n) (hk : k = n / 2) (hj : n = j + (k + 1)) (h : QM.ChkIs ms 0) : QM.MostIs ms (ms.drop j) true 0 := by
  have hmay : QM.may ms = true := by
    rcases QM.chkIs_cases h with ⟨_, h⟩ | ⟨_, h⟩
    · exact h
    · omega
  obtain ⟨a1, a2, a3⟩ := QM.may_len hmay
  refine .inr (.inr ⟨h, by rw [List.length_drop]; omega, ?_, rfl⟩)
  rw [QM.cnt_drop (QM.rise_nodup a3) j (by omega)]
  simp
  omega
theorem grows_all {ms : List Int} (h : QM.ChkIs ms 0) : QM.MostIs ms ms true 0 := by
  have hmay : QM.may ms = true := by
    rcases QM.chkIs_cases h with ⟨_, h⟩ | ⟨_, h⟩
    · exact h
    · omega
  obtain ⟨a1, a2, a3⟩ := QM.may_len hmay
  refine .inr (.inr ⟨h, by omega, ?_, rfl⟩)
  rw [QM.cnt_all]
  simp
  omega
theorem grows_none {ms : List Int} (h : QM.ChkIs ms 0) : QM.MostIs ms [] false 0 := by
  refine .inr (.inr ⟨h, by simp, ?_, rfl⟩)
  rw [QM.cnt_none]
  simp

set_option maxRecDepth 100000 in
set_option maxHeartbeats 2000000 in
theorem grows_great (A B C : Option Addr) (n cn m cm l cl : Nat) (w : World) (h : 300 < m ∨ (m ≤ 300 ∧ 300 < l)) :
    Calls Try.prog 6 #[.slice A n cn, .slice B m cm, .slice C l cl] w fun e w' => e = .returned (.bool true) ∧ Below w.heap.size w w' := by
  rcases h with h | ⟨h1, h⟩
  all_goals
    go_enter Try.func6, Try.ntmps6
    go_wp2_with fail
    refine (alive_any _).mono ?_
    rintro e w1 ⟨rfl, hb⟩
    have HB := Lib.hid hb; clear hb
    go_wp2
    go_ret
    exact ⟨rfl, HB.out⟩

set_option maxRecDepth 100000 in
set_option maxHeartbeats 2000000 in
theorem grows_no (A B C : Option Addr) (n cn m cm l cl : Nat) (ms xs ys : List Int) (x : Int) (w : World) (h1 : Rd w A n (ic ms)) (h2 : Rd w B m (ic xs)) (h3 : Rd w C l (ic ys)) (g1 : n ≤ 9223372036854775807) (g2 : m ≤ 300) (g3 : l ≤ 300) (hc : QM.ChkIs ms x) (hx : x ≠ 0) :
    Calls Try.prog 6 #[.slice A n cn, .slice B m cm, .slice C l cl] w fun e w' => e = .returned (.bool true) ∧ Below w.heap.size w w' := by
  obtain ⟨i0, hi, hz0, hz1, hz2⟩ := info_parts info_qi
  have HP := Lib.hid (show QM.MostIs ms xs false x from .inl ⟨hc, hx, rfl⟩)
  have HQ := Lib.hid (show QM.MostIs ms (xs ++ ys) false x from .inl ⟨hc, hx, rfl⟩)
  have hne : (x != 0) = true := by simpa using hx
  have R1 := Lib.hid h1; clear h1
  have R2 := Lib.hid h2; clear h2
  have R3 := Lib.hid h3; clear h3
  clear hc hx
  go_enter Try.func6, Try.ntmps6
  go_wp2_with fail
  refine (alive_any _).mono ?_
  rintro e w1 ⟨rfl, hb⟩
  have S1 := Lib.hid (R1.out.below hb); have S2 := Lib.hid (R2.out.below hb); have S3 := Lib.hid (R3.out.below hb); have HB := Lib.hid hb; clear hb
  go_wp2_with fail
  refine (most_any _ _ _ _ _ _ _ _ _ _ _ S1.out g1 S2.out (by omega) HP.out).mono ?_
  rintro e w2 ⟨rfl, rfl⟩
  go_wp2_with (first
    | (at_builtin; refine wpList_append_rd _ rfl _ _ 25 rfl w1.heap.size 3 i0 (.int .i64 0) 8 Try.underlying25 hi hz0 hz1 hz2 rfl (.slice none 0 0) 0 [] rfl (World.ownsRow_nil _ _ _ _) B m cm (ic xs) rfl S2.out (ic_one xs) (by unfold maxLen; omega) (by omega) (Nat.le_refl _) ?_; intro v4 w4 hown4 hg4 hob4; simp only [Nat.zero_add, List.nil_append] at hown4; obtain ⟨Ai, ci, hv4, hci1, hci2⟩ := own_slice hown4; subst hv4; have hb4 : Below w1.heap.size w1 w4 := below_of_grown hg4 (by simp [Value.ownBlock]); have S3b := Lib.hid (S3.out.below hb4))
    | (at_builtin; refine wpList_append_rd _ rfl _ _ 25 rfl w1.heap.size 3 i0 (.int .i64 0) 8 Try.underlying25 hi hz0 hz1 hz2 rfl (.slice Ai m ci) m (ic xs) rfl hown4 C l cl (ic ys) rfl S3b.out (ic_one ys) (by unfold maxLen; omega) (by omega) hb4.size ?_; intro v5 w5 hown5 hg5 hob5; rw [← ic_append] at hown5; obtain ⟨Aj, cj, hv5, hcj1, hcj2⟩ := own_slice hown5; subst hv5; have hb5 : Below w1.heap.size w1 w5 := below_app2 hg4 hob4 hg5; have S5 := Lib.hid (Rd.of_own hown5); clear S3b hown4 hg4 hob4 hci1 hci2 hb4 hown5 hg5 hob5 hcj1 hcj2))
  have T1 := Lib.hid (S1.out.below hb5)
  have HB5 := Lib.hid (bmore HB.out hb5 (Nat.le_refl _)); clear hb5
  refine (most_any _ _ _ _ _ _ _ _ _ _ _ T1.out g1 S5.out (by omega) HQ.out).mono ?_
  rintro e w6 ⟨rfl, rfl⟩
  go_wp2
  go_ret
  exact ⟨rfl, HB5.out⟩

set_option maxRecDepth 100000 in
set_option maxHeartbeats 4000000 in
theorem grows_yes (A B C : Option Addr) (n cn m cm l cl : Nat) (ms xs ys : List Int) (w : World) (h1 : Rd w A n (ic ms)) (h2 : Rd w B m (ic xs)) (h3 : Rd w C l (ic ys)) (g0 : n ≤ cn) (g1 : cn ≤ 9223372036854775807) (g2 : m ≤ 300) (g3 : l ≤ 300) (hc : QM.ChkIs ms 0) :
    Calls Try.prog 6 #[.slice A n cn, .slice B m cm, .slice C l cl] w fun e w' => e = .returned (.bool true) ∧ Below w.heap.size w w' := by
  obtain ⟨i0, hi, hz0, hz1, hz2⟩ := info_parts info_qi
  have hl : ms.length = n := by have := h1.1; rwa [ic_length] at this
  have hl2 : xs.length = m := by have := h2.1; rwa [ic_length] at this
  have hl3 : ys.length = l := by have := h3.1; rwa [ic_length] at this
  have hmay : QM.may ms = true := by
    rcases QM.chkIs_cases hc with ⟨_, h⟩ | ⟨_, h⟩
    · exact h
    · omega
  obtain ⟨a1, a2, a3⟩ := QM.may_len hmay
  obtain ⟨p, hp⟩ : ∃ p, p = decide (ms.length / 2 + 1 ≤ QM.cnt ms xs) := ⟨_, rfl⟩
  obtain ⟨q, hq⟩ : ∃ q, q = decide (ms.length / 2 + 1 ≤ QM.cnt ms (xs ++ ys)) := ⟨_, rfl⟩
  have HP := Lib.hid (show QM.MostIs ms xs p 0 from .inr (.inr ⟨hc, by omega, hp, rfl⟩))
  have HQ := Lib.hid (show QM.MostIs ms (xs ++ ys) q 0 from .inr (.inr ⟨hc, by rw [List.length_append]; omega, hq, rfl⟩))
  have HPQ := Lib.hid (show p = true → q = true by
    intro h
    rw [hp] at h
    rw [hq]
    have h' := of_decide_eq_true h
    have := QM.cnt_more ms xs ys
    simp
    omega)
  obtain ⟨k, hk⟩ : ∃ k, k = n / 2 := ⟨_, rfl⟩
  obtain ⟨j, hj⟩ : ∃ j, n = j + (k + 1) := ⟨n - (k + 1), by omega⟩
  have HA := Lib.hid (grows_all hc)
  have HN := Lib.hid (grows_none hc)
  have HF := Lib.hid (grows_few hl hk hc)
  have HJ := Lib.hid (grows_just hl hk hj hc)
  have HD := Lib.hid (show QM.NeedIs ms ((k : Int) + 1) 0 from ⟨hc, .inl ⟨rfl, by rw [hl]; omega⟩⟩)
  have hn0 : 0 < n := by omega
  obtain ⟨ad, rfl⟩ : ∃ ad, A = some ad := by obtain ⟨ad, u, h, _, _, _⟩ := h1.at_ hn0; exact ⟨ad, h⟩
  have hkn : k + 1 ≤ n := by omega
  have hjn : j < n := by omega
  have hjc : cn ≠ j := by omega
  have hjj : n - j = k + 1 := by omega
  have R1 := Lib.hid h1; clear h1
  have R2 := Lib.hid h2; clear h2
  have R3 := Lib.hid h3; clear h3
  clear hc hl hl2 hl3 hmay a1 a2 a3 hp hq hk
  have HJN := Lib.hid hj; clear hj
  have HJJ := Lib.hid hjj; clear hjj
  have e1 : (k : Int) + 1 - 1 = (k : Int) := by omega
  have e2 : (n : Int) - ((k : Int) + 1) = (j : Int) := by have := HJN.out; omega
  go_enter Try.func6, Try.ntmps6
  go_wp2_with fail
  refine (alive_any _).mono ?_
  rintro e w1 ⟨rfl, hb⟩
  have S1 := Lib.hid (R1.out.below hb); have S2 := Lib.hid (R2.out.below hb); have S3 := Lib.hid (R3.out.below hb); have HB := Lib.hid hb; clear hb R1 R2 R3
  go_wp2_with fail
  refine (most_any _ _ _ _ _ _ _ _ _ _ _ S1.out (by omega) S2.out (by omega) HP.out).mono ?_
  rintro e w2 ⟨rfl, rfl⟩
  go_wp2_with (first
    | (at_builtin; refine wpList_append_rd _ rfl _ _ 25 rfl w1.heap.size 3 i0 (.int .i64 0) 8 Try.underlying25 hi hz0 hz1 hz2 rfl (.slice none 0 0) 0 [] rfl (World.ownsRow_nil _ _ _ _) B m cm (ic xs) rfl S2.out (ic_one xs) (by unfold maxLen; omega) (by omega) (Nat.le_refl _) ?_; intro v4 w4 hown4 hg4 hob4; simp only [Nat.zero_add, List.nil_append] at hown4; obtain ⟨Ai, ci, hv4, hci1, hci2⟩ := own_slice hown4; subst hv4; have hb4 : Below w1.heap.size w1 w4 := below_of_grown hg4 (by simp [Value.ownBlock]); have S3b := Lib.hid (S3.out.below hb4))
    | (at_builtin; refine wpList_append_rd _ rfl _ _ 25 rfl w1.heap.size 3 i0 (.int .i64 0) 8 Try.underlying25 hi hz0 hz1 hz2 rfl (.slice Ai m ci) m (ic xs) rfl hown4 C l cl (ic ys) rfl S3b.out (ic_one ys) (by unfold maxLen; omega) (by omega) hb4.size ?_; intro v5 w5 hown5 hg5 hob5; rw [← ic_append] at hown5; obtain ⟨Aj, cj, hv5, hcj1, hcj2⟩ := own_slice hown5; subst hv5; have hb5 : Below w1.heap.size w1 w5 := below_app2 hg4 hob4 hg5; have S5 := Lib.hid (Rd.of_own hown5); clear S3b hown4 hg4 hob4 hci1 hci2 hb4 hown5 hg5 hob5 hcj1 hcj2))
  have T1 := Lib.hid (S1.out.below hb5)
  have HB5 := Lib.hid (bmore HB.out hb5 (Nat.le_refl _)); clear hb5
  refine (most_any _ _ _ _ _ _ _ _ _ _ _ T1.out (by omega) S5.out (by omega) HQ.out).mono ?_
  rintro e w6 ⟨rfl, rfl⟩
  clear hi hz0 hz1 hz2
  go_wp2_with fail
  refine (most_any _ _ _ _ _ _ _ _ _ _ _ T1.out (by omega) T1.out (by omega) HA.out).mono ?_
  rintro e w6 ⟨rfl, rfl⟩
  go_wp2_with fail
  refine (most_any (some ad) n cn ms none 0 0 [] false 0 w5 T1.out (by omega) Rd.nil (by omega) HN.out).mono ?_
  rintro e w6 ⟨rfl, rfl⟩
  go_wp2_with fail
  refine (need_any _ _ _ _ _ _ _ T1.out (by omega) HD.out).mono ?_
  rintro e w6 ⟨rfl, rfl⟩
  have F1 := Lib.hid (T1.out.front (k := k) (by omega))
  rw [ic_take] at F1
  go_wp2_with fail
  refine (most_any (some ad) n cn ms (some ad) k cn (ms.take k) false 0 w5 T1.out (by omega) F1.out (by omega) HF.out).mono ?_
  rintro e w6 ⟨rfl, rfl⟩
  go_wp2_with fail
  have f2 : Rd w5 (some (ad.add j)) (n - j) (ic (ms.drop j)) := by
    have := T1.out.cutm (k := j) (by omega)
    rw [ic_drop] at this
    exact this
  have F2 := Lib.hid f2; clear f2
  refine (most_any (some ad) n cn ms (some (ad.add j)) (n - j) (cn - j) (ms.drop j) true 0 w5 T1.out (by omega) F2.out (by omega) HJ.out).mono ?_
  rintro e w6 ⟨rfl, rfl⟩
  rcases p with _ | _
  · go_wp2
    go_ret
    exact ⟨rfl, HB5.out⟩
  · obtain rfl := HPQ.out rfl
    go_wp2
    go_ret
    exact ⟨rfl, HB5.out⟩

theorem quorumGrows_walk (A : Option Addr) (n cn : Nat) (zs : List Int) (B : Option Addr) (m cm : Nat) (ys : List Int) (C : Option Addr) (l cl : Nat) (xs : List Int) (w : World) (h1 : IsRow .i64 w A n cn zs) (h2 : IsRow .i64 w B m cm ys) (h3 : IsRow .i64 w C l cl xs) :
    Calls Try.prog 6 #[.slice A n cn, .slice B m cm, .slice C l cl] w fun e w' => e = .returned (.bool true) ∧ Below w.heap.size w w' := by
  obtain ⟨a1, a2, _⟩ := h1.len_le
  unfold maxLen at a2
  by_cases hg : m ≤ 300 ∧ l ≤ 300
  · obtain ⟨x, hc⟩ := QM.chkIs_ex (zs.take n)
    by_cases hx : x = 0
    · subst hx
      exact grows_yes A B C n cn m cm l cl _ _ _ w h1.ints h2.ints h3.ints a1 (by omega) hg.1 hg.2 hc
    · exact grows_no A B C n cn m cm l cl _ _ _ x w h1.ints h2.ints h3.ints (by omega) hg.1 hg.2 hc hx
  · exact grows_great A B C n cn m cm l cl w (by omega)
end Go.Proofs.Ytodldnnonhlhgaa
