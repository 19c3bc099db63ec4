/-
  The walk of NumBack: a number that is written is read back, whatever stands behind; what is read is written as just these bytes.
-/
import Derived.Test.YtffikjepeoeimaaNumAlive
import Derived.Test.YtffikjepeoeimaaNumG
import Derived.Deep.QuietTactic
import Derived.BigQuiet
namespace Go.Proofs.Ytffikjepeoeimaa
open Go.RowKit
set_option linter.unusedVariables false

theorem str_eq {l r : List UInt8} (h : l = r) : (l == r) = true := by rw [h]; simp

set_option maxRecDepth 100000 in
set_option maxHeartbeats 2000000 in
theorem numBack_ok_none (B : Option Addr) (n cb : Nat) (lb : List UInt8) (w : World) (HRB : Hid (Rd w B n (bc lb))) (hnc : n ≤ cb) (HM : Hid (n ≤ maxLen)) (hn : n ≤ 10000) (hcb : cb ≤ 9223372036854775807) (a : Nat) (l1 : List UInt8) (k1 : Nat) (H1 : Hid (∀ w, Calls Try.prog 9 #[.int .i64 a] w fun e w' => ∃ A c, e = .returned (.tuple #[.slice A k1 c, .int .i64 0]) ∧ Rd w' A k1 (bc l1) ∧ k1 ≤ c ∧ c ≤ maxLen ∧ Below w.heap.size w w')) (ha : a ≤ 1099511627776) (hk1 : k1 ≤ 6) (HD1 : ∀ lb : List UInt8, NM.dec (l1 ++ lb) = some (a, k1)) (HDB : Hid (NM.dec lb = none)) :
    Calls Try.prog 6 #[.int .i64 a, .slice B n cb] w fun e w' => e = .returned (.bool true) ∧ Below w.heap.size w w' := by
  obtain ⟨i0, hi, hz0, hz1, hz2⟩ := info_parts info_u8
  have hd1 := HD1 lb; clear HD1
  have HD1 := Lib.hid hd1; clear hd1
  have hts : decide ((a : Int) ≤ 1099511627776) = true := by simp; omega
  go_enter Try.func6, Try.ntmps6
  go_wp2_with fail
  refine (alive_any _).mono ?_
  rintro e w1 ⟨rfl, hb1⟩
  go_wp2_with fail
  refine (H1.out _).mono ?_
  rintro e w2 ⟨A1, c1, rfl, hr1, hc1, hm1, hb2⟩
  have hB2 := bmore hb1 hb2 (Nat.le_refl _)
  have hrb2 := HRB.out.below hB2
  have hx3 : ∀ w3 : World, Rd w3 A1 k1 (bc l1) → Rd w3 B n (bc lb) → True := fun _ _ _ => trivial
  clear hx3
  go_wp2_with (first
    | (at_builtin; refine wpList_append_rd _ rfl (.const (.slice none 0 0)) (.tmp 40) 22 rfl w2.heap.size 5 i0 (.int .u8 0) 1 Try.underlying22 hi hz0 hz1 hz2 rfl (.slice none 0 0) 0 [] rfl (World.ownsRow_nil _ _ _ _) A1 k1 c1 (bc l1) rfl hr1 (bc_one _) (by unfold maxLen; omega) (by omega) (Nat.le_refl _) ?_; intro v3 w3 hown3 hg3 hob3; simp only [Nat.zero_add, List.nil_append] at hown3; have hb3 := below_of_grown hg3 (by simp [Value.ownBlock]); have hrb3 := hrb2.below hb3)
    | (at_builtin; refine wpList_append_rd _ rfl (.tmp 41) (.tmp 42) 22 rfl w2.heap.size 5 i0 (.int .u8 0) 1 Try.underlying22 hi hz0 hz1 hz2 rfl v3 k1 (bc l1) rfl hown3 B n cb (bc lb) rfl hrb3 (bc_one _) (by unfold maxLen; omega) (by omega) hb3.size ?_; intro v4 w4 hown4 hg4 hob4))
  obtain ⟨A4, c4, rfl, hc4, hm4⟩ := own_slice hown4
  rw [← bc_append] at hown4
  have hr4 := Rd.of_own hown4
  have hB4 : Below w.heap.size w w4 := by
    have hb4 : Below w2.heap.size w2 w4 := hb3.grown hg4 hb3.size (fun g hg => by
      rcases hob3 with e | e
      · rw [e] at hg; simp [Value.ownBlock] at hg
      · rw [e] at hg; injection hg with hg; omega)
    exact bmore hB2 hb4 (Nat.le_refl _)
  clear hown3 hown4 hg3 hg4 hob3 hob4 hr1 hb1 hb2 hrb2 hrb3 hb3
  have hget := get_any A4 (k1 + n) c4 (l1 ++ lb) w4 hr4 (Nat.le_trans hc4 hm4)
  rw [HD1.out] at hget
  have HGet := Lib.hid hget; clear hget hr4
  refine (HGet.out).mono ?_
  rintro e w5 ⟨rfl, rfl⟩
  unfold getRes
  have hB1 := hB4; clear hB4 hB2
  go_wp2_with fail
  have hgb := get_any B n cb lb w4 (HRB.out.below hB1) HM.out
  rw [HDB.out] at hgb
  have HGB := Lib.hid hgb; clear hgb
  refine (HGB.out).mono ?_
  rintro e w6 ⟨rfl, rfl⟩
  unfold getRes
  go_wp2
  go_ret
  exact ⟨rfl, hB1⟩

set_option maxRecDepth 100000 in
set_option maxHeartbeats 2000000 in
theorem numBack_ok_some (B : Option Addr) (n cb : Nat) (lb : List UInt8) (w : World) (HRB : Hid (Rd w B n (bc lb))) (hnc : n ≤ cb) (HM : Hid (n ≤ maxLen)) (hn : n ≤ 10000) (hcb : cb ≤ 9223372036854775807) (a : Nat) (l1 : List UInt8) (k1 : Nat) (H1 : Hid (∀ w, Calls Try.prog 9 #[.int .i64 a] w fun e w' => ∃ A c, e = .returned (.tuple #[.slice A k1 c, .int .i64 0]) ∧ Rd w' A k1 (bc l1) ∧ k1 ≤ c ∧ c ≤ maxLen ∧ Below w.heap.size w w')) (ha : a ≤ 1099511627776) (hk1 : k1 ≤ 6) (HD1 : ∀ lb : List UInt8, NM.dec (l1 ++ lb) = some (a, k1)) (xb kb : Nat) (HDB : Hid (NM.dec lb = some (xb, kb))) (hkn : kb ≤ n) (HPX : Hid (∀ w, Calls Try.prog 9 #[.int .i64 xb] w fun e w' => ∃ A c, e = .returned (.tuple #[.slice A kb c, .int .i64 0]) ∧ Rd w' A kb (bc (lb.take kb)) ∧ kb ≤ c ∧ c ≤ maxLen ∧ Below w.heap.size w w')) :
    Calls Try.prog 6 #[.int .i64 a, .slice B n cb] w fun e w' => e = .returned (.bool true) ∧ Below w.heap.size w w' := by
  obtain ⟨i0, hi, hz0, hz1, hz2⟩ := info_parts info_u8
  have hd1 := HD1 lb; clear HD1
  have HD1 := Lib.hid hd1; clear hd1
  have hts : decide ((a : Int) ≤ 1099511627776) = true := by simp; omega
  go_enter Try.func6, Try.ntmps6
  go_wp2_with fail
  refine (alive_any _).mono ?_
  rintro e w1 ⟨rfl, hb1⟩
  go_wp2_with fail
  refine (H1.out _).mono ?_
  rintro e w2 ⟨A1, c1, rfl, hr1, hc1, hm1, hb2⟩
  have hB2 := bmore hb1 hb2 (Nat.le_refl _)
  have hrb2 := HRB.out.below hB2
  have hx3 : ∀ w3 : World, Rd w3 A1 k1 (bc l1) → Rd w3 B n (bc lb) → True := fun _ _ _ => trivial
  clear hx3
  go_wp2_with (first
    | (at_builtin; refine wpList_append_rd _ rfl (.const (.slice none 0 0)) (.tmp 40) 22 rfl w2.heap.size 5 i0 (.int .u8 0) 1 Try.underlying22 hi hz0 hz1 hz2 rfl (.slice none 0 0) 0 [] rfl (World.ownsRow_nil _ _ _ _) A1 k1 c1 (bc l1) rfl hr1 (bc_one _) (by unfold maxLen; omega) (by omega) (Nat.le_refl _) ?_; intro v3 w3 hown3 hg3 hob3; simp only [Nat.zero_add, List.nil_append] at hown3; have hb3 := below_of_grown hg3 (by simp [Value.ownBlock]); have hrb3 := hrb2.below hb3)
    | (at_builtin; refine wpList_append_rd _ rfl (.tmp 41) (.tmp 42) 22 rfl w2.heap.size 5 i0 (.int .u8 0) 1 Try.underlying22 hi hz0 hz1 hz2 rfl v3 k1 (bc l1) rfl hown3 B n cb (bc lb) rfl hrb3 (bc_one _) (by unfold maxLen; omega) (by omega) hb3.size ?_; intro v4 w4 hown4 hg4 hob4))
  obtain ⟨A4, c4, rfl, hc4, hm4⟩ := own_slice hown4
  rw [← bc_append] at hown4
  have hr4 := Rd.of_own hown4
  have hB4 : Below w.heap.size w w4 := by
    have hb4 : Below w2.heap.size w2 w4 := hb3.grown hg4 hb3.size (fun g hg => by
      rcases hob3 with e | e
      · rw [e] at hg; simp [Value.ownBlock] at hg
      · rw [e] at hg; injection hg with hg; omega)
    exact bmore hB2 hb4 (Nat.le_refl _)
  clear hown3 hown4 hg3 hg4 hob3 hob4 hr1 hb1 hb2 hrb2 hrb3 hb3
  have hget := get_any A4 (k1 + n) c4 (l1 ++ lb) w4 hr4 (Nat.le_trans hc4 hm4)
  rw [HD1.out] at hget
  have HGet := Lib.hid hget; clear hget hr4
  refine (HGet.out).mono ?_
  rintro e w5 ⟨rfl, rfl⟩
  unfold getRes
  have hB1 := hB4; clear hB4 hB2
  go_wp2_with fail
  have hgb := get_any B n cb lb w4 (HRB.out.below hB1) HM.out
  rw [HDB.out] at hgb
  have HGB := Lib.hid hgb; clear hgb
  refine (HGB.out).mono ?_
  rintro e w6 ⟨rfl, rfl⟩
  unfold getRes
  go_wp2_with fail
  refine (HPX.out _).mono ?_
  rintro e w7 ⟨A7, c7, rfl, hr7, hc7, hm7, hb7⟩
  have hB7 := bmore hB1 hb7 (Nat.le_refl _)
  have hrb7 := (HRB.out.below hB7).front (k := kb) hkn
  rw [bc_take] at hrb7
  have hx1 : ∀ (nq cap : Nat), (convert 22 9 (.slice A7 kb cap)).run Try.prog (w7.drewN nq) = .ok (.string ⟨(lb.take kb).toArray⟩) (w7.drewN nq) := fun nq cap =>
    run_string_of _ _ _ 5 _ _ cap _ Try.underlying22 Try.underlying5 Try.underlying9 (hr7.drewN nq)
  have hx2 : ∀ (nq cap : Nat), (convert 22 9 (.slice B kb cap)).run Try.prog (w7.drewN nq) = .ok (.string ⟨(lb.take kb).toArray⟩) (w7.drewN nq) := fun nq cap =>
    run_string_of _ _ _ 5 _ _ cap _ Try.underlying22 Try.underlying5 Try.underlying9 (hrb7.drewN nq)
  clear hr7 hrb7 hb7
  obtain ⟨t, ht⟩ : ∃ t, t = lb.take kb := ⟨_, rfl⟩
  rw [← ht] at hx1 hx2
  clear ht
  have hbb := hB7; clear hB7 hB1
  go_wp2_with fail
  go_quiet (fail)
  go_wp2
  go_ret
  exact ⟨by simp, below_drewN hbb nq⟩

set_option maxRecDepth 100000 in
set_option maxHeartbeats 2000000 in
theorem numBack_no_none (B : Option Addr) (n cb : Nat) (lb : List UInt8) (w : World) (HRB : Hid (Rd w B n (bc lb))) (hnc : n ≤ cb) (HM : Hid (n ≤ maxLen)) (hn : n ≤ 10000) (hcb : cb ≤ 9223372036854775807) (a : Int) (HNO : Hid (¬ (0 ≤ a ∧ a ≤ 1099511627776))) (HDB : Hid (NM.dec lb = none)) :
    Calls Try.prog 6 #[.int .i64 a, .slice B n cb] w fun e w' => e = .returned (.bool true) ∧ Below w.heap.size w w' := by
  obtain ⟨i0, hi, hz0, hz1, hz2⟩ := info_parts info_u8
  rcases (show a < 0 ∨ (0 ≤ a ∧ 1099511627776 < a) by have := HNO.out; omega) with hneg | ⟨hpos, hbig⟩
  · have hdec : decide (0 ≤ a) = false := by simp; omega
    go_enter Try.func6, Try.ntmps6
    go_wp2_with fail
    refine (alive_any _).mono ?_
    rintro e w1 ⟨rfl, hb1⟩
    go_wp2_with fail
    refine (put_no _ _ HNO.out).mono ?_
    rintro e w2 ⟨rfl, rfl⟩
    have hB1 := hb1; clear hb1
    go_wp2_with fail
    have hgb := get_any B n cb lb w1 (HRB.out.below hB1) HM.out
    rw [HDB.out] at hgb
    have HGB := Lib.hid hgb; clear hgb
    refine (HGB.out).mono ?_
    rintro e w6 ⟨rfl, rfl⟩
    unfold getRes
    go_wp2
    go_ret
    exact ⟨rfl, hB1⟩
  · have hdec : decide (a ≤ 1099511627776) = false := by simp; omega
    go_enter Try.func6, Try.ntmps6
    go_wp2_with fail
    refine (alive_any _).mono ?_
    rintro e w1 ⟨rfl, hb1⟩
    go_wp2_with fail
    refine (put_no _ _ HNO.out).mono ?_
    rintro e w2 ⟨rfl, rfl⟩
    have hB1 := hb1; clear hb1
    go_wp2_with fail
    have hgb := get_any B n cb lb w1 (HRB.out.below hB1) HM.out
    rw [HDB.out] at hgb
    have HGB := Lib.hid hgb; clear hgb
    refine (HGB.out).mono ?_
    rintro e w6 ⟨rfl, rfl⟩
    unfold getRes
    go_wp2
    go_ret
    exact ⟨rfl, hB1⟩

set_option maxRecDepth 100000 in
set_option maxHeartbeats 2000000 in
theorem numBack_no_some (B : Option Addr) (n cb : Nat) (lb : List UInt8) (w : World) (HRB : Hid (Rd w B n (bc lb))) (hnc : n ≤ cb) (HM : Hid (n ≤ maxLen)) (hn : n ≤ 10000) (hcb : cb ≤ 9223372036854775807) (a : Int) (HNO : Hid (¬ (0 ≤ a ∧ a ≤ 1099511627776))) (xb kb : Nat) (HDB : Hid (NM.dec lb = some (xb, kb))) (hkn : kb ≤ n) (HPX : Hid (∀ w, Calls Try.prog 9 #[.int .i64 xb] w fun e w' => ∃ A c, e = .returned (.tuple #[.slice A kb c, .int .i64 0]) ∧ Rd w' A kb (bc (lb.take kb)) ∧ kb ≤ c ∧ c ≤ maxLen ∧ Below w.heap.size w w')) :
    Calls Try.prog 6 #[.int .i64 a, .slice B n cb] w fun e w' => e = .returned (.bool true) ∧ Below w.heap.size w w' := by
  obtain ⟨i0, hi, hz0, hz1, hz2⟩ := info_parts info_u8
  rcases (show a < 0 ∨ (0 ≤ a ∧ 1099511627776 < a) by have := HNO.out; omega) with hneg | ⟨hpos, hbig⟩
  · have hdec : decide (0 ≤ a) = false := by simp; omega
    go_enter Try.func6, Try.ntmps6
    go_wp2_with fail
    refine (alive_any _).mono ?_
    rintro e w1 ⟨rfl, hb1⟩
    go_wp2_with fail
    refine (put_no _ _ HNO.out).mono ?_
    rintro e w2 ⟨rfl, rfl⟩
    have hB1 := hb1; clear hb1
    go_wp2_with fail
    have hgb := get_any B n cb lb w1 (HRB.out.below hB1) HM.out
    rw [HDB.out] at hgb
    have HGB := Lib.hid hgb; clear hgb
    refine (HGB.out).mono ?_
    rintro e w6 ⟨rfl, rfl⟩
    unfold getRes
    go_wp2_with fail
    refine (HPX.out _).mono ?_
    rintro e w7 ⟨A7, c7, rfl, hr7, hc7, hm7, hb7⟩
    have hB7 := bmore hB1 hb7 (Nat.le_refl _)
    have hrb7 := (HRB.out.below hB7).front (k := kb) hkn
    rw [bc_take] at hrb7
    have hx1 : ∀ (nq cap : Nat), (convert 22 9 (.slice A7 kb cap)).run Try.prog (w7.drewN nq) = .ok (.string ⟨(lb.take kb).toArray⟩) (w7.drewN nq) := fun nq cap =>
      run_string_of _ _ _ 5 _ _ cap _ Try.underlying22 Try.underlying5 Try.underlying9 (hr7.drewN nq)
    have hx2 : ∀ (nq cap : Nat), (convert 22 9 (.slice B kb cap)).run Try.prog (w7.drewN nq) = .ok (.string ⟨(lb.take kb).toArray⟩) (w7.drewN nq) := fun nq cap =>
      run_string_of _ _ _ 5 _ _ cap _ Try.underlying22 Try.underlying5 Try.underlying9 (hrb7.drewN nq)
    clear hr7 hrb7 hb7
    obtain ⟨t, ht⟩ : ∃ t, t = lb.take kb := ⟨_, rfl⟩
    rw [← ht] at hx1 hx2
    clear ht
    have hbb := hB7; clear hB7 hB1
    go_wp2_with fail
    go_quiet (fail)
    go_wp2
    go_ret
    exact ⟨by simp, below_drewN hbb nq⟩
  · have hdec : decide (a ≤ 1099511627776) = false := by simp; omega
    go_enter Try.func6, Try.ntmps6
    go_wp2_with fail
    refine (alive_any _).mono ?_
    rintro e w1 ⟨rfl, hb1⟩
    go_wp2_with fail
    refine (put_no _ _ HNO.out).mono ?_
    rintro e w2 ⟨rfl, rfl⟩
    have hB1 := hb1; clear hb1
    go_wp2_with fail
    have hgb := get_any B n cb lb w1 (HRB.out.below hB1) HM.out
    rw [HDB.out] at hgb
    have HGB := Lib.hid hgb; clear hgb
    refine (HGB.out).mono ?_
    rintro e w6 ⟨rfl, rfl⟩
    unfold getRes
    go_wp2_with fail
    refine (HPX.out _).mono ?_
    rintro e w7 ⟨A7, c7, rfl, hr7, hc7, hm7, hb7⟩
    have hB7 := bmore hB1 hb7 (Nat.le_refl _)
    have hrb7 := (HRB.out.below hB7).front (k := kb) hkn
    rw [bc_take] at hrb7
    have hx1 : ∀ (nq cap : Nat), (convert 22 9 (.slice A7 kb cap)).run Try.prog (w7.drewN nq) = .ok (.string ⟨(lb.take kb).toArray⟩) (w7.drewN nq) := fun nq cap =>
      run_string_of _ _ _ 5 _ _ cap _ Try.underlying22 Try.underlying5 Try.underlying9 (hr7.drewN nq)
    have hx2 : ∀ (nq cap : Nat), (convert 22 9 (.slice B kb cap)).run Try.prog (w7.drewN nq) = .ok (.string ⟨(lb.take kb).toArray⟩) (w7.drewN nq) := fun nq cap =>
      run_string_of _ _ _ 5 _ _ cap _ Try.underlying22 Try.underlying5 Try.underlying9 (hrb7.drewN nq)
    clear hr7 hrb7 hb7
    obtain ⟨t, ht⟩ : ∃ t, t = lb.take kb := ⟨_, rfl⟩
    rw [← ht] at hx1 hx2
    clear ht
    have hbb := hB7; clear hB7 hB1
    go_wp2_with fail
    go_quiet (fail)
    go_wp2
    go_ret
    exact ⟨by simp, below_drewN hbb nq⟩

theorem numBack_walk (a0 : Int) (a1 : Option Addr) (len1 cap1 : Nat) (z1 : List Int) (w : World) (w0 : (Lit.int .i64 a0).wf = true) (w1 : IsRow .u8 w a1 len1 cap1 z1) :
    Calls Try.prog 6 #[.int .i64 a0, .slice a1 len1 cap1] w fun e w' => e = .returned (.bool true) ∧ Below w.heap.size w w' := by
  have hl := w1.len_le
  have hrb := w1.bytes
  obtain ⟨hl1, hl2, _⟩ := hl
  by_cases hbig : 10000 < len1
  · have hm : len1 ≤ 9223372036854775807 := by unfold maxLen at hl2; omega
    clear hrb w1 hl2 w0
    go_enter Try.func6, Try.ntmps6
    go_wp2_with fail
    refine (alive_any _).mono ?_
    rintro e w1 ⟨rfl, hb1⟩
    go_wp2
    go_ret
    exact ⟨rfl, hb1⟩
  · have hcb : cap1 ≤ 9223372036854775807 := by unfold maxLen at hl2; omega
    have hm : len1 ≤ maxLen := Nat.le_trans hl1 hl2
    generalize (z1.take len1).map byteOf = lb at hrb
    have hlb : lb.length = len1 := by have := hrb.1; rwa [bc_length] at this
    by_cases h0 : 0 ≤ a0 ∧ a0 ≤ 1099511627776
    · obtain ⟨a, rfl⟩ := Int.eq_ofNat_of_zero_le h0.1
      have ha : a ≤ 1099511627776 := by omega
      have hp := fun w => put_rd a _ _ w ha rfl rfl
      rcases hd : NM.dec lb with _ | ⟨xb, kb⟩
      · exact numBack_ok_none a1 len1 cap1 lb w (Lib.hid hrb) hl1 (Lib.hid hm) (by omega) hcb a _ _ (Lib.hid hp) ha (NM.enc_le a) (fun lb => NM.dec_enc a lb ha) (Lib.hid hd)
      · have g := NM.dec_bound lb xb kb hd
        refine numBack_ok_some a1 len1 cap1 lb w (Lib.hid hrb) hl1 (Lib.hid hm) (by omega) hcb a _ _ (Lib.hid hp) ha (NM.enc_le a) (fun lb => NM.dec_enc a lb ha) xb kb (Lib.hid hd) (by omega) (Lib.hid fun w => put_rd xb _ kb w g.1 g.2.2.2.2 (by rw [List.length_take]; omega))
    · rcases hd : NM.dec lb with _ | ⟨xb, kb⟩
      · exact numBack_no_none a1 len1 cap1 lb w (Lib.hid hrb) hl1 (Lib.hid hm) (by omega) hcb a0 (Lib.hid h0) (Lib.hid hd)
      · have g := NM.dec_bound lb xb kb hd
        exact numBack_no_some a1 len1 cap1 lb w (Lib.hid hrb) hl1 (Lib.hid hm) (by omega) hcb a0 (Lib.hid h0) xb kb (Lib.hid hd) (by omega) (Lib.hid fun w => put_rd xb _ kb w g.1 g.2.2.2.2 (by rw [List.length_take]; omega))
end Go.Proofs.Ytffikjepeoeimaa
