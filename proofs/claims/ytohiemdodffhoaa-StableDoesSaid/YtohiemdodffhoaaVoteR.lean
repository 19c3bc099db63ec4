/-
  What the document's own functions of layer 7 answer (towncrierref07: May, asked, Prepare, Accept). Conditions: as each theorem says.
-/
import Derived.Test.YtohiemdodffhoaaVoteA
import Derived.Test.YtohiemdodffhoaaBallotRM
namespace Go.Proofs.Ytohiemdodffhoaa.VP
open Go.RowKit
set_option linter.unusedVariables false

set_option maxRecDepth 100000 in
set_option maxHeartbeats 1000000 in
theorem rVMay_any (p b : Int) (s : ByteArray) (w : World) (hs : s.size ≤ maxLen) :
    Calls Try.prog 53 #[.agg #[.int .i64 p, .int .i64 b, .string s]] w (BoolIs (VM.may p b s) w) := by
  unfold maxLen at hs
  have hb0 : Below w.heap.size w (w.alloc (.cells #[.int .i64 p, .int .i64 b, .string s] 48)) := (Below.refl _ _).alloc (Nat.le_refl _) _
  have HB0 := Lib.hid hb0; clear hb0
  by_cases hP : VM.okP p
  · rcases (show p = 0 ∨ (p ≠ 0 ∧ BM.good p) by unfold VM.okP at hP; by_cases h : p = 0; exact .inl h; exact .inr ⟨h, hP.resolve_left h⟩) with hz | ⟨hz, hg⟩
    · subst hz
      by_cases hb : b = 0
      · subst hb
        go_enter Try.func53, Try.ntmps53
        go_wp2_with fail
        go_ret
        refine bool_ret (x := s.toList.isEmpty) ?_ HB0.out rfl
        rw [str_none]
        exact ⟨fun h => ⟨hP, .inl ⟨rfl, h⟩⟩, fun h => h.2.elim (fun h => h.2) (fun h => absurd rfl h.1)⟩
      · have hz' : (b == 0) = false := by simpa using hb
        by_cases hg : BM.good b
        · have hp : ¬ b ≤ 0 := by have := hg.1; omega
          go_enter Try.func53, Try.ntmps53
          go_wp2_with fail
          refine (rMay_yes _ _ hg).mono ?_
          rintro e w1 ⟨rfl, rfl⟩
          go_wp2_with fail
          go_ret
          refine bool_ret (x := false) ?_ HB0.out rfl
          exact ⟨fun h => (by cases h), fun h => h.2.elim (fun h => absurd h.1 hb) (fun h => by have := h.2.2.1; omega)⟩
        · have HG := Lib.hid hg; clear hg
          go_enter Try.func53, Try.ntmps53
          go_wp2_with fail
          refine (rMay_no _ _ HG.out).mono ?_
          rintro e w1 ⟨rfl, rfl⟩
          go_wp2_with fail
          go_ret
          refine bool_ret (x := false) ?_ HB0.out rfl
          exact ⟨fun h => (by cases h), fun h => h.2.elim (fun h => absurd h.1 hb) (fun h => absurd h.2.1 HG.out)⟩
    · have hzp : (p == 0) = false := by simpa using hz
      have hzn : (p != 0) = true := by simpa using hz
      have HG0 := Lib.hid hg; clear hg
      by_cases hb : b = 0
      · subst hb
        go_enter Try.func53, Try.ntmps53
        go_wp2_with fail
        refine (rMay_yes _ _ HG0.out).mono ?_
        rintro e w1 ⟨rfl, rfl⟩
        go_wp2_with fail
        go_ret
        refine bool_ret (x := s.toList.isEmpty) ?_ HB0.out rfl
        rw [str_none]
        exact ⟨fun h => ⟨hP, .inl ⟨rfl, h⟩⟩, fun h => h.2.elim (fun h => h.2) (fun h => absurd rfl h.1)⟩
      · have hz' : (b == 0) = false := by simpa using hb
        by_cases hg : BM.good b
        · have HG := Lib.hid hg; clear hg
          rcases (show b ≤ p ∨ p < b by omega) with hp | hp
          · go_enter Try.func53, Try.ntmps53
            go_wp2_with fail
            refine (rMay_yes _ _ HG0.out).mono ?_
            rintro e w1 ⟨rfl, rfl⟩
            go_wp2_with fail
            refine (rMay_yes _ _ HG.out).mono ?_
            rintro e w1 ⟨rfl, rfl⟩
            go_wp2_with fail
            go_ret
            refine bool_ret (x := decide ((s.size : Int) ≤ 1024)) ?_ HB0.out rfl
            rw [decide_eq_true_iff]
            exact ⟨fun h => ⟨hP, .inr ⟨hb, HG.out, hp, by omega⟩⟩, fun h => h.2.elim (fun h => absurd h.1 hb) (fun h => by have := h.2.2.2; omega)⟩
          · go_enter Try.func53, Try.ntmps53
            go_wp2_with fail
            refine (rMay_yes _ _ HG0.out).mono ?_
            rintro e w1 ⟨rfl, rfl⟩
            go_wp2_with fail
            refine (rMay_yes _ _ HG.out).mono ?_
            rintro e w1 ⟨rfl, rfl⟩
            go_wp2_with fail
            go_ret
            refine bool_ret (x := false) ?_ HB0.out rfl
            exact ⟨fun h => (by cases h), fun h => h.2.elim (fun h => absurd h.1 hb) (fun h => by have := h.2.2.1; omega)⟩
        · have HG := Lib.hid hg; clear hg
          go_enter Try.func53, Try.ntmps53
          go_wp2_with fail
          refine (rMay_yes _ _ HG0.out).mono ?_
          rintro e w1 ⟨rfl, rfl⟩
          go_wp2_with fail
          refine (rMay_no _ _ HG.out).mono ?_
          rintro e w1 ⟨rfl, rfl⟩
          go_wp2_with fail
          go_ret
          refine bool_ret (x := false) ?_ HB0.out rfl
          exact ⟨fun h => (by cases h), fun h => h.2.elim (fun h => absurd h.1 hb) (fun h => absurd h.2.1 HG.out)⟩
  · have hz : p ≠ 0 := fun h => hP (.inl h)
    have HG := Lib.hid (show ¬ BM.good p from fun h => hP (.inr h))
    have hzp : (p == 0) = false := by simpa using hz
    have hzn : (p != 0) = true := by simpa using hz
    go_enter Try.func53, Try.ntmps53
    go_wp2_with fail
    refine (rMay_no _ _ HG.out).mono ?_
    rintro e w1 ⟨rfl, rfl⟩
    go_wp2_with fail
    go_ret
    refine bool_ret (x := false) ?_ HB0.out rfl
    exact ⟨fun h => (by cases h), fun h => absurd h.1 hP⟩

def AskIs (p b : Int) (s : ByteArray) (k e : Int) : Prop := (¬ VM.may p b s ∧ e = 8) ∨ (VM.may p b s ∧ ¬ BM.good k ∧ e = 50) ∨ (VM.may p b s ∧ BM.good k ∧ e = 0)
theorem askIs_ex (p b : Int) (s : ByteArray) (k : Int) : ∃ e, AskIs p b s k e := by
  by_cases h : VM.may p b s
  · by_cases h1 : BM.good k
    · exact ⟨_, .inr (.inr ⟨h, h1, rfl⟩)⟩
    · exact ⟨_, .inr (.inl ⟨h, h1, rfl⟩)⟩
  · exact ⟨_, .inl ⟨h, rfl⟩⟩
set_option maxRecDepth 100000 in
set_option maxHeartbeats 1000000 in
theorem asked_any {p b : Int} {s : ByteArray} {k e : Int} (w : World) (hs : s.size ≤ maxLen) (h : AskIs p b s k e) :
    Calls Try.prog 75 #[.agg #[.int .i64 p, .int .i64 b, .string s], .int .i64 k] w (IntIs e w) := by
  have hb0 : Below w.heap.size w (w.alloc (.cells #[.int .i64 p, .int .i64 b, .string s] 48)) := (Below.refl _ _).alloc (Nat.le_refl _) _
  have HB0 := Lib.hid hb0; clear hb0
  have HC := Lib.hid h; clear h
  go_enter Try.func75, Try.ntmps75
  go_wp2_with fail
  refine (rVMay_any p b s _ hs).mono ?_
  rintro e w1 ⟨x, hx, rfl, hb1⟩
  have HB1 := Lib.hid (bmore HB0.out hb1 (by simp)); clear hb1 HB0 hs
  have HX := Lib.hid hx; clear hx
  rcases HC.out with ⟨h, rfl⟩ | ⟨h, h2, rfl⟩ | ⟨h, h2, rfl⟩
  · obtain rfl : x = false := by cases x; rfl; exact absurd (HX.out.1 rfl) h
    clear h HX HC
    go_wp2_with fail
    go_ret
    exact ⟨rfl, HB1.out⟩
  · obtain rfl : x = true := HX.out.2 h
    have H2 := Lib.hid h2
    clear h h2 HX HC
    go_wp2_with fail
    refine (rMay_no _ _ H2.out).mono ?_
    rintro e w2 ⟨rfl, rfl⟩
    go_wp2_with fail
    go_ret
    exact ⟨rfl, HB1.out⟩
  · obtain rfl : x = true := HX.out.2 h
    have H2 := Lib.hid h2
    clear h h2 HX HC
    go_wp2_with fail
    refine (rMay_yes _ _ H2.out).mono ?_
    rintro e w2 ⟨rfl, rfl⟩
    go_wp2_with fail
    go_ret
    exact ⟨rfl, HB1.out⟩

theorem ask_of {p b : Int} {s : ByteArray} {k : Int} {v : ByteArray} {e : Int} (h : VM.WrongIs p b s k v e) :
    ∃ a, AskIs p b s k a ∧ ((a ≠ 0 ∧ e = a) ∨ (a = 0 ∧ ((1024 < v.size ∧ e = 3) ∨ (v.size ≤ 1024 ∧ k < p ∧ e = 70) ∨ (v.size ≤ 1024 ∧ p ≤ k ∧ e = 0)))) := by
  rcases h with ⟨h, rfl⟩ | ⟨h, h2, rfl⟩ | ⟨h, h2, h3, rfl⟩ | ⟨h, h2, h3, h4, rfl⟩ | ⟨h, h2, h3, h4, rfl⟩
  · exact ⟨_, .inl ⟨h, rfl⟩, .inl ⟨by decide, rfl⟩⟩
  · exact ⟨_, .inr (.inl ⟨h, h2, rfl⟩), .inl ⟨by decide, rfl⟩⟩
  · exact ⟨_, .inr (.inr ⟨h, h2, rfl⟩), .inr ⟨rfl, .inl ⟨h3, rfl⟩⟩⟩
  · exact ⟨_, .inr (.inr ⟨h, h2, rfl⟩), .inr ⟨rfl, .inr (.inl ⟨h3, h4, rfl⟩)⟩⟩
  · exact ⟨_, .inr (.inr ⟨h, h2, rfl⟩), .inr ⟨rfl, .inr (.inr ⟨h3, h4, rfl⟩)⟩⟩

set_option maxRecDepth 100000 in
set_option maxHeartbeats 1000000 in
theorem rPrep_any {p b : Int} {s : ByteArray} {k x y : Int} {t : ByteArray} {e : Int} (w : World) (hs : s.size ≤ maxLen) (h : VM.PrepIs p b s k x y t e) :
    Calls Try.prog 41 #[.agg #[.int .i64 p, .int .i64 b, .string s], .int .i64 k] w (VoteAns x y t e w) := by
  have hb0 : Below w.heap.size w ((w.alloc (.cells #[.int .i64 p, .int .i64 b, .string s] 48)).alloc (.cells #[.int .i64 0, .int .i64 0, .string .empty] 48)) := ((Below.refl _ _).alloc (Nat.le_refl _) _).alloc (by simp) _
  have HB0 := Lib.hid hb0; clear hb0
  obtain ⟨hw, hc⟩ := h
  obtain ⟨a, ha, hae⟩ := ask_of hw
  have HA := Lib.hid ha; clear ha hw
  go_enter Try.func41, Try.ntmps41
  go_wp2_with fail
  refine (asked_any _ hs HA.out).mono ?_
  rintro _ w1 ⟨rfl, hb1⟩
  obtain ⟨c0, c1, c2, e0, e1, e2, d0, d1, d2, f0, f1, f2⟩ := vote_cells2 hb1
  have HB1 := Lib.hid (bmore HB0.out hb1 (by simp)); clear hb1 HB0 hs HA
  rcases hae with ⟨ha, rfl⟩ | ⟨rfl, ⟨h3, rfl⟩ | ⟨_, h4, rfl⟩ | ⟨_, h4, rfl⟩⟩
  · obtain ⟨_, rfl, rfl, rfl⟩ | ⟨rfl, _⟩ := hc
    · go_wp2_with fail
      exact bodyPost_ret (v := .tuple #[.agg #[.int .i64 0, .int .i64 0, .string .empty], .int .i64 e]) (by simp [results, Try.results41, go_sem, d0, d1, d2]; rfl) rfl ⟨rfl, below_put3 HB1.out (by omega) _ _ _⟩
    · exact absurd rfl ha
  · exact absurd h3 (by decide)
  · obtain ⟨_, rfl, rfl, rfl⟩ | ⟨h0, _⟩ := hc
    · go_wp2_with fail
      exact bodyPost_ret (v := .tuple #[.agg #[.int .i64 0, .int .i64 0, .string .empty], .int .i64 70]) (by simp [results, Try.results41, go_sem, d0, d1, d2]; rfl) rfl ⟨rfl, below_put3 HB1.out (by omega) _ _ _⟩
    · exact absurd h0 (by decide)
  · obtain ⟨h0, _⟩ | ⟨_, rfl, rfl, rfl⟩ := hc
    · exact absurd rfl h0
    · go_wp2_with fail
      exact bodyPost_ret (v := .tuple #[.agg #[.int .i64 x, .int .i64 y, .string t], .int .i64 0]) (by simp [results, Try.results41, go_sem, d0, d1, d2]) rfl ⟨rfl, below_put3 (below_put1 HB1.out (by omega) _) (by omega) _ _ _⟩

set_option maxRecDepth 100000 in
set_option maxHeartbeats 1000000 in
theorem rAcc_any {p b : Int} {s : ByteArray} {k : Int} {v : ByteArray} {x y : Int} {t : ByteArray} {e : Int} (w : World) (hs : s.size ≤ maxLen) (hv : v.size ≤ maxLen) (h : VM.AccIs p b s k v x y t e) :
    Calls Try.prog 42 #[.agg #[.int .i64 p, .int .i64 b, .string s], .int .i64 k, .string v] w (VoteAns x y t e w) := by
  have hb0 : Below w.heap.size w ((w.alloc (.cells #[.int .i64 p, .int .i64 b, .string s] 48)).alloc (.cells #[.int .i64 0, .int .i64 0, .string .empty] 48)) := ((Below.refl _ _).alloc (Nat.le_refl _) _).alloc (by simp) _
  have HB0 := Lib.hid hb0; clear hb0
  have hv' : v.size ≤ 9223372036854775807 := by unfold maxLen at hv; omega
  clear hv
  obtain ⟨hw, hc⟩ := h
  obtain ⟨a, ha, hae⟩ := ask_of hw
  have HA := Lib.hid ha; clear ha hw
  go_enter Try.func42, Try.ntmps42
  go_wp2_with fail
  refine (asked_any _ hs HA.out).mono ?_
  rintro _ w1 ⟨rfl, hb1⟩
  obtain ⟨c0, c1, c2, e0, e1, e2, d0, d1, d2, f0, f1, f2⟩ := vote_cells2 hb1
  have HB1 := Lib.hid (bmore HB0.out hb1 (by simp)); clear hb1 HB0 hs HA
  rcases hae with ⟨ha, rfl⟩ | ⟨rfl, ⟨h3, rfl⟩ | ⟨h3, h4, rfl⟩ | ⟨h3, h4, rfl⟩⟩
  · obtain ⟨_, rfl, rfl, rfl⟩ | ⟨rfl, _⟩ := hc
    · go_wp2_with fail
      exact bodyPost_ret (v := .tuple #[.agg #[.int .i64 0, .int .i64 0, .string .empty], .int .i64 e]) (by simp [results, Try.results42, go_sem, d0, d1, d2]; rfl) rfl ⟨rfl, below_put3 HB1.out (by omega) _ _ _⟩
    · exact absurd rfl ha
  · obtain ⟨_, rfl, rfl, rfl⟩ | ⟨h0, _⟩ := hc
    · go_wp2_with fail
      exact bodyPost_ret (v := .tuple #[.agg #[.int .i64 0, .int .i64 0, .string .empty], .int .i64 3]) (by simp [results, Try.results42, go_sem, d0, d1, d2]; rfl) rfl ⟨rfl, below_put3 HB1.out (by omega) _ _ _⟩
    · exact absurd h0 (by decide)
  · obtain ⟨_, rfl, rfl, rfl⟩ | ⟨h0, _⟩ := hc
    · go_wp2_with fail
      exact bodyPost_ret (v := .tuple #[.agg #[.int .i64 0, .int .i64 0, .string .empty], .int .i64 70]) (by simp [results, Try.results42, go_sem, d0, d1, d2]; rfl) rfl ⟨rfl, below_put3 HB1.out (by omega) _ _ _⟩
    · exact absurd h0 (by decide)
  · obtain ⟨h0, _⟩ | ⟨_, rfl, rfl, rfl⟩ := hc
    · exact absurd rfl h0
    · go_wp2_with fail
      exact bodyPost_ret (v := .tuple #[.agg #[.int .i64 y, .int .i64 y, .string t], .int .i64 0]) (by simp [results, Try.results42, go_sem, d0, d1, d2]) rfl ⟨rfl, below_put3 HB1.out (by omega) _ _ _⟩
end Go.Proofs.Ytohiemdodffhoaa.VP
