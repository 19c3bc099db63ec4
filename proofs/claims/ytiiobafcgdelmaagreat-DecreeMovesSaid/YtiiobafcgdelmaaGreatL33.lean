/- Contracts of functions of towncrier, layers 5 to 9, and of the document's own ones, part 33; each as its theorem says. -/
import Derived.Test.YtiiobafcgdelmaaGreatL01
import Derived.Test.YtiiobafcgdelmaaGreatL26
import Derived.Test.YtiiobafcgdelmaaGreatProg
import Derived.Lib.Hide
import Derived.Lib.MinMax
import Derived.WalkKit
import Derived.Test.YtiiobafcgdelmaaGreatL05
import Derived.Test.YtiiobafcgdelmaaGreatL15
set_option linter.unusedVariables false
set_option linter.unusedSimpArgs false
namespace Go.Proofs.YtiiobafcgdelmaaGreat
open Go.RowKit
theorem rCheck_any {b r n y : Int} (h : BM.OfIs b r n y) (w : World) : Calls Tryz.prog 86 #[.int .i64 b] w fun e w' => e = .returned (.int .i64 y) ∧ w = w' := by
 rcases h with ⟨h, _, _, rfl⟩ | ⟨h, _, _, rfl⟩
 ·have H := h! h; clear h
  go_enter Tryz.func86, Tryz.ntmps86
  go_wp2_with fail
  refine (rMay_yes _ _ H.out).mono ?_
  rintro e w1 ⟨rfl, rfl⟩
  go_wp2
  go_ret
  exact ⟨rfl, rfl⟩
 ·have H := h! h; clear h
  go_enter Tryz.func86, Tryz.ntmps86
  go_wp2_with fail
  refine (rMay_no _ _ H.out).mono ?_
  rintro e w1 ⟨rfl, rfl⟩
  go_wp2
  go_ret
  exact ⟨rfl, rfl⟩
theorem rNode_yes (n : Int) (w : World) (h0 : 0 ≤ n) (h1 : n < 6) : Calls Tryz.prog 26 #[.int .i64 n] w fun e w' => e = .returned (.bool true) ∧ w = w' := by
 go_enter Tryz.func26, Tryz.ntmps26
 go_wp2
 go_ret
 exact ⟨rfl, rfl⟩
theorem rNode_no (n : Int) (w : World) (h : n < 0 ∨ 6 ≤ n) : Calls Tryz.prog 26 #[.int .i64 n] w fun e w' => e = .returned (.bool false) ∧ w = w' := by
 rcases h with h | h
 all_goals
  go_enter Tryz.func26, Tryz.ntmps26
  go_wp2
  go_ret
  exact ⟨by simp; try omega, rfl⟩
theorem rNext_no (a n : Int) (w : World) (h : ¬ BM.asks a n) : Calls Tryz.prog 55 #[.int .i64 a, .int .i64 n] w fun e w' => e = .returned (.tuple #[.int .i64 0, .int .i64 2]) ∧ w = w' := by
 rcases (show (n < 0 ∨ 6 ≤ n) ∨ (0 ≤ n ∧ n < 6 ∧ (a < 0 ∨ (0 ≤ a ∧ 8388613 < a))) by unfold BM.asks at h; omega) with h1 | ⟨h1, h2, h3⟩
 ·clear h
  have H := h! h1; clear h1
  go_enter Tryz.func55, Tryz.ntmps55
  go_wp2_with fail
  refine (rNode_no _ _ H.out).mono ?_
  rintro e w1 ⟨rfl, rfl⟩
  go_wp2
  go_ret2
  exact ⟨rfl, rfl⟩
 ·clear h
  rcases h3 with h3 | ⟨h3, h4⟩
  all_goals
   go_enter Tryz.func55, Tryz.ntmps55
   go_wp2_with fail
   refine (rNode_yes _ _ h1 h2).mono ?_
   rintro e w1 ⟨rfl, rfl⟩
   go_wp2
   go_ret2
   exact ⟨rfl, rfl⟩
theorem int_1 {a b : Int} (h : a = b) (w : World) : Ending.returned (.tuple #[.int .i64 a, .int .i64 0]) = .returned (.tuple #[.int .i64 b, .int .i64 0]) ∧ w = w := by rw [h]; exact ⟨rfl, rfl⟩
set_option maxHeartbeats 1000000 in
theorem rNext_any {a n x y : Int} (h : BM.NextIs a n x y) (w : World) : Calls Tryz.prog 55 #[.int .i64 a, .int .i64 n] w fun e w' => e = .returned (.tuple #[.int .i64 x, .int .i64 y]) ∧ w = w' := by
 by_cases ha : BM.asks a n
 ·obtain ⟨g0, g1, g2, g3⟩ := id ha
  rcases (show a < 8 ∨ 8 ≤ a by omega) with h8 | h8
  ·have er : BM.rnd a n = 1 := by unfold BM.rnd; rw [if_pos h8]
   obtain ⟨hx, rfl⟩ : 8 + n = x ∧ y = 0 := by
    rcases h with ⟨_, _, h1, h2⟩ | ⟨_, h1, _⟩ | ⟨h1, _⟩
    ·rw [er] at h1; exact ⟨by omega, h2⟩
    ·omega
    ·exact absurd ha h1
   clear h er ha
   have HX := h! hx; clear hx
   have hq : a / 8 = 0 := by omega
   have hp : a % 8 = a := by omega
   rcases (show n ≤ a ∨ a < n by omega) with hn | hn
   all_goals
    go_enter Tryz.func55, Tryz.ntmps55
    go_wp2_with fail
    refine (rNode_yes _ _ g0 g1).mono ?_
    rintro e w1 ⟨rfl, rfl⟩
    go_wp2
    go_ret2
    exact int_1 HX.out w
  ·have hq1 : 1 ≤ a / 8 := by omega
   have hq2 : a / 8 ≤ 1048576 := by omega
   rcases (show n ≤ a % 8 ∨ a % 8 < n by omega) with hn | hn
   ·have hm : max (a / 8 + 1) 1 = a / 8 + 1 := by omega
    have er : BM.rnd a n = a / 8 + 1 := by unfold BM.rnd; rw [if_neg (by omega), if_pos hn]
    rcases (show a / 8 + 1 ≤ 1048576 ∨ 1048576 < a / 8 + 1 by omega) with hz | hz
    ·obtain ⟨hx, rfl⟩ : (a / 8 + 1) * 8 + n = x ∧ y = 0 := by
      rcases h with ⟨_, _, h1, h2⟩ | ⟨_, h1, _⟩ | ⟨h1, _⟩
      ·rw [er] at h1; exact ⟨h1.symm, h2⟩
      ·rw [er] at h1; omega
      ·exact absurd ha h1
     clear h er ha
     have HX := h! hx; clear hx
     go_enter Tryz.func55, Tryz.ntmps55
     go_wp2_with fail
     refine (rNode_yes _ _ g0 g1).mono ?_
     rintro e w1 ⟨rfl, rfl⟩
     go_wp2
     go_ret2
     exact int_1 HX.out w
    ·obtain ⟨rfl, rfl⟩ : x = 0 ∧ y = 9 := by
      rcases h with ⟨_, h1, _⟩ | ⟨_, _, h1⟩ | ⟨h1, _⟩
      ·rw [er] at h1; omega
      ·exact h1
      ·exact absurd ha h1
     clear h er ha
     go_enter Tryz.func55, Tryz.ntmps55
     go_wp2_with fail
     refine (rNode_yes _ _ g0 g1).mono ?_
     rintro e w1 ⟨rfl, rfl⟩
     go_wp2
     go_ret2
     exact ⟨rfl, rfl⟩
   ·have hm : max (a / 8) 1 = a / 8 := by omega
    have er : BM.rnd a n = a / 8 := by unfold BM.rnd; rw [if_neg (by omega), if_neg (by omega)]
    obtain ⟨hx, rfl⟩ : a / 8 * 8 + n = x ∧ y = 0 := by
     rcases h with ⟨_, _, h1, h2⟩ | ⟨_, h1, _⟩ | ⟨h1, _⟩
     ·rw [er] at h1; exact ⟨h1.symm, h2⟩
     ·rw [er] at h1; omega
     ·exact absurd ha h1
    clear h er ha
    have HX := h! hx; clear hx
    go_enter Tryz.func55, Tryz.ntmps55
    go_wp2_with fail
    refine (rNode_yes _ _ g0 g1).mono ?_
    rintro e w1 ⟨rfl, rfl⟩
    go_wp2
    go_ret2
    exact int_1 HX.out w
 ·obtain ⟨rfl, rfl⟩ : x = 0 ∧ y = 2 := by
   rcases h with ⟨h, _⟩ | ⟨h, _⟩ | ⟨_, h⟩
   ·exact absurd h ha
   ·exact absurd h ha
   ·exact h
  exact rNext_no a n w ha
instance (m : DC.Ml) : Decidable (DC.MayM m) := by unfold DC.MayM; infer_instance
theorem mayM_parts (m : DC.Ml) : DC.MayM m ↔ (m.g = 0 ∧ m.s = 0 ∧ m.i = 0 ∧ m.m = 0) ∧ DC.isNode m.f ∧ DC.isNode m.t ∧ 1 ≤ m.k ∧ m.k ≤ 5 ∧ BM.good m.b ∧ 0 ≤ m.p ∧ m.v.size ≤ 1024 := by
 unfold DC.MayM DC.mk
 constructor
 ·rintro ⟨h, hr⟩
  obtain ⟨f, t, k, g, s, b, p, v, i, mm⟩ := m
  simp only [DC.Ml.mk.injEq, true_and] at h
  exact ⟨⟨h.1, h.2.1, h.2.2.1, h.2.2.2⟩, hr⟩
 ·rintro ⟨⟨h1, h2, h3, h4⟩, hr⟩
  refine ⟨?_, hr⟩
  obtain ⟨f, t, k, g, s, b, p, v, i, mm⟩ := m
  simp only at h1 h2 h3 h4
  subst h1 h2 h3 h4
  rfl
set_option maxRecDepth 100000 in
set_option maxHeartbeats 2000000 in
theorem mayMail_any (m : DC.Ml) (w : World) (hk : 0 ≤ m.k ∧ m.k ≤ 255) (hv : m.v.size ≤ maxLen) :
  Calls Tryz.prog 43 #[.agg #[.int .i64 m.f, .int .i64 m.t, .int .u8 m.k, .int .i64 m.g, .int .i64 m.s, .int .i64 m.b, .int .i64 m.p, .string m.v, .int .i64 m.i, .int .i64 m.m]] w (BoolIs (decide (DC.MayM m)) w) := by
 have hb0 : ∀ o1 o2 : Obj, Below w.heap.size w ((w.alloc o1).alloc o2) := fun o1 o2 => ((Below.refl _ _).alloc n! _).alloc (by simp) _
 have HB := h! hb0
 have hiff := mayM_parts m
 have HI := h! hiff
 have hv63 : m.v.size ≤ 9223372036854775807 := by unfold maxLen at hv; omega
 obtain ⟨f, t, k, g, s, b, p, v, i, mm⟩ := m
 simp only at hk hv hv63 HI ⊢
 have hno : ¬ ((g = 0 ∧ s = 0 ∧ i = 0 ∧ mm = 0) ∧ DC.isNode f ∧ DC.isNode t ∧ 1 ≤ k ∧ k ≤ 5 ∧ BM.good b ∧ 0 ≤ p ∧ v.size ≤ 1024) → decide (DC.MayM ⟨f, t, k, g, s, b, p, v, i, mm⟩) = false := fun h => by simpa using fun hm => h (HI.out.1 hm)
 have hyes : ((g = 0 ∧ s = 0 ∧ i = 0 ∧ mm = 0) ∧ DC.isNode f ∧ DC.isNode t ∧ 1 ≤ k ∧ k ≤ 5 ∧ BM.good b ∧ 0 ≤ p ∧ v.size ≤ 1024) → decide (DC.MayM ⟨f, t, k, g, s, b, p, v, i, mm⟩) = true := fun h => by simpa using HI.out.2 h
 have HNO := h! hno
 have HYES := h! hyes
 clear hno hyes hiff HI hb0
 generalize decide (DC.MayM ⟨f, t, k, g, s, b, p, v, i, mm⟩) = r at HNO HYES ⊢
 by_cases hz : g = 0 ∧ s = 0 ∧ i = 0 ∧ mm = 0
 rotate_left
 ·have HF := h! (HNO.out (fun h => hz h.1))
  clear HNO HYES
  go_enter Tryz.func43, Tryz.ntmps43
  go_wp2_with fail
  all_goals first
   | exact absurd ⟨by assumption, by assumption, by assumption, by assumption⟩ hz
   | (go_ret; exact bool_ret HF.out.symm (HB.out _ _))
 obtain ⟨rfl, rfl, rfl, rfl⟩ := hz
 by_cases h1 : DC.isNode f
 rotate_left
 ·have HF := h! (HNO.out (fun h => h1 (h.2.1)))
  have HC := h! (fun W => rNode_no f W (by unfold DC.isNode at h1; omega))
  clear HNO HYES h1
  go_enter Tryz.func43, Tryz.ntmps43
  go_wp2_with fail
  refine (HC.out _).mono ?_
  rintro e w1 ⟨rfl, rfl⟩
  go_wp2_with fail
  go_ret
  exact bool_ret HF.out.symm (HB.out _ _)
 have HC := h! (fun W => rNode_yes f W h1.1 h1.2)
 by_cases h2 : DC.isNode t
 rotate_left
 ·have HF := h! (HNO.out (fun h => h2 (h.2.2.1)))
  have HT := h! (fun W => rNode_no t W (by unfold DC.isNode at h2; omega))
  clear HNO HYES h1 h2
  go_enter Tryz.func43, Tryz.ntmps43
  go_wp2_with fail
  refine (HC.out _).mono ?_
  rintro e w1 ⟨rfl, rfl⟩
  go_wp2_with fail
  refine (HT.out _).mono ?_
  rintro e w2 ⟨rfl, rfl⟩
  go_wp2_with fail
  go_ret
  exact bool_ret HF.out.symm (HB.out _ _)
 have HT := h! (fun W => rNode_yes t W h2.1 h2.2)
 by_cases h3 : 1 ≤ k
 rotate_left
 ·have HF := h! (HNO.out (fun h => h3 (h.2.2.2.1)))
  have hk1 : k < 1 := by omega
  clear HNO HYES h1 h2
  go_enter Tryz.func43, Tryz.ntmps43
  go_wp2_with fail
  refine (HC.out _).mono ?_
  rintro e w1 ⟨rfl, rfl⟩
  go_wp2_with fail
  refine (HT.out _).mono ?_
  rintro e w2 ⟨rfl, rfl⟩
  go_wp2_with fail
  go_ret
  exact bool_ret HF.out.symm (HB.out _ _)
 by_cases h4 : k ≤ 5
 rotate_left
 ·have HF := h! (HNO.out (fun h => h4 (h.2.2.2.2.1)))
  have hk5 : 5 < k := by omega
  clear HNO HYES h1 h2
  go_enter Tryz.func43, Tryz.ntmps43
  go_wp2_with fail
  refine (HC.out _).mono ?_
  rintro e w1 ⟨rfl, rfl⟩
  go_wp2_with fail
  refine (HT.out _).mono ?_
  rintro e w2 ⟨rfl, rfl⟩
  go_wp2_with fail
  go_ret
  exact bool_ret HF.out.symm (HB.out _ _)
 by_cases h5 : BM.good b
 rotate_left
 ·have HF := h! (HNO.out (fun h => h5 (h.2.2.2.2.2.1)))
  have HG := h! (fun W => rMay_no b W h5)
  clear HNO HYES h1 h2 h5
  go_enter Tryz.func43, Tryz.ntmps43
  go_wp2_with fail
  refine (HC.out _).mono ?_
  rintro e w1 ⟨rfl, rfl⟩
  go_wp2_with fail
  refine (HT.out _).mono ?_
  rintro e w2 ⟨rfl, rfl⟩
  go_wp2_with fail
  refine (HG.out _).mono ?_
  rintro e w3 ⟨rfl, rfl⟩
  go_wp2_with fail
  go_ret
  exact bool_ret HF.out.symm (HB.out _ _)
 have HG := h! (fun W => rMay_yes b W h5)
 by_cases h6 : 0 ≤ p
 rotate_left
 ·have HF := h! (HNO.out (fun h => h6 (h.2.2.2.2.2.2.1)))
  have hp0 : p < 0 := by omega
  clear HNO HYES h1 h2 h5
  go_enter Tryz.func43, Tryz.ntmps43
  go_wp2_with fail
  refine (HC.out _).mono ?_
  rintro e w1 ⟨rfl, rfl⟩
  go_wp2_with fail
  refine (HT.out _).mono ?_
  rintro e w2 ⟨rfl, rfl⟩
  go_wp2_with fail
  refine (HG.out _).mono ?_
  rintro e w3 ⟨rfl, rfl⟩
  go_wp2_with fail
  go_ret
  exact bool_ret HF.out.symm (HB.out _ _)
 by_cases h7 : v.size ≤ 1024
 rotate_left
 ·have HF := h! (HNO.out (fun h => h7 (h.2.2.2.2.2.2.2)))
  have hv1 : 1024 < v.size := by omega
  clear HNO HYES h1 h2 h5
  go_enter Tryz.func43, Tryz.ntmps43
  go_wp2_with fail
  refine (HC.out _).mono ?_
  rintro e w1 ⟨rfl, rfl⟩
  go_wp2_with fail
  refine (HT.out _).mono ?_
  rintro e w2 ⟨rfl, rfl⟩
  go_wp2_with fail
  refine (HG.out _).mono ?_
  rintro e w3 ⟨rfl, rfl⟩
  go_wp2_with fail
  go_ret
  exact bool_ret (by rw [HF.out]; simp; omega) (HB.out _ _)
 have HF := h! (HYES.out ⟨⟨rfl, rfl, rfl, rfl⟩, h1, h2, h3, h4, h5, h6, h7⟩)
 clear HNO HYES h1 h2 h5
 go_enter Tryz.func43, Tryz.ntmps43
 go_wp2_with fail
 refine (HC.out _).mono ?_
 rintro e w1 ⟨rfl, rfl⟩
 go_wp2_with fail
 refine (HT.out _).mono ?_
 rintro e w2 ⟨rfl, rfl⟩
 go_wp2_with fail
 refine (HG.out _).mono ?_
 rintro e w3 ⟨rfl, rfl⟩
 go_wp2_with fail
 go_ret
 exact bool_ret (by rw [HF.out]; simp; omega) (HB.out _ _)
end Go.Proofs.YtiiobafcgdelmaaGreat
namespace Go.Proofs.YtiiobafcgdelmaaGreat.VP
open Go.RowKit
set_option maxRecDepth 100000 in
set_option maxHeartbeats 1000000 in
theorem rVMay_any (p b : Int) (s : ByteArray) (w : World) (hs : s.size ≤ maxLen) :
  Calls Tryz.prog 41 #[.agg #[.int .i64 p, .int .i64 b, .string s]] w (BoolIs (VM.may p b s) w) := by
 unfold maxLen at hs
 have hb0 : Below w.heap.size w (w.alloc (.cells #[.int .i64 p, .int .i64 b, .string s] 59)) := b!
 have HB0 := h! hb0; clear hb0
 by_cases hP : VM.okP p
 ·rcases (show p = 0 ∨ (p ≠ 0 ∧ BM.good p) by unfold VM.okP at hP; by_cases h : p = 0; exact .inl h; exact .inr ⟨h, hP.resolve_left h⟩) with hz | ⟨hz, hg⟩
  ·subst hz
   by_cases hb : b = 0
   ·subst hb
    go_enter Tryz.func41, Tryz.ntmps41
    go_wp2_with fail
    go_ret
    refine bool_ret (x := s.toList.isEmpty) ?_ HB0.out rfl
    rw [str_none]
    exact ⟨fun h => ⟨hP, .inl ⟨rfl, h⟩⟩, fun h => h.2.elim (fun h => h.2) (fun h => absurd rfl h.1)⟩
   ·have hz' : (b == 0) = false := by simpa using hb
    by_cases hg : BM.good b
    ·have hp : ¬ b ≤ 0 := by have := hg.1; omega
     go_enter Tryz.func41, Tryz.ntmps41
     go_wp2_with fail
     refine (rMay_yes _ _ hg).mono ?_
     rintro e w1 ⟨rfl, rfl⟩
     go_wp2_with fail
     go_ret
     refine bool_ret (x := false) ?_ HB0.out rfl
     exact ⟨fun h => (by cases h), fun h => h.2.elim (fun h => absurd h.1 hb) (fun h => by have := h.2.2.1; omega)⟩
    ·have HG := h! hg; clear hg
     go_enter Tryz.func41, Tryz.ntmps41
     go_wp2_with fail
     refine (rMay_no _ _ HG.out).mono ?_
     rintro e w1 ⟨rfl, rfl⟩
     go_wp2_with fail
     go_ret
     refine bool_ret (x := false) ?_ HB0.out rfl
     exact ⟨fun h => (by cases h), fun h => h.2.elim (fun h => absurd h.1 hb) (fun h => absurd h.2.1 HG.out)⟩
  ·have hzp : (p == 0) = false := by simpa using hz
   have hzn : (p != 0) = true := by simpa using hz
   have HG0 := h! hg; clear hg
   by_cases hb : b = 0
   ·subst hb
    go_enter Tryz.func41, Tryz.ntmps41
    go_wp2_with fail
    refine (rMay_yes _ _ HG0.out).mono ?_
    rintro e w1 ⟨rfl, rfl⟩
    go_wp2_with fail
    go_ret
    refine bool_ret (x := s.toList.isEmpty) ?_ HB0.out rfl
    rw [str_none]
    exact ⟨fun h => ⟨hP, .inl ⟨rfl, h⟩⟩, fun h => h.2.elim (fun h => h.2) (fun h => absurd rfl h.1)⟩
   ·have hz' : (b == 0) = false := by simpa using hb
    by_cases hg : BM.good b
    ·have HG := h! hg; clear hg
     rcases (show b ≤ p ∨ p < b by omega) with hp | hp
     ·go_enter Tryz.func41, Tryz.ntmps41
      go_wp2_with fail
      refine (rMay_yes _ _ HG0.out).mono ?_
      rintro e w1 ⟨rfl, rfl⟩
      go_wp2_with fail
      refine (rMay_yes _ _ HG.out).mono ?_
      rintro e w1 ⟨rfl, rfl⟩
      go_wp2_with fail
      go_ret
      refine bool_ret (x := decide ((s.size : Int) ≤ 1024)) ?_ HB0.out rfl
      rw [decide_eq_true_iff]
      exact ⟨fun h => ⟨hP, .inr ⟨hb, HG.out, hp, by omega⟩⟩, fun h => h.2.elim (fun h => absurd h.1 hb) (fun h => by have := h.2.2.2; omega)⟩
     ·go_enter Tryz.func41, Tryz.ntmps41
      go_wp2_with fail
      refine (rMay_yes _ _ HG0.out).mono ?_
      rintro e w1 ⟨rfl, rfl⟩
      go_wp2_with fail
      refine (rMay_yes _ _ HG.out).mono ?_
      rintro e w1 ⟨rfl, rfl⟩
      go_wp2_with fail
      go_ret
      refine bool_ret (x := false) ?_ HB0.out rfl
      exact ⟨fun h => (by cases h), fun h => h.2.elim (fun h => absurd h.1 hb) (fun h => by have := h.2.2.1; omega)⟩
    ·have HG := h! hg; clear hg
     go_enter Tryz.func41, Tryz.ntmps41
     go_wp2_with fail
     refine (rMay_yes _ _ HG0.out).mono ?_
     rintro e w1 ⟨rfl, rfl⟩
     go_wp2_with fail
     refine (rMay_no _ _ HG.out).mono ?_
     rintro e w1 ⟨rfl, rfl⟩
     go_wp2_with fail
     go_ret
     refine bool_ret (x := false) ?_ HB0.out rfl
     exact ⟨fun h => (by cases h), fun h => h.2.elim (fun h => absurd h.1 hb) (fun h => absurd h.2.1 HG.out)⟩
 ·have hz : p ≠ 0 := fun h => hP (.inl h)
  have HG := h! (show ¬ BM.good p from fun h => hP (.inr h))
  have hzp : (p == 0) = false := by simpa using hz
  have hzn : (p != 0) = true := by simpa using hz
  go_enter Tryz.func41, Tryz.ntmps41
  go_wp2_with fail
  refine (rMay_no _ _ HG.out).mono ?_
  rintro e w1 ⟨rfl, rfl⟩
  go_wp2_with fail
  go_ret
  refine bool_ret (x := false) ?_ HB0.out rfl
  exact ⟨fun h => (by cases h), fun h => absurd h.1 hP⟩
def AskIs (p b : Int) (s : ByteArray) (k e : Int) : Prop := (¬ VM.may p b s ∧ e = 8) ∨ (VM.may p b s ∧ ¬ BM.good k ∧ e = 50) ∨ (VM.may p b s ∧ BM.good k ∧ e = 0)
set_option maxRecDepth 100000 in
set_option maxHeartbeats 1000000 in
theorem asked_any {p b : Int} {s : ByteArray} {k e : Int} (w : World) (hs : s.size ≤ maxLen) (h : AskIs p b s k e) :
  Calls Tryz.prog 85 #[.agg #[.int .i64 p, .int .i64 b, .string s], .int .i64 k] w (IntIs e w) := by
 have hb0 : Below w.heap.size w (w.alloc (.cells #[.int .i64 p, .int .i64 b, .string s] 59)) := b!
 have HB0 := h! hb0; clear hb0
 have HC := h! h; clear h
 go_enter Tryz.func85, Tryz.ntmps85
 go_wp2_with fail
 refine (rVMay_any p b s _ hs).mono ?_
 rintro e w1 ⟨x, hx, rfl, hb1⟩
 have HB1 := h! (bmore HB0.out hb1 (by simp)); clear hb1 HB0 hs
 have HX := h! hx; clear hx
 rcases HC.out with ⟨h, rfl⟩ | ⟨h, h2, rfl⟩ | ⟨h, h2, rfl⟩
 ·obtain rfl : x = false := by cases x; rfl; exact absurd (HX.out.1 rfl) h
  clear h HX HC
  go_wp2_with fail
  go_ret
  exact ⟨rfl, HB1.out⟩
 ·obtain rfl : x = true := HX.out.2 h
  have H2 := h! h2
  clear h h2 HX HC
  go_wp2_with fail
  refine (rMay_no _ _ H2.out).mono ?_
  rintro e w2 ⟨rfl, rfl⟩
  go_wp2_with fail
  go_ret
  exact ⟨rfl, HB1.out⟩
 ·obtain rfl : x = true := HX.out.2 h
  have H2 := h! h2
  clear h h2 HX HC
  go_wp2_with fail
  refine (rMay_yes _ _ H2.out).mono ?_
  rintro e w2 ⟨rfl, rfl⟩
  go_wp2_with fail
  go_ret
  exact ⟨rfl, HB1.out⟩
theorem ask_of {p b : Int} {s : ByteArray} {k : Int} {v : ByteArray} {e : Int} (h : VM.WrongIs p b s k v e) :
  ∃ a, AskIs p b s k a ∧ ((a ≠ 0 ∧ e = a) ∨ (a = 0 ∧ ((1024 < v.size ∧ e = 3) ∨ (v.size ≤ 1024 ∧ k < p ∧ e = 70) ∨ (v.size ≤ 1024 ∧ p ≤ k ∧ e = 0)))) := by
 rcases h with ⟨h, rfl⟩ | ⟨h, h2, rfl⟩ | ⟨h, h2, h3, rfl⟩ | ⟨h, h2, h3, h4, rfl⟩ | ⟨h, h2, h3, h4, rfl⟩
 ·exact ⟨_, .inl ⟨h, rfl⟩, .inl ⟨by decide, rfl⟩⟩
 ·exact ⟨_, .inr (.inl ⟨h, h2, rfl⟩), .inl ⟨by decide, rfl⟩⟩
 ·exact ⟨_, .inr (.inr ⟨h, h2, rfl⟩), .inr ⟨rfl, .inl ⟨h3, rfl⟩⟩⟩
 ·exact ⟨_, .inr (.inr ⟨h, h2, rfl⟩), .inr ⟨rfl, .inr (.inl ⟨h3, h4, rfl⟩)⟩⟩
 ·exact ⟨_, .inr (.inr ⟨h, h2, rfl⟩), .inr ⟨rfl, .inr (.inr ⟨h3, h4, rfl⟩)⟩⟩
set_option maxRecDepth 100000 in
set_option maxHeartbeats 1000000 in
theorem rPrep_any {p b : Int} {s : ByteArray} {k x y : Int} {t : ByteArray} {e : Int} (w : World) (hs : s.size ≤ maxLen) (h : VM.PrepIs p b s k x y t e) :
  Calls Tryz.prog 56 #[.agg #[.int .i64 p, .int .i64 b, .string s], .int .i64 k] w (VoteAns x y t e w) := by
 have hb0 : Below w.heap.size w ((w.alloc (.cells #[.int .i64 p, .int .i64 b, .string s] 59)).alloc (.cells #[.int .i64 0, .int .i64 0, .string .empty] 59)) := ((Below.refl _ _).alloc n! _).alloc (by simp) _
 have HB0 := h! hb0; clear hb0
 obtain ⟨hw, hc⟩ := h
 obtain ⟨a, ha, hae⟩ := ask_of hw
 have HA := h! ha; clear ha hw
 go_enter Tryz.func56, Tryz.ntmps56
 go_wp2_with fail
 refine (asked_any _ hs HA.out).mono ?_
 rintro _ w1 ⟨rfl, hb1⟩
 obtain ⟨c0, c1, c2, e0, e1, e2, d0, d1, d2, f0, f1, f2⟩ := vote_cells2 hb1
 have HB1 := h! (bmore HB0.out hb1 (by simp)); clear hb1 HB0 hs HA
 rcases hae with ⟨ha, rfl⟩ | ⟨rfl, ⟨h3, rfl⟩ | ⟨_, h4, rfl⟩ | ⟨_, h4, rfl⟩⟩
 ·obtain ⟨_, rfl, rfl, rfl⟩ | ⟨rfl, _⟩ := hc
  ·go_wp2_with fail
   exact bodyPost_ret (v := .tuple #[.agg #[.int .i64 0, .int .i64 0, .string .empty], .int .i64 e]) (by simp [results, Tryz.results56, go_sem, d0, d1, d2]; rfl) rfl ⟨rfl, below_put3 HB1.out (by omega) _ _ _⟩
  ·exact absurd rfl ha
 ·exact absurd h3 (by decide)
 ·obtain ⟨_, rfl, rfl, rfl⟩ | ⟨h0, _⟩ := hc
  ·go_wp2_with fail
   exact bodyPost_ret (v := .tuple #[.agg #[.int .i64 0, .int .i64 0, .string .empty], .int .i64 70]) (by simp [results, Tryz.results56, go_sem, d0, d1, d2]; rfl) rfl ⟨rfl, below_put3 HB1.out (by omega) _ _ _⟩
  ·exact absurd h0 (by decide)
 ·obtain ⟨h0, _⟩ | ⟨_, rfl, rfl, rfl⟩ := hc
  ·exact absurd rfl h0
  ·go_wp2_with fail
   exact bodyPost_ret (v := .tuple #[.agg #[.int .i64 x, .int .i64 y, .string t], .int .i64 0]) (by simp [results, Tryz.results56, go_sem, d0, d1, d2]) rfl ⟨rfl, below_put3 (below_put1 HB1.out (by omega) _) (by omega) _ _ _⟩
set_option maxRecDepth 100000 in
set_option maxHeartbeats 1000000 in
theorem rAcc_any {p b : Int} {s : ByteArray} {k : Int} {v : ByteArray} {x y : Int} {t : ByteArray} {e : Int} (w : World) (hs : s.size ≤ maxLen) (hv : v.size ≤ maxLen) (h : VM.AccIs p b s k v x y t e) :
  Calls Tryz.prog 60 #[.agg #[.int .i64 p, .int .i64 b, .string s], .int .i64 k, .string v] w (VoteAns x y t e w) := by
 have hb0 : Below w.heap.size w ((w.alloc (.cells #[.int .i64 p, .int .i64 b, .string s] 59)).alloc (.cells #[.int .i64 0, .int .i64 0, .string .empty] 59)) := ((Below.refl _ _).alloc n! _).alloc (by simp) _
 have HB0 := h! hb0; clear hb0
 have hv' : v.size ≤ 9223372036854775807 := by unfold maxLen at hv; omega
 clear hv
 obtain ⟨hw, hc⟩ := h
 obtain ⟨a, ha, hae⟩ := ask_of hw
 have HA := h! ha; clear ha hw
 go_enter Tryz.func60, Tryz.ntmps60
 go_wp2_with fail
 refine (asked_any _ hs HA.out).mono ?_
 rintro _ w1 ⟨rfl, hb1⟩
 obtain ⟨c0, c1, c2, e0, e1, e2, d0, d1, d2, f0, f1, f2⟩ := vote_cells2 hb1
 have HB1 := h! (bmore HB0.out hb1 (by simp)); clear hb1 HB0 hs HA
 rcases hae with ⟨ha, rfl⟩ | ⟨rfl, ⟨h3, rfl⟩ | ⟨h3, h4, rfl⟩ | ⟨h3, h4, rfl⟩⟩
 ·obtain ⟨_, rfl, rfl, rfl⟩ | ⟨rfl, _⟩ := hc
  ·go_wp2_with fail
   exact bodyPost_ret (v := .tuple #[.agg #[.int .i64 0, .int .i64 0, .string .empty], .int .i64 e]) (by simp [results, Tryz.results60, go_sem, d0, d1, d2]; rfl) rfl ⟨rfl, below_put3 HB1.out (by omega) _ _ _⟩
  ·exact absurd rfl ha
 ·obtain ⟨_, rfl, rfl, rfl⟩ | ⟨h0, _⟩ := hc
  ·go_wp2_with fail
   exact bodyPost_ret (v := .tuple #[.agg #[.int .i64 0, .int .i64 0, .string .empty], .int .i64 3]) (by simp [results, Tryz.results60, go_sem, d0, d1, d2]; rfl) rfl ⟨rfl, below_put3 HB1.out (by omega) _ _ _⟩
  ·exact absurd h0 (by decide)
 ·obtain ⟨_, rfl, rfl, rfl⟩ | ⟨h0, _⟩ := hc
  ·go_wp2_with fail
   exact bodyPost_ret (v := .tuple #[.agg #[.int .i64 0, .int .i64 0, .string .empty], .int .i64 70]) (by simp [results, Tryz.results60, go_sem, d0, d1, d2]; rfl) rfl ⟨rfl, below_put3 HB1.out (by omega) _ _ _⟩
  ·exact absurd h0 (by decide)
 ·obtain ⟨h0, _⟩ | ⟨_, rfl, rfl, rfl⟩ := hc
  ·exact absurd rfl h0
  ·go_wp2_with fail
   exact bodyPost_ret (v := .tuple #[.agg #[.int .i64 y, .int .i64 y, .string t], .int .i64 0]) (by simp [results, Tryz.results60, go_sem, d0, d1, d2]) rfl ⟨rfl, below_put3 HB1.out (by omega) _ _ _⟩
end Go.Proofs.YtiiobafcgdelmaaGreat.VP
