/- Contracts of functions of towncrier, layers 5 to 9, and of the document's own ones, part 22; each as its theorem says. -/
import Derived.Test.YtiiobafcgdelmaaGreatL01
import Derived.Test.YtiiobafcgdelmaaGreatL21
import Derived.Test.YtiiobafcgdelmaaGreatL04
set_option linter.unusedVariables false
set_option linter.unusedSimpArgs false
namespace Go.Proofs.YtiiobafcgdelmaaGreat.PD
open Go.RowKit Go.Shelf
theorem all_okN {w : DC.Wd} (hv : w.vs.length = 6) (ht : w.ts.length = 6) : (List.range' 0 6).all (okN w) = true ↔ (∀ v ∈ w.vs, VM.may v.p v.b v.v) ∧ (∀ (i : Nat) t, w.ts[i]? = some t → DC.MayT w.ms i t) := by
 have hV : ∀ k : Nat, k < 6 → w.vs[k]? = some (DC.getV w (k : Int)) := fun k hk => by have := DC.getV_at (n := (k : Int)) hv (by unfold DC.isNode; omega); rwa [Int.toNat_natCast] at this
 have hT : ∀ k : Nat, k < 6 → w.ts[k]? = some (DC.getT w (k : Int)) := fun k hk => by have := DC.getT_at (n := (k : Int)) ht (by unfold DC.isNode; omega); rwa [Int.toNat_natCast] at this
 rw [List.all_eq_true]
 constructor
 ·intro h
  refine ⟨fun v hm => ?_, fun i t hi => ?_⟩
  ·obtain ⟨k, hk⟩ := List.getElem?_of_mem hm
   have hk6 : k < 6 := by rw [← hv]; exact (List.getElem?_eq_some_iff.1 hk).1
   have := h k (by rw [List.mem_range'_1]; omega)
   rw [hV k hk6] at hk
   injection hk with hk
   unfold okN at this
   rw [hk] at this
   simp only [Bool.and_eq_true, decide_eq_true_eq] at this
   exact this.1
  ·have hk6 : i < 6 := by rw [← ht]; exact (List.getElem?_eq_some_iff.1 hi).1
   have := h i (by rw [List.mem_range'_1]; omega)
   rw [hT i hk6] at hi
   injection hi with hi
   unfold okN at this
   rw [hi] at this
   simp only [Bool.and_eq_true, decide_eq_true_eq] at this
   exact this.2
 ·rintro ⟨h1, h2⟩ k hk
  rw [List.mem_range'_1] at hk
  have hk6 : k < 6 := by omega
  unfold okN
  simp only [Bool.and_eq_true, decide_eq_true_eq]
  exact ⟨h1 _ (List.mem_of_getElem? (hV k hk6)), h2 k _ (hT k hk6)⟩
set_option maxHeartbeats 1000000 in
theorem areNodes_no (A0 A1 A2 A3 A4 : Option Addr) (n0 n1 n2 n3 c0 c1 c2 c3 n4 c4 : Nat) (W : World) (h1 : n1 ≤ 2000) (h2 : n2 ≤ 2000) (h : n1 ≠ 6 ∨ n2 ≠ 6) :
  Calls Tryz.prog 37 #[.agg #[.slice A0 n0 c0, .slice A1 n1 c1, .slice A2 n2 c2, .slice A3 n3 c3, .slice A4 n4 c4]] W (BoolIs false W) := by
 have HB := h! (show Below W.heap.size W (W.alloc (.cells #[.slice A0 n0 c0, .slice A1 n1 c1, .slice A2 n2 c2, .slice A3 n3 c3, .slice A4 n4 c4] 28)) from (Below.refl _ _).alloc n! _)
 by_cases h6 : n1 = 6
 ·have h7 : ((n2 : Int) != 6) = true := by rcases h with h | h; (· exact absurd h6 h); (· simp; omega)
  subst h6
  clear h
  go_enter Tryz.func37, Tryz.ntmps37
  go_wp2_with fail
  go_ret
  exact ⟨rfl, HB.out⟩
 ·have h7 : ((n1 : Int) != 6) = true := by simp; omega
  clear h h6
  go_enter Tryz.func37, Tryz.ntmps37
  go_wp2_with fail
  go_ret
  exact ⟨rfl, HB.out⟩
theorem may_iff (w : DC.Wd) : DC.May w ↔ QM.may w.ms = true ∧ (w.ml.length ≤ 1000 ∧ w.ch.length ≤ 1000) ∧ (w.vs.length = 6 ∧ w.ts.length = 6 ∧ (List.range' 0 6).all (okN w) = true) ∧ w.ml.all (fun m => decide (DC.MayM m)) = true ∧ w.ch.all (fun m => decide (DC.MayC m)) = true := by
 constructor
 ·intro h
  exact ⟨h.ms, ⟨h.ml, h.cl⟩, ⟨h.vl, h.tl, (all_okN h.vl h.tl).2 ⟨h.vs, h.ts⟩⟩, by simpa using h.mm, by simpa using h.cc⟩
 ·rintro ⟨h1, ⟨h2, h3⟩, ⟨h4, h5, h6⟩, h7, h8⟩
  obtain ⟨h9, h10⟩ := (all_okN h4 h5).1 h6
  exact ⟨h1, h4, h5, h2, h3, h9, h10, by simpa using h7, by simpa using h8⟩
set_option maxRecDepth 100000 in
set_option maxHeartbeats 4000000 in
theorem wcheck_any (v : Value) (w : DC.Wd) (y : Int) (W : World) (H : WIs W v w) (F : WFit w) (hy : (DC.May w ∧ y = 0) ∨ (¬ DC.May w ∧ y = 8)) :
  Calls Tryz.prog 11 #[v] W (IntIs y W) := by
 obtain ⟨A0, c0, A1, c1, A2, c2, A3, c3, A4, c4, xs, rfl, R⟩ := H
 obtain ⟨f0, f1, f2, f3, f4, fv, ft, fm, fc⟩ := F
 rw [may_iff] at hy
 obtain ⟨y0, hy0⟩ := QM.chkIs_ex w.ms
 have HQ := h! (fun (U : World) (hU : Below W.heap.size W U) => qcheck_any A0 w.ms.length c0 w.ms y0 U (R.h0.below hU) (by omega) hy0)
 have HR := h! (fun (U : World) => hasRoom_any A0 A1 A2 A3 A4 w.ms.length c0 w.vs.length c1 w.ts.length c2 w.ml.length c3 w.ch.length c4 U f3 f4)
 have HNO := h! (fun (U : World) => areNodes_no A0 A1 A2 A3 A4 w.ms.length w.vs.length w.ts.length w.ml.length c0 c1 c2 c3 w.ch.length c4 U f1 f2)
 have HN := h! (fun (U : World) (hU : Below W.heap.size W U) (hv : w.vs.length = 6) (ht : w.ts.length = 6) => areNodes_any A0 A1 A2 A3 A4 w.ml.length c0 c1 c2 c3 w.ch.length c4 xs w U (R.h0.below hU) (R.h1.below hU) (R.h2.below hU) (R.ht.below hU) f0 hv ht fv ft)
 have HM := h! (fun (U : World) (hU : Below W.heap.size W U) => isAllMail_any A3 w.ml.length c3 w.ml U (R.h3.below hU) rfl f3 fm)
 have HC := h! (fun (U : World) (hU : Below W.heap.size W U) => areChoices_any A4 w.ch.length c4 w.ch U (R.h4.below hU) rfl f4 fc)
 have hq := QM.chkIs_cases hy0
 obtain ⟨n1, hn1⟩ : ∃ n, n = w.vs.length := ⟨_, rfl⟩
 obtain ⟨n2, hn2⟩ : ∃ n, n = w.ts.length := ⟨_, rfl⟩
 rw [← hn1, ← hn2] at HR HNO HN hy ⊢
 generalize w.ms.length = n0 at HQ HR HNO HN ⊢
 generalize w.ml.length = n3 at HR HNO HN HM hy ⊢
 generalize w.ch.length = n4 at HR HNO HN HC hy ⊢
 generalize (List.range' 0 6).all (okN w) = z2 at HN hy
 generalize w.ml.all (fun m => decide (DC.MayM m)) = z3 at HM hy
 generalize w.ch.all (fun m => decide (DC.MayC m)) = z4 at HC hy
 obtain ⟨W0, hW0⟩ : ∃ W0, W0 = W.alloc (.cells #[.slice A0 n0 c0, .slice A1 n1 c1, .slice A2 n2 c2, .slice A3 n3 c3, .slice A4 n4 c4] 28) := ⟨_, rfl⟩
 have HB0 := h! (show Below W.heap.size W W0 by rw [hW0]; exact (Below.refl _ _).alloc n! _)
 have HX0 := h! (show Box W0 W.heap.size 28 #[.slice A0 n0 c0, .slice A1 n1 c1, .slice A2 n2 c2, .slice A3 n3 c3, .slice A4 n4 c4] by rw [hW0]; exact Box.new _ _ _)
 clear R fv ft fm fc f0 f1 f2 f3 f4 hn1 hn2 hy0
 rcases hq with ⟨rfl, h0⟩ | ⟨h0, hq⟩
 rotate_left
 ·obtain rfl : y = 8 := by
   rcases hy with ⟨h, _⟩ | ⟨_, h⟩
   ·rw [h0] at h; exact absurd h.1 (by decide)
   ·exact h
  have e0 : (y0 != 0) = true := by rcases hq with rfl | rfl <;> rfl
  clear hq hy h0
  go_enter Tryz.func11, Tryz.ntmps11
  go_wp2_with fail
  rw [← hW0]
  refine (HQ.out _ HB0.out).mono ?_
  rintro e wq ⟨rfl, rfl⟩
  obtain ⟨⟨x0, x1, x2, x3, x4⟩, _⟩ := HX0.out.five
  clear HQ hW0
  clear x0 x1 x2 x3 x4
  clear HX0
  go_wp2_with fail
  go_ret
  exact ⟨rfl, HB0.out⟩
 simp only [h0, true_and] at hy
 clear h0
 by_cases h1 : n3 ≤ 1000 ∧ n4 ≤ 1000
 rotate_left
 ·obtain rfl : y = 8 := by
   rcases hy with ⟨h, _⟩ | ⟨_, h⟩
   ·exact absurd h.1 h1
   ·exact h
  rw [decide_eq_false h1] at HR
  clear hy h1
  go_enter Tryz.func11, Tryz.ntmps11
  go_wp2_with fail
  rw [← hW0]
  refine (HQ.out _ HB0.out).mono ?_
  rintro e wq ⟨rfl, rfl⟩
  obtain ⟨⟨x0, x1, x2, x3, x4⟩, _⟩ := HX0.out.five
  clear HQ hW0
  go_wp2_with fail
  refine (HR.out _).mono ?_
  rintro e w1 ⟨rfl, hb⟩
  have HX1 := h! (HX0.out.below hb HX0.out.lt)
  have HB1 := h! (bmore HB0.out hb n!)
  clear hb x0 x1 x2 x3 x4 HX0
  obtain ⟨⟨x0, x1, x2, x3, x4⟩, _⟩ := HX1.out.five
  clear x0 x1 x2 x3 x4
  clear HX1
  go_wp2_with fail
  go_ret
  exact ⟨rfl, HB1.out⟩
 simp only [h1, true_and] at hy
 rw [decide_eq_true h1] at HR
 clear h1
 by_cases h2 : n1 ≠ 6 ∨ n2 ≠ 6
 ·obtain rfl : y = 8 := by
   rcases hy with ⟨h, _⟩ | ⟨_, h⟩
   ·rcases h2 with h2 | h2
    ·exact absurd h.1.1 h2
    ·exact absurd h.1.2.1 h2
   ·exact h
  have HNO2 := h! (fun U => HNO.out U h2)
  clear hy h2 HNO HN
  go_enter Tryz.func11, Tryz.ntmps11
  go_wp2_with fail
  rw [← hW0]
  refine (HQ.out _ HB0.out).mono ?_
  rintro e wq ⟨rfl, rfl⟩
  obtain ⟨⟨x0, x1, x2, x3, x4⟩, _⟩ := HX0.out.five
  clear HQ hW0
  go_wp2_with fail
  refine (HR.out _).mono ?_
  rintro e w1 ⟨rfl, hb⟩
  have HX1 := h! (HX0.out.below hb HX0.out.lt)
  have HB1 := h! (bmore HB0.out hb n!)
  clear hb x0 x1 x2 x3 x4 HX0
  obtain ⟨⟨x0, x1, x2, x3, x4⟩, _⟩ := HX1.out.five
  go_wp2_with fail
  refine (HNO2.out _).mono ?_
  rintro e w2 ⟨rfl, hb⟩
  have HX2 := h! (HX1.out.below hb HX1.out.lt)
  have HB2 := h! (bmore HB1.out hb n!)
  clear hb x0 x1 x2 x3 x4 HX1
  obtain ⟨⟨x0, x1, x2, x3, x4⟩, _⟩ := HX2.out.five
  clear x0 x1 x2 x3 x4
  clear HX2
  go_wp2_with fail
  go_ret
  exact ⟨rfl, HB2.out⟩
 obtain ⟨rfl, rfl⟩ : n1 = 6 ∧ n2 = 6 := by omega
 clear h2 HNO
 simp only [true_and] at hy
 rcases z2 with _ | _
 ·obtain rfl : y = 8 := by simpa using hy
  clear hy
  go_enter Tryz.func11, Tryz.ntmps11
  go_wp2_with fail
  rw [← hW0]
  refine (HQ.out _ HB0.out).mono ?_
  rintro e wq ⟨rfl, rfl⟩
  obtain ⟨⟨x0, x1, x2, x3, x4⟩, _⟩ := HX0.out.five
  clear HQ hW0
  go_wp2_with fail
  refine (HR.out _).mono ?_
  rintro e w1 ⟨rfl, hb⟩
  have HX1 := h! (HX0.out.below hb HX0.out.lt)
  have HB1 := h! (bmore HB0.out hb n!)
  clear hb x0 x1 x2 x3 x4 HX0
  obtain ⟨⟨x0, x1, x2, x3, x4⟩, _⟩ := HX1.out.five
  go_wp2_with fail
  refine (HN.out _ HB1.out trivial trivial).mono ?_
  rintro e w2 ⟨rfl, hb⟩
  have HX2 := h! (HX1.out.below hb HX1.out.lt)
  have HB2 := h! (bmore HB1.out hb n!)
  clear hb x0 x1 x2 x3 x4 HX1
  obtain ⟨⟨x0, x1, x2, x3, x4⟩, _⟩ := HX2.out.five
  clear x0 x1 x2 x3 x4
  clear HX2
  go_wp2_with fail
  go_ret
  exact ⟨rfl, HB2.out⟩
 simp only [true_and] at hy
 rcases z3 with _ | _
 ·obtain rfl : y = 8 := by simpa using hy
  clear hy
  go_enter Tryz.func11, Tryz.ntmps11
  go_wp2_with fail
  rw [← hW0]
  refine (HQ.out _ HB0.out).mono ?_
  rintro e wq ⟨rfl, rfl⟩
  obtain ⟨⟨x0, x1, x2, x3, x4⟩, _⟩ := HX0.out.five
  clear HQ hW0
  go_wp2_with fail
  refine (HR.out _).mono ?_
  rintro e w1 ⟨rfl, hb⟩
  have HX1 := h! (HX0.out.below hb HX0.out.lt)
  have HB1 := h! (bmore HB0.out hb n!)
  clear hb x0 x1 x2 x3 x4 HX0
  obtain ⟨⟨x0, x1, x2, x3, x4⟩, _⟩ := HX1.out.five
  go_wp2_with fail
  refine (HN.out _ HB1.out trivial trivial).mono ?_
  rintro e w2 ⟨rfl, hb⟩
  have HX2 := h! (HX1.out.below hb HX1.out.lt)
  have HB2 := h! (bmore HB1.out hb n!)
  clear hb x0 x1 x2 x3 x4 HX1
  obtain ⟨⟨x0, x1, x2, x3, x4⟩, _⟩ := HX2.out.five
  go_wp2_with fail
  refine (HM.out _ HB2.out).mono ?_
  rintro e w3 ⟨rfl, hb⟩
  have HX3 := h! (HX2.out.below hb HX2.out.lt)
  have HB3 := h! (bmore HB2.out hb n!)
  clear hb x0 x1 x2 x3 x4 HX2
  obtain ⟨⟨x0, x1, x2, x3, x4⟩, _⟩ := HX3.out.five
  clear x0 x1 x2 x3 x4
  clear HX3
  go_wp2_with fail
  go_ret
  exact ⟨rfl, HB3.out⟩
 simp only [true_and] at hy
 rcases z4 with _ | _
 ·obtain rfl : y = 8 := by simpa using hy
  clear hy
  go_enter Tryz.func11, Tryz.ntmps11
  go_wp2_with fail
  rw [← hW0]
  refine (HQ.out _ HB0.out).mono ?_
  rintro e wq ⟨rfl, rfl⟩
  obtain ⟨⟨x0, x1, x2, x3, x4⟩, _⟩ := HX0.out.five
  clear HQ hW0
  go_wp2_with fail
  refine (HR.out _).mono ?_
  rintro e w1 ⟨rfl, hb⟩
  have HX1 := h! (HX0.out.below hb HX0.out.lt)
  have HB1 := h! (bmore HB0.out hb n!)
  clear hb x0 x1 x2 x3 x4 HX0
  obtain ⟨⟨x0, x1, x2, x3, x4⟩, _⟩ := HX1.out.five
  go_wp2_with fail
  refine (HN.out _ HB1.out trivial trivial).mono ?_
  rintro e w2 ⟨rfl, hb⟩
  have HX2 := h! (HX1.out.below hb HX1.out.lt)
  have HB2 := h! (bmore HB1.out hb n!)
  clear hb x0 x1 x2 x3 x4 HX1
  obtain ⟨⟨x0, x1, x2, x3, x4⟩, _⟩ := HX2.out.five
  go_wp2_with fail
  refine (HM.out _ HB2.out).mono ?_
  rintro e w3 ⟨rfl, hb⟩
  have HX3 := h! (HX2.out.below hb HX2.out.lt)
  have HB3 := h! (bmore HB2.out hb n!)
  clear hb x0 x1 x2 x3 x4 HX2
  obtain ⟨⟨x0, x1, x2, x3, x4⟩, _⟩ := HX3.out.five
  go_wp2_with fail
  refine (HC.out _ HB3.out).mono ?_
  rintro e w4 ⟨rfl, hb⟩
  have HX4 := h! (HX3.out.below hb HX3.out.lt)
  have HB4 := h! (bmore HB3.out hb n!)
  clear hb x0 x1 x2 x3 x4 HX3
  obtain ⟨⟨x0, x1, x2, x3, x4⟩, _⟩ := HX4.out.five
  clear x0 x1 x2 x3 x4
  clear HX4
  go_wp2_with fail
  go_ret
  exact ⟨rfl, HB4.out⟩
 obtain rfl : y = 0 := by simpa using hy
 clear hy
 go_enter Tryz.func11, Tryz.ntmps11
 go_wp2_with fail
 rw [← hW0]
 refine (HQ.out _ HB0.out).mono ?_
 rintro e wq ⟨rfl, rfl⟩
 obtain ⟨⟨x0, x1, x2, x3, x4⟩, _⟩ := HX0.out.five
 clear HQ hW0
 go_wp2_with fail
 refine (HR.out _).mono ?_
 rintro e w1 ⟨rfl, hb⟩
 have HX1 := h! (HX0.out.below hb HX0.out.lt)
 have HB1 := h! (bmore HB0.out hb n!)
 clear hb x0 x1 x2 x3 x4 HX0
 obtain ⟨⟨x0, x1, x2, x3, x4⟩, _⟩ := HX1.out.five
 go_wp2_with fail
 refine (HN.out _ HB1.out trivial trivial).mono ?_
 rintro e w2 ⟨rfl, hb⟩
 have HX2 := h! (HX1.out.below hb HX1.out.lt)
 have HB2 := h! (bmore HB1.out hb n!)
 clear hb x0 x1 x2 x3 x4 HX1
 obtain ⟨⟨x0, x1, x2, x3, x4⟩, _⟩ := HX2.out.five
 go_wp2_with fail
 refine (HM.out _ HB2.out).mono ?_
 rintro e w3 ⟨rfl, hb⟩
 have HX3 := h! (HX2.out.below hb HX2.out.lt)
 have HB3 := h! (bmore HB2.out hb n!)
 clear hb x0 x1 x2 x3 x4 HX2
 obtain ⟨⟨x0, x1, x2, x3, x4⟩, _⟩ := HX3.out.five
 go_wp2_with fail
 refine (HC.out _ HB3.out).mono ?_
 rintro e w4 ⟨rfl, hb⟩
 have HX4 := h! (HX3.out.below hb HX3.out.lt)
 have HB4 := h! (bmore HB3.out hb n!)
 clear hb x0 x1 x2 x3 x4 HX3
 obtain ⟨⟨x0, x1, x2, x3, x4⟩, _⟩ := HX4.out.five
 clear x0 x1 x2 x3 x4
 clear HX4
 go_wp2_with fail
 go_ret
 exact ⟨rfl, HB4.out⟩
end Go.Proofs.YtiiobafcgdelmaaGreat.PD
