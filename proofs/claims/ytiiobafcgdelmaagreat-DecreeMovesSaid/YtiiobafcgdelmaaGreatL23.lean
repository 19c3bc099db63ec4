/- Contracts of functions of towncrier, layers 5 to 9, and of the document's own ones, part 23; each as its theorem says. -/
import Derived.Test.YtiiobafcgdelmaaGreatL01
import Derived.Test.YtiiobafcgdelmaaGreatL22
set_option linter.unusedVariables false
set_option linter.unusedSimpArgs false
namespace Go.Proofs.YtiiobafcgdelmaaGreat.PD
open Go.RowKit Go.Shelf
def wrg (w : DC.Wd) (k n at_ : Int) (s : ByteArray) : Int :=
 if ¬ (1 ≤ k ∧ k ≤ 5) then 2
 else if k = 1 ∨ k = 5 then if ¬ DC.isNode n then 2 else if k = 1 ∧ 1024 < s.size then 3 else 0
 else if at_ < 0 ∨ (w.ml.length : Int) ≤ at_ then 6 else 0
theorem pre_wrg (w : DC.Wd) (m : DC.Mv) : (wrg w m.k m.n m.at_ m.v ≠ 0 → DC.pre w m = wrg w m.k m.n m.at_ m.v) ∧ (wrg w m.k m.n m.at_ m.v = 0 → (m.k ≠ 1 → DC.pre w m = 0) ∧ (m.k = 1 → DC.pre w m = if 1048576 < BM.rnd (DC.getV w m.n).p m.n then 9 else 0)) := by
 unfold wrg DC.pre
 constructor
 ·intro h
  repeat' split at h
  all_goals first
   | exact absurd rfl h
   | (repeat' split) <;> first | rfl | omega | (exfalso; omega)
 ·intro h
  repeat' split at h
  all_goals first
   | (exfalso; omega)
   | (refine ⟨fun e => ?_, fun e => ?_⟩ <;> (repeat' split) <;> first | rfl | omega | (exfalso; omega))
set_option maxRecDepth 100000 in
set_option maxHeartbeats 4000000 in
theorem wrong_bad (v : Value) (w : DC.Wd) (c : Int) (k n at_ : Int) (s : ByteArray) (W : World) (H : WIs W v w) (F : WFit w) (hc : (DC.May w ∧ c = 0) ∨ (¬ DC.May w ∧ c = 8)) (h8 : (c != 0) = true) :
  Calls Tryz.prog 23 #[v, .agg #[.int .u8 k, .int .i64 n, .int .i64 at_, .string s]] W (IntIs c W) := by
 have HC := h! (fun (U : World) (hU : Below W.heap.size W U) => wcheck_any v w c U (H.below hU) F hc)
 have f3 := F.l3
 obtain ⟨A0, c0, A1, c1, A2, c2, A3, c3, A4, c4, xs, rfl, R⟩ := H
 obtain ⟨W0, hW0⟩ : ∃ W0, W0 = (W.alloc (.cells #[.slice A0 w.ms.length c0, .slice A1 w.vs.length c1, .slice A2 w.ts.length c2, .slice A3 w.ml.length c3, .slice A4 w.ch.length c4] 28)).alloc (.cells #[.int .u8 k, .int .i64 n, .int .i64 at_, .string s] 30) := ⟨_, rfl⟩
 have hb0 : Below W.heap.size W W0 := by rw [hW0]; exact ((Below.refl _ _).alloc n! _).alloc (by simp) _
 have hx0 : Box W0 W.heap.size 28 #[.slice A0 w.ms.length c0, .slice A1 w.vs.length c1, .slice A2 w.ts.length c2, .slice A3 w.ml.length c3, .slice A4 w.ch.length c4] := by rw [hW0]; exact (Box.new _ _ _).below ((Below.refl _ _).alloc n! _) (by simp)
 have hm0 : Box W0 (W.heap.size + 1) 30 #[.int .u8 k, .int .i64 n, .int .i64 at_, .string s] := by
  rw [hW0]
  have := Box.new (W.alloc (.cells #[.slice A0 w.ms.length c0, .slice A1 w.vs.length c1, .slice A2 w.ts.length c2, .slice A3 w.ml.length c3, .slice A4 w.ch.length c4] 28)) 30 #[.int .u8 k, .int .i64 n, .int .i64 at_, .string s]
  rwa [show (W.alloc (.cells #[.slice A0 w.ms.length c0, .slice A1 w.vs.length c1, .slice A2 w.ts.length c2, .slice A3 w.ml.length c3, .slice A4 w.ch.length c4] 28)).heap.size = W.heap.size + 1 by simp] at this
 have HB0 := h! hb0
 have HX0 := h! hx0
 have HM0 := h! hm0
 clear R F hc hb0 hx0 hm0
 go_enter Tryz.func23, Tryz.ntmps23
 go_wp2_with fail
 rw [← hW0]
 refine (HC.out _ HB0.out).mono ?_
 rintro e w1 ⟨rfl, hb⟩
 have HB1 := h! (bmore HB0.out hb n!)
 obtain ⟨⟨x0, x1, x2, x3, x4⟩, _⟩ := (HX0.out.below hb HX0.out.lt).five
 have hm1 := HM0.out.below hb HM0.out.lt
 have m0 := hm1.cell 0
 have m1 := hm1.cell 1
 have m2 := hm1.cell 2
 have m3 := hm1.cell 3
 simp at m0 m1 m2 m3
 clear hb hm1 hW0 HX0 HM0 HC HB0 x0 x1 x2 x4
 clear m0 m1 m2 m3 x3
 go_wp2_with fail
 go_ret
 exact ⟨rfl, HB1.out⟩
set_option maxRecDepth 100000 in
set_option maxHeartbeats 4000000 in
theorem wrong_else (v : Value) (w : DC.Wd) (c : Int) (k n at_ : Int) (s : ByteArray) (W : World) (H : WIs W v w) (F : WFit w) (hc : (DC.May w ∧ c = 0) ∨ (¬ DC.May w ∧ c = 8)) (h8 : (c != 0) = false) (h1 : (k == 1) = false) (h2 : (k == 2) = false) (h3 : (k == 3) = false) (h4 : (k == 4) = false) (h5 : (k == 5) = false) (k0 : 0 ≤ k) (k255 : k ≤ 255) :
  Calls Tryz.prog 23 #[v, .agg #[.int .u8 k, .int .i64 n, .int .i64 at_, .string s]] W (IntIs 2 W) := by
 have HC := h! (fun (U : World) (hU : Below W.heap.size W U) => wcheck_any v w c U (H.below hU) F hc)
 have f3 := F.l3
 obtain ⟨A0, c0, A1, c1, A2, c2, A3, c3, A4, c4, xs, rfl, R⟩ := H
 obtain ⟨W0, hW0⟩ : ∃ W0, W0 = (W.alloc (.cells #[.slice A0 w.ms.length c0, .slice A1 w.vs.length c1, .slice A2 w.ts.length c2, .slice A3 w.ml.length c3, .slice A4 w.ch.length c4] 28)).alloc (.cells #[.int .u8 k, .int .i64 n, .int .i64 at_, .string s] 30) := ⟨_, rfl⟩
 have hb0 : Below W.heap.size W W0 := by rw [hW0]; exact ((Below.refl _ _).alloc n! _).alloc (by simp) _
 have hx0 : Box W0 W.heap.size 28 #[.slice A0 w.ms.length c0, .slice A1 w.vs.length c1, .slice A2 w.ts.length c2, .slice A3 w.ml.length c3, .slice A4 w.ch.length c4] := by rw [hW0]; exact (Box.new _ _ _).below ((Below.refl _ _).alloc n! _) (by simp)
 have hm0 : Box W0 (W.heap.size + 1) 30 #[.int .u8 k, .int .i64 n, .int .i64 at_, .string s] := by
  rw [hW0]
  have := Box.new (W.alloc (.cells #[.slice A0 w.ms.length c0, .slice A1 w.vs.length c1, .slice A2 w.ts.length c2, .slice A3 w.ml.length c3, .slice A4 w.ch.length c4] 28)) 30 #[.int .u8 k, .int .i64 n, .int .i64 at_, .string s]
  rwa [show (W.alloc (.cells #[.slice A0 w.ms.length c0, .slice A1 w.vs.length c1, .slice A2 w.ts.length c2, .slice A3 w.ml.length c3, .slice A4 w.ch.length c4] 28)).heap.size = W.heap.size + 1 by simp] at this
 have HB0 := h! hb0
 have HX0 := h! hx0
 have HM0 := h! hm0
 clear R F hc hb0 hx0 hm0
 go_enter Tryz.func23, Tryz.ntmps23
 go_wp2_with fail
 rw [← hW0]
 refine (HC.out _ HB0.out).mono ?_
 rintro e w1 ⟨rfl, hb⟩
 have HB1 := h! (bmore HB0.out hb n!)
 obtain ⟨⟨x0, x1, x2, x3, x4⟩, _⟩ := (HX0.out.below hb HX0.out.lt).five
 have hm1 := HM0.out.below hb HM0.out.lt
 have m0 := hm1.cell 0
 have m1 := hm1.cell 1
 have m2 := hm1.cell 2
 have m3 := hm1.cell 3
 simp at m0 m1 m2 m3
 clear hb hm1 hW0 HX0 HM0 HC HB0 x0 x1 x2 x4
 go_wp2_with fail
 go_ret
 exact ⟨rfl, HB1.out⟩
set_option maxRecDepth 100000 in
set_option maxHeartbeats 4000000 in
theorem wrong_n1 (v : Value) (w : DC.Wd) (c : Int) (n at_ : Int) (s : ByteArray) (W : World) (H : WIs W v w) (F : WFit w) (hc : (DC.May w ∧ c = 0) ∨ (¬ DC.May w ∧ c = 8)) (h8 : (c != 0) = false) (hn : ¬ DC.isNode n) :
  Calls Tryz.prog 23 #[v, .agg #[.int .u8 1, .int .i64 n, .int .i64 at_, .string s]] W (IntIs 2 W) := by
 have HC := h! (fun (U : World) (hU : Below W.heap.size W U) => wcheck_any v w c U (H.below hU) F hc)
 have f3 := F.l3
 obtain ⟨A0, c0, A1, c1, A2, c2, A3, c3, A4, c4, xs, rfl, R⟩ := H
 obtain ⟨W0, hW0⟩ : ∃ W0, W0 = (W.alloc (.cells #[.slice A0 w.ms.length c0, .slice A1 w.vs.length c1, .slice A2 w.ts.length c2, .slice A3 w.ml.length c3, .slice A4 w.ch.length c4] 28)).alloc (.cells #[.int .u8 1, .int .i64 n, .int .i64 at_, .string s] 30) := ⟨_, rfl⟩
 have hb0 : Below W.heap.size W W0 := by rw [hW0]; exact ((Below.refl _ _).alloc n! _).alloc (by simp) _
 have hx0 : Box W0 W.heap.size 28 #[.slice A0 w.ms.length c0, .slice A1 w.vs.length c1, .slice A2 w.ts.length c2, .slice A3 w.ml.length c3, .slice A4 w.ch.length c4] := by rw [hW0]; exact (Box.new _ _ _).below ((Below.refl _ _).alloc n! _) (by simp)
 have hm0 : Box W0 (W.heap.size + 1) 30 #[.int .u8 1, .int .i64 n, .int .i64 at_, .string s] := by
  rw [hW0]
  have := Box.new (W.alloc (.cells #[.slice A0 w.ms.length c0, .slice A1 w.vs.length c1, .slice A2 w.ts.length c2, .slice A3 w.ml.length c3, .slice A4 w.ch.length c4] 28)) 30 #[.int .u8 1, .int .i64 n, .int .i64 at_, .string s]
  rwa [show (W.alloc (.cells #[.slice A0 w.ms.length c0, .slice A1 w.vs.length c1, .slice A2 w.ts.length c2, .slice A3 w.ml.length c3, .slice A4 w.ch.length c4] 28)).heap.size = W.heap.size + 1 by simp] at this
 have HB0 := h! hb0
 have HX0 := h! hx0
 have HM0 := h! hm0
 clear R F hc hb0 hx0 hm0
 go_enter Tryz.func23, Tryz.ntmps23
 go_wp2_with fail
 rw [← hW0]
 refine (HC.out _ HB0.out).mono ?_
 rintro e w1 ⟨rfl, hb⟩
 have HB1 := h! (bmore HB0.out hb n!)
 obtain ⟨⟨x0, x1, x2, x3, x4⟩, _⟩ := (HX0.out.below hb HX0.out.lt).five
 have hm1 := HM0.out.below hb HM0.out.lt
 have m0 := hm1.cell 0
 have m1 := hm1.cell 1
 have m2 := hm1.cell 2
 have m3 := hm1.cell 3
 simp at m0 m1 m2 m3
 clear hb hm1 hW0 HX0 HM0 HC HB0 x0 x1 x2 x4
 go_wp2_with fail
 refine (node_no n _ hn).mono ?_
 rintro e w2 ⟨rfl, rfl⟩
 go_wp2_with fail
 go_ret
 exact ⟨rfl, HB1.out⟩
set_option maxRecDepth 100000 in
set_option maxHeartbeats 4000000 in
theorem wrong_n5 (v : Value) (w : DC.Wd) (c : Int) (n at_ : Int) (s : ByteArray) (W : World) (H : WIs W v w) (F : WFit w) (hc : (DC.May w ∧ c = 0) ∨ (¬ DC.May w ∧ c = 8)) (h8 : (c != 0) = false) (hn : ¬ DC.isNode n) :
  Calls Tryz.prog 23 #[v, .agg #[.int .u8 5, .int .i64 n, .int .i64 at_, .string s]] W (IntIs 2 W) := by
 have HC := h! (fun (U : World) (hU : Below W.heap.size W U) => wcheck_any v w c U (H.below hU) F hc)
 have f3 := F.l3
 obtain ⟨A0, c0, A1, c1, A2, c2, A3, c3, A4, c4, xs, rfl, R⟩ := H
 obtain ⟨W0, hW0⟩ : ∃ W0, W0 = (W.alloc (.cells #[.slice A0 w.ms.length c0, .slice A1 w.vs.length c1, .slice A2 w.ts.length c2, .slice A3 w.ml.length c3, .slice A4 w.ch.length c4] 28)).alloc (.cells #[.int .u8 5, .int .i64 n, .int .i64 at_, .string s] 30) := ⟨_, rfl⟩
 have hb0 : Below W.heap.size W W0 := by rw [hW0]; exact ((Below.refl _ _).alloc n! _).alloc (by simp) _
 have hx0 : Box W0 W.heap.size 28 #[.slice A0 w.ms.length c0, .slice A1 w.vs.length c1, .slice A2 w.ts.length c2, .slice A3 w.ml.length c3, .slice A4 w.ch.length c4] := by rw [hW0]; exact (Box.new _ _ _).below ((Below.refl _ _).alloc n! _) (by simp)
 have hm0 : Box W0 (W.heap.size + 1) 30 #[.int .u8 5, .int .i64 n, .int .i64 at_, .string s] := by
  rw [hW0]
  have := Box.new (W.alloc (.cells #[.slice A0 w.ms.length c0, .slice A1 w.vs.length c1, .slice A2 w.ts.length c2, .slice A3 w.ml.length c3, .slice A4 w.ch.length c4] 28)) 30 #[.int .u8 5, .int .i64 n, .int .i64 at_, .string s]
  rwa [show (W.alloc (.cells #[.slice A0 w.ms.length c0, .slice A1 w.vs.length c1, .slice A2 w.ts.length c2, .slice A3 w.ml.length c3, .slice A4 w.ch.length c4] 28)).heap.size = W.heap.size + 1 by simp] at this
 have HB0 := h! hb0
 have HX0 := h! hx0
 have HM0 := h! hm0
 clear R F hc hb0 hx0 hm0
 go_enter Tryz.func23, Tryz.ntmps23
 go_wp2_with fail
 rw [← hW0]
 refine (HC.out _ HB0.out).mono ?_
 rintro e w1 ⟨rfl, hb⟩
 have HB1 := h! (bmore HB0.out hb n!)
 obtain ⟨⟨x0, x1, x2, x3, x4⟩, _⟩ := (HX0.out.below hb HX0.out.lt).five
 have hm1 := HM0.out.below hb HM0.out.lt
 have m0 := hm1.cell 0
 have m1 := hm1.cell 1
 have m2 := hm1.cell 2
 have m3 := hm1.cell 3
 simp at m0 m1 m2 m3
 clear hb hm1 hW0 HX0 HM0 HC HB0 x0 x1 x2 x4
 go_wp2_with fail
 refine (node_no n _ hn).mono ?_
 rintro e w2 ⟨rfl, rfl⟩
 go_wp2_with fail
 go_ret
 exact ⟨rfl, HB1.out⟩
set_option maxRecDepth 100000 in
set_option maxHeartbeats 4000000 in
theorem wrong_t1 (v : Value) (w : DC.Wd) (c : Int) (n at_ : Int) (s : ByteArray) (W : World) (H : WIs W v w) (F : WFit w) (hc : (DC.May w ∧ c = 0) ∨ (¬ DC.May w ∧ c = 8)) (h8 : (c != 0) = false) (hn : DC.isNode n) (hs : 1024 < s.size) (hs2 : s.size ≤ maxLen) :
  Calls Tryz.prog 23 #[v, .agg #[.int .u8 1, .int .i64 n, .int .i64 at_, .string s]] W (IntIs 3 W) := by
 have HC := h! (fun (U : World) (hU : Below W.heap.size W U) => wcheck_any v w c U (H.below hU) F hc)
 have f3 := F.l3
 obtain ⟨A0, c0, A1, c1, A2, c2, A3, c3, A4, c4, xs, rfl, R⟩ := H
 obtain ⟨W0, hW0⟩ : ∃ W0, W0 = (W.alloc (.cells #[.slice A0 w.ms.length c0, .slice A1 w.vs.length c1, .slice A2 w.ts.length c2, .slice A3 w.ml.length c3, .slice A4 w.ch.length c4] 28)).alloc (.cells #[.int .u8 1, .int .i64 n, .int .i64 at_, .string s] 30) := ⟨_, rfl⟩
 have hb0 : Below W.heap.size W W0 := by rw [hW0]; exact ((Below.refl _ _).alloc n! _).alloc (by simp) _
 have hx0 : Box W0 W.heap.size 28 #[.slice A0 w.ms.length c0, .slice A1 w.vs.length c1, .slice A2 w.ts.length c2, .slice A3 w.ml.length c3, .slice A4 w.ch.length c4] := by rw [hW0]; exact (Box.new _ _ _).below ((Below.refl _ _).alloc n! _) (by simp)
 have hm0 : Box W0 (W.heap.size + 1) 30 #[.int .u8 1, .int .i64 n, .int .i64 at_, .string s] := by
  rw [hW0]
  have := Box.new (W.alloc (.cells #[.slice A0 w.ms.length c0, .slice A1 w.vs.length c1, .slice A2 w.ts.length c2, .slice A3 w.ml.length c3, .slice A4 w.ch.length c4] 28)) 30 #[.int .u8 1, .int .i64 n, .int .i64 at_, .string s]
  rwa [show (W.alloc (.cells #[.slice A0 w.ms.length c0, .slice A1 w.vs.length c1, .slice A2 w.ts.length c2, .slice A3 w.ml.length c3, .slice A4 w.ch.length c4] 28)).heap.size = W.heap.size + 1 by simp] at this
 have HB0 := h! hb0
 have HX0 := h! hx0
 have HM0 := h! hm0
 clear R F hc hb0 hx0 hm0
 go_enter Tryz.func23, Tryz.ntmps23
 go_wp2_with fail
 rw [← hW0]
 refine (HC.out _ HB0.out).mono ?_
 rintro e w1 ⟨rfl, hb⟩
 have HB1 := h! (bmore HB0.out hb n!)
 obtain ⟨⟨x0, x1, x2, x3, x4⟩, _⟩ := (HX0.out.below hb HX0.out.lt).five
 have hm1 := HM0.out.below hb HM0.out.lt
 have m0 := hm1.cell 0
 have m1 := hm1.cell 1
 have m2 := hm1.cell 2
 have m3 := hm1.cell 3
 simp at m0 m1 m2 m3
 clear hb hm1 hW0 HX0 HM0 HC HB0 x0 x1 x2 x4
 unfold maxLen at hs2
 go_wp2_with fail
 refine (node_yes n _ hn).mono ?_
 rintro e w2 ⟨rfl, rfl⟩
 go_wp2_with fail
 go_ret
 exact ⟨rfl, HB1.out⟩
set_option maxRecDepth 100000 in
set_option maxHeartbeats 4000000 in
theorem wrong_y1 (v : Value) (w : DC.Wd) (c : Int) (n at_ : Int) (s : ByteArray) (W : World) (H : WIs W v w) (F : WFit w) (hc : (DC.May w ∧ c = 0) ∨ (¬ DC.May w ∧ c = 8)) (h8 : (c != 0) = false) (hn : DC.isNode n) (hs : s.size ≤ 1024) :
  Calls Tryz.prog 23 #[v, .agg #[.int .u8 1, .int .i64 n, .int .i64 at_, .string s]] W (IntIs 0 W) := by
 have HC := h! (fun (U : World) (hU : Below W.heap.size W U) => wcheck_any v w c U (H.below hU) F hc)
 have f3 := F.l3
 obtain ⟨A0, c0, A1, c1, A2, c2, A3, c3, A4, c4, xs, rfl, R⟩ := H
 obtain ⟨W0, hW0⟩ : ∃ W0, W0 = (W.alloc (.cells #[.slice A0 w.ms.length c0, .slice A1 w.vs.length c1, .slice A2 w.ts.length c2, .slice A3 w.ml.length c3, .slice A4 w.ch.length c4] 28)).alloc (.cells #[.int .u8 1, .int .i64 n, .int .i64 at_, .string s] 30) := ⟨_, rfl⟩
 have hb0 : Below W.heap.size W W0 := by rw [hW0]; exact ((Below.refl _ _).alloc n! _).alloc (by simp) _
 have hx0 : Box W0 W.heap.size 28 #[.slice A0 w.ms.length c0, .slice A1 w.vs.length c1, .slice A2 w.ts.length c2, .slice A3 w.ml.length c3, .slice A4 w.ch.length c4] := by rw [hW0]; exact (Box.new _ _ _).below ((Below.refl _ _).alloc n! _) (by simp)
 have hm0 : Box W0 (W.heap.size + 1) 30 #[.int .u8 1, .int .i64 n, .int .i64 at_, .string s] := by
  rw [hW0]
  have := Box.new (W.alloc (.cells #[.slice A0 w.ms.length c0, .slice A1 w.vs.length c1, .slice A2 w.ts.length c2, .slice A3 w.ml.length c3, .slice A4 w.ch.length c4] 28)) 30 #[.int .u8 1, .int .i64 n, .int .i64 at_, .string s]
  rwa [show (W.alloc (.cells #[.slice A0 w.ms.length c0, .slice A1 w.vs.length c1, .slice A2 w.ts.length c2, .slice A3 w.ml.length c3, .slice A4 w.ch.length c4] 28)).heap.size = W.heap.size + 1 by simp] at this
 have HB0 := h! hb0
 have HX0 := h! hx0
 have HM0 := h! hm0
 clear R F hc hb0 hx0 hm0
 go_enter Tryz.func23, Tryz.ntmps23
 go_wp2_with fail
 rw [← hW0]
 refine (HC.out _ HB0.out).mono ?_
 rintro e w1 ⟨rfl, hb⟩
 have HB1 := h! (bmore HB0.out hb n!)
 obtain ⟨⟨x0, x1, x2, x3, x4⟩, _⟩ := (HX0.out.below hb HX0.out.lt).five
 have hm1 := HM0.out.below hb HM0.out.lt
 have m0 := hm1.cell 0
 have m1 := hm1.cell 1
 have m2 := hm1.cell 2
 have m3 := hm1.cell 3
 simp at m0 m1 m2 m3
 clear hb hm1 hW0 HX0 HM0 HC HB0 x0 x1 x2 x4
 go_wp2_with fail
 refine (node_yes n _ hn).mono ?_
 rintro e w2 ⟨rfl, rfl⟩
 go_wp2_with fail
 go_ret
 exact ⟨rfl, HB1.out⟩
set_option maxRecDepth 100000 in
set_option maxHeartbeats 4000000 in
theorem wrong_y5 (v : Value) (w : DC.Wd) (c : Int) (n at_ : Int) (s : ByteArray) (W : World) (H : WIs W v w) (F : WFit w) (hc : (DC.May w ∧ c = 0) ∨ (¬ DC.May w ∧ c = 8)) (h8 : (c != 0) = false) (hn : DC.isNode n) :
  Calls Tryz.prog 23 #[v, .agg #[.int .u8 5, .int .i64 n, .int .i64 at_, .string s]] W (IntIs 0 W) := by
 have HC := h! (fun (U : World) (hU : Below W.heap.size W U) => wcheck_any v w c U (H.below hU) F hc)
 have f3 := F.l3
 obtain ⟨A0, c0, A1, c1, A2, c2, A3, c3, A4, c4, xs, rfl, R⟩ := H
 obtain ⟨W0, hW0⟩ : ∃ W0, W0 = (W.alloc (.cells #[.slice A0 w.ms.length c0, .slice A1 w.vs.length c1, .slice A2 w.ts.length c2, .slice A3 w.ml.length c3, .slice A4 w.ch.length c4] 28)).alloc (.cells #[.int .u8 5, .int .i64 n, .int .i64 at_, .string s] 30) := ⟨_, rfl⟩
 have hb0 : Below W.heap.size W W0 := by rw [hW0]; exact ((Below.refl _ _).alloc n! _).alloc (by simp) _
 have hx0 : Box W0 W.heap.size 28 #[.slice A0 w.ms.length c0, .slice A1 w.vs.length c1, .slice A2 w.ts.length c2, .slice A3 w.ml.length c3, .slice A4 w.ch.length c4] := by rw [hW0]; exact (Box.new _ _ _).below ((Below.refl _ _).alloc n! _) (by simp)
 have hm0 : Box W0 (W.heap.size + 1) 30 #[.int .u8 5, .int .i64 n, .int .i64 at_, .string s] := by
  rw [hW0]
  have := Box.new (W.alloc (.cells #[.slice A0 w.ms.length c0, .slice A1 w.vs.length c1, .slice A2 w.ts.length c2, .slice A3 w.ml.length c3, .slice A4 w.ch.length c4] 28)) 30 #[.int .u8 5, .int .i64 n, .int .i64 at_, .string s]
  rwa [show (W.alloc (.cells #[.slice A0 w.ms.length c0, .slice A1 w.vs.length c1, .slice A2 w.ts.length c2, .slice A3 w.ml.length c3, .slice A4 w.ch.length c4] 28)).heap.size = W.heap.size + 1 by simp] at this
 have HB0 := h! hb0
 have HX0 := h! hx0
 have HM0 := h! hm0
 clear R F hc hb0 hx0 hm0
 go_enter Tryz.func23, Tryz.ntmps23
 go_wp2_with fail
 rw [← hW0]
 refine (HC.out _ HB0.out).mono ?_
 rintro e w1 ⟨rfl, hb⟩
 have HB1 := h! (bmore HB0.out hb n!)
 obtain ⟨⟨x0, x1, x2, x3, x4⟩, _⟩ := (HX0.out.below hb HX0.out.lt).five
 have hm1 := HM0.out.below hb HM0.out.lt
 have m0 := hm1.cell 0
 have m1 := hm1.cell 1
 have m2 := hm1.cell 2
 have m3 := hm1.cell 3
 simp at m0 m1 m2 m3
 clear hb hm1 hW0 HX0 HM0 HC HB0 x0 x1 x2 x4
 go_wp2_with fail
 refine (node_yes n _ hn).mono ?_
 rintro e w2 ⟨rfl, rfl⟩
 go_wp2_with fail
 go_ret
 exact ⟨rfl, HB1.out⟩
set_option maxRecDepth 100000 in
set_option maxHeartbeats 4000000 in
theorem wrong_a2 (v : Value) (w : DC.Wd) (c : Int) (n at_ : Int) (s : ByteArray) (W : World) (H : WIs W v w) (F : WFit w) (hc : (DC.May w ∧ c = 0) ∨ (¬ DC.May w ∧ c = 8)) (h8 : (c != 0) = false) (ha : at_ < 0) :
  Calls Tryz.prog 23 #[v, .agg #[.int .u8 2, .int .i64 n, .int .i64 at_, .string s]] W (IntIs 6 W) := by
 have HC := h! (fun (U : World) (hU : Below W.heap.size W U) => wcheck_any v w c U (H.below hU) F hc)
 have f3 := F.l3
 obtain ⟨A0, c0, A1, c1, A2, c2, A3, c3, A4, c4, xs, rfl, R⟩ := H
 obtain ⟨W0, hW0⟩ : ∃ W0, W0 = (W.alloc (.cells #[.slice A0 w.ms.length c0, .slice A1 w.vs.length c1, .slice A2 w.ts.length c2, .slice A3 w.ml.length c3, .slice A4 w.ch.length c4] 28)).alloc (.cells #[.int .u8 2, .int .i64 n, .int .i64 at_, .string s] 30) := ⟨_, rfl⟩
 have hb0 : Below W.heap.size W W0 := by rw [hW0]; exact ((Below.refl _ _).alloc n! _).alloc (by simp) _
 have hx0 : Box W0 W.heap.size 28 #[.slice A0 w.ms.length c0, .slice A1 w.vs.length c1, .slice A2 w.ts.length c2, .slice A3 w.ml.length c3, .slice A4 w.ch.length c4] := by rw [hW0]; exact (Box.new _ _ _).below ((Below.refl _ _).alloc n! _) (by simp)
 have hm0 : Box W0 (W.heap.size + 1) 30 #[.int .u8 2, .int .i64 n, .int .i64 at_, .string s] := by
  rw [hW0]
  have := Box.new (W.alloc (.cells #[.slice A0 w.ms.length c0, .slice A1 w.vs.length c1, .slice A2 w.ts.length c2, .slice A3 w.ml.length c3, .slice A4 w.ch.length c4] 28)) 30 #[.int .u8 2, .int .i64 n, .int .i64 at_, .string s]
  rwa [show (W.alloc (.cells #[.slice A0 w.ms.length c0, .slice A1 w.vs.length c1, .slice A2 w.ts.length c2, .slice A3 w.ml.length c3, .slice A4 w.ch.length c4] 28)).heap.size = W.heap.size + 1 by simp] at this
 have HB0 := h! hb0
 have HX0 := h! hx0
 have HM0 := h! hm0
 clear R F hc hb0 hx0 hm0
 go_enter Tryz.func23, Tryz.ntmps23
 go_wp2_with fail
 rw [← hW0]
 refine (HC.out _ HB0.out).mono ?_
 rintro e w1 ⟨rfl, hb⟩
 have HB1 := h! (bmore HB0.out hb n!)
 obtain ⟨⟨x0, x1, x2, x3, x4⟩, _⟩ := (HX0.out.below hb HX0.out.lt).five
 have hm1 := HM0.out.below hb HM0.out.lt
 have m0 := hm1.cell 0
 have m1 := hm1.cell 1
 have m2 := hm1.cell 2
 have m3 := hm1.cell 3
 simp at m0 m1 m2 m3
 clear hb hm1 hW0 HX0 HM0 HC HB0 x0 x1 x2 x4
 go_wp2_with fail
 go_ret
 exact ⟨rfl, HB1.out⟩
set_option maxRecDepth 100000 in
set_option maxHeartbeats 4000000 in
theorem wrong_b2 (v : Value) (w : DC.Wd) (c : Int) (n at_ : Int) (s : ByteArray) (W : World) (H : WIs W v w) (F : WFit w) (hc : (DC.May w ∧ c = 0) ∨ (¬ DC.May w ∧ c = 8)) (h8 : (c != 0) = false) (ha : 0 ≤ at_) (hb2 : (w.ml.length : Int) ≤ at_) :
  Calls Tryz.prog 23 #[v, .agg #[.int .u8 2, .int .i64 n, .int .i64 at_, .string s]] W (IntIs 6 W) := by
 have HC := h! (fun (U : World) (hU : Below W.heap.size W U) => wcheck_any v w c U (H.below hU) F hc)
 have f3 := F.l3
 obtain ⟨A0, c0, A1, c1, A2, c2, A3, c3, A4, c4, xs, rfl, R⟩ := H
 obtain ⟨W0, hW0⟩ : ∃ W0, W0 = (W.alloc (.cells #[.slice A0 w.ms.length c0, .slice A1 w.vs.length c1, .slice A2 w.ts.length c2, .slice A3 w.ml.length c3, .slice A4 w.ch.length c4] 28)).alloc (.cells #[.int .u8 2, .int .i64 n, .int .i64 at_, .string s] 30) := ⟨_, rfl⟩
 have hb0 : Below W.heap.size W W0 := by rw [hW0]; exact ((Below.refl _ _).alloc n! _).alloc (by simp) _
 have hx0 : Box W0 W.heap.size 28 #[.slice A0 w.ms.length c0, .slice A1 w.vs.length c1, .slice A2 w.ts.length c2, .slice A3 w.ml.length c3, .slice A4 w.ch.length c4] := by rw [hW0]; exact (Box.new _ _ _).below ((Below.refl _ _).alloc n! _) (by simp)
 have hm0 : Box W0 (W.heap.size + 1) 30 #[.int .u8 2, .int .i64 n, .int .i64 at_, .string s] := by
  rw [hW0]
  have := Box.new (W.alloc (.cells #[.slice A0 w.ms.length c0, .slice A1 w.vs.length c1, .slice A2 w.ts.length c2, .slice A3 w.ml.length c3, .slice A4 w.ch.length c4] 28)) 30 #[.int .u8 2, .int .i64 n, .int .i64 at_, .string s]
  rwa [show (W.alloc (.cells #[.slice A0 w.ms.length c0, .slice A1 w.vs.length c1, .slice A2 w.ts.length c2, .slice A3 w.ml.length c3, .slice A4 w.ch.length c4] 28)).heap.size = W.heap.size + 1 by simp] at this
 have HB0 := h! hb0
 have HX0 := h! hx0
 have HM0 := h! hm0
 clear R F hc hb0 hx0 hm0
 go_enter Tryz.func23, Tryz.ntmps23
 go_wp2_with fail
 rw [← hW0]
 refine (HC.out _ HB0.out).mono ?_
 rintro e w1 ⟨rfl, hb⟩
 have HB1 := h! (bmore HB0.out hb n!)
 obtain ⟨⟨x0, x1, x2, x3, x4⟩, _⟩ := (HX0.out.below hb HX0.out.lt).five
 have hm1 := HM0.out.below hb HM0.out.lt
 have m0 := hm1.cell 0
 have m1 := hm1.cell 1
 have m2 := hm1.cell 2
 have m3 := hm1.cell 3
 simp at m0 m1 m2 m3
 clear hb hm1 hW0 HX0 HM0 HC HB0 x0 x1 x2 x4
 go_wp2_with fail
 go_ret
 exact ⟨rfl, HB1.out⟩
set_option maxRecDepth 100000 in
set_option maxHeartbeats 4000000 in
theorem wrong_y2 (v : Value) (w : DC.Wd) (c : Int) (n at_ : Int) (s : ByteArray) (W : World) (H : WIs W v w) (F : WFit w) (hc : (DC.May w ∧ c = 0) ∨ (¬ DC.May w ∧ c = 8)) (h8 : (c != 0) = false) (ha : 0 ≤ at_) (hb2 : at_ < (w.ml.length : Int)) :
  Calls Tryz.prog 23 #[v, .agg #[.int .u8 2, .int .i64 n, .int .i64 at_, .string s]] W (IntIs 0 W) := by
 have HC := h! (fun (U : World) (hU : Below W.heap.size W U) => wcheck_any v w c U (H.below hU) F hc)
 have f3 := F.l3
 obtain ⟨A0, c0, A1, c1, A2, c2, A3, c3, A4, c4, xs, rfl, R⟩ := H
 obtain ⟨W0, hW0⟩ : ∃ W0, W0 = (W.alloc (.cells #[.slice A0 w.ms.length c0, .slice A1 w.vs.length c1, .slice A2 w.ts.length c2, .slice A3 w.ml.length c3, .slice A4 w.ch.length c4] 28)).alloc (.cells #[.int .u8 2, .int .i64 n, .int .i64 at_, .string s] 30) := ⟨_, rfl⟩
 have hb0 : Below W.heap.size W W0 := by rw [hW0]; exact ((Below.refl _ _).alloc n! _).alloc (by simp) _
 have hx0 : Box W0 W.heap.size 28 #[.slice A0 w.ms.length c0, .slice A1 w.vs.length c1, .slice A2 w.ts.length c2, .slice A3 w.ml.length c3, .slice A4 w.ch.length c4] := by rw [hW0]; exact (Box.new _ _ _).below ((Below.refl _ _).alloc n! _) (by simp)
 have hm0 : Box W0 (W.heap.size + 1) 30 #[.int .u8 2, .int .i64 n, .int .i64 at_, .string s] := by
  rw [hW0]
  have := Box.new (W.alloc (.cells #[.slice A0 w.ms.length c0, .slice A1 w.vs.length c1, .slice A2 w.ts.length c2, .slice A3 w.ml.length c3, .slice A4 w.ch.length c4] 28)) 30 #[.int .u8 2, .int .i64 n, .int .i64 at_, .string s]
  rwa [show (W.alloc (.cells #[.slice A0 w.ms.length c0, .slice A1 w.vs.length c1, .slice A2 w.ts.length c2, .slice A3 w.ml.length c3, .slice A4 w.ch.length c4] 28)).heap.size = W.heap.size + 1 by simp] at this
 have HB0 := h! hb0
 have HX0 := h! hx0
 have HM0 := h! hm0
 clear R F hc hb0 hx0 hm0
 go_enter Tryz.func23, Tryz.ntmps23
 go_wp2_with fail
 rw [← hW0]
 refine (HC.out _ HB0.out).mono ?_
 rintro e w1 ⟨rfl, hb⟩
 have HB1 := h! (bmore HB0.out hb n!)
 obtain ⟨⟨x0, x1, x2, x3, x4⟩, _⟩ := (HX0.out.below hb HX0.out.lt).five
 have hm1 := HM0.out.below hb HM0.out.lt
 have m0 := hm1.cell 0
 have m1 := hm1.cell 1
 have m2 := hm1.cell 2
 have m3 := hm1.cell 3
 simp at m0 m1 m2 m3
 clear hb hm1 hW0 HX0 HM0 HC HB0 x0 x1 x2 x4
 go_wp2_with fail
 go_ret
 exact ⟨rfl, HB1.out⟩
set_option maxRecDepth 100000 in
set_option maxHeartbeats 4000000 in
theorem wrong_a3 (v : Value) (w : DC.Wd) (c : Int) (n at_ : Int) (s : ByteArray) (W : World) (H : WIs W v w) (F : WFit w) (hc : (DC.May w ∧ c = 0) ∨ (¬ DC.May w ∧ c = 8)) (h8 : (c != 0) = false) (ha : at_ < 0) :
  Calls Tryz.prog 23 #[v, .agg #[.int .u8 3, .int .i64 n, .int .i64 at_, .string s]] W (IntIs 6 W) := by
 have HC := h! (fun (U : World) (hU : Below W.heap.size W U) => wcheck_any v w c U (H.below hU) F hc)
 have f3 := F.l3
 obtain ⟨A0, c0, A1, c1, A2, c2, A3, c3, A4, c4, xs, rfl, R⟩ := H
 obtain ⟨W0, hW0⟩ : ∃ W0, W0 = (W.alloc (.cells #[.slice A0 w.ms.length c0, .slice A1 w.vs.length c1, .slice A2 w.ts.length c2, .slice A3 w.ml.length c3, .slice A4 w.ch.length c4] 28)).alloc (.cells #[.int .u8 3, .int .i64 n, .int .i64 at_, .string s] 30) := ⟨_, rfl⟩
 have hb0 : Below W.heap.size W W0 := by rw [hW0]; exact ((Below.refl _ _).alloc n! _).alloc (by simp) _
 have hx0 : Box W0 W.heap.size 28 #[.slice A0 w.ms.length c0, .slice A1 w.vs.length c1, .slice A2 w.ts.length c2, .slice A3 w.ml.length c3, .slice A4 w.ch.length c4] := by rw [hW0]; exact (Box.new _ _ _).below ((Below.refl _ _).alloc n! _) (by simp)
 have hm0 : Box W0 (W.heap.size + 1) 30 #[.int .u8 3, .int .i64 n, .int .i64 at_, .string s] := by
  rw [hW0]
  have := Box.new (W.alloc (.cells #[.slice A0 w.ms.length c0, .slice A1 w.vs.length c1, .slice A2 w.ts.length c2, .slice A3 w.ml.length c3, .slice A4 w.ch.length c4] 28)) 30 #[.int .u8 3, .int .i64 n, .int .i64 at_, .string s]
  rwa [show (W.alloc (.cells #[.slice A0 w.ms.length c0, .slice A1 w.vs.length c1, .slice A2 w.ts.length c2, .slice A3 w.ml.length c3, .slice A4 w.ch.length c4] 28)).heap.size = W.heap.size + 1 by simp] at this
 have HB0 := h! hb0
 have HX0 := h! hx0
 have HM0 := h! hm0
 clear R F hc hb0 hx0 hm0
 go_enter Tryz.func23, Tryz.ntmps23
 go_wp2_with fail
 rw [← hW0]
 refine (HC.out _ HB0.out).mono ?_
 rintro e w1 ⟨rfl, hb⟩
 have HB1 := h! (bmore HB0.out hb n!)
 obtain ⟨⟨x0, x1, x2, x3, x4⟩, _⟩ := (HX0.out.below hb HX0.out.lt).five
 have hm1 := HM0.out.below hb HM0.out.lt
 have m0 := hm1.cell 0
 have m1 := hm1.cell 1
 have m2 := hm1.cell 2
 have m3 := hm1.cell 3
 simp at m0 m1 m2 m3
 clear hb hm1 hW0 HX0 HM0 HC HB0 x0 x1 x2 x4
 go_wp2_with fail
 go_ret
 exact ⟨rfl, HB1.out⟩
set_option maxRecDepth 100000 in
set_option maxHeartbeats 4000000 in
theorem wrong_b3 (v : Value) (w : DC.Wd) (c : Int) (n at_ : Int) (s : ByteArray) (W : World) (H : WIs W v w) (F : WFit w) (hc : (DC.May w ∧ c = 0) ∨ (¬ DC.May w ∧ c = 8)) (h8 : (c != 0) = false) (ha : 0 ≤ at_) (hb2 : (w.ml.length : Int) ≤ at_) :
  Calls Tryz.prog 23 #[v, .agg #[.int .u8 3, .int .i64 n, .int .i64 at_, .string s]] W (IntIs 6 W) := by
 have HC := h! (fun (U : World) (hU : Below W.heap.size W U) => wcheck_any v w c U (H.below hU) F hc)
 have f3 := F.l3
 obtain ⟨A0, c0, A1, c1, A2, c2, A3, c3, A4, c4, xs, rfl, R⟩ := H
 obtain ⟨W0, hW0⟩ : ∃ W0, W0 = (W.alloc (.cells #[.slice A0 w.ms.length c0, .slice A1 w.vs.length c1, .slice A2 w.ts.length c2, .slice A3 w.ml.length c3, .slice A4 w.ch.length c4] 28)).alloc (.cells #[.int .u8 3, .int .i64 n, .int .i64 at_, .string s] 30) := ⟨_, rfl⟩
 have hb0 : Below W.heap.size W W0 := by rw [hW0]; exact ((Below.refl _ _).alloc n! _).alloc (by simp) _
 have hx0 : Box W0 W.heap.size 28 #[.slice A0 w.ms.length c0, .slice A1 w.vs.length c1, .slice A2 w.ts.length c2, .slice A3 w.ml.length c3, .slice A4 w.ch.length c4] := by rw [hW0]; exact (Box.new _ _ _).below ((Below.refl _ _).alloc n! _) (by simp)
 have hm0 : Box W0 (W.heap.size + 1) 30 #[.int .u8 3, .int .i64 n, .int .i64 at_, .string s] := by
  rw [hW0]
  have := Box.new (W.alloc (.cells #[.slice A0 w.ms.length c0, .slice A1 w.vs.length c1, .slice A2 w.ts.length c2, .slice A3 w.ml.length c3, .slice A4 w.ch.length c4] 28)) 30 #[.int .u8 3, .int .i64 n, .int .i64 at_, .string s]
  rwa [show (W.alloc (.cells #[.slice A0 w.ms.length c0, .slice A1 w.vs.length c1, .slice A2 w.ts.length c2, .slice A3 w.ml.length c3, .slice A4 w.ch.length c4] 28)).heap.size = W.heap.size + 1 by simp] at this
 have HB0 := h! hb0
 have HX0 := h! hx0
 have HM0 := h! hm0
 clear R F hc hb0 hx0 hm0
 go_enter Tryz.func23, Tryz.ntmps23
 go_wp2_with fail
 rw [← hW0]
 refine (HC.out _ HB0.out).mono ?_
 rintro e w1 ⟨rfl, hb⟩
 have HB1 := h! (bmore HB0.out hb n!)
 obtain ⟨⟨x0, x1, x2, x3, x4⟩, _⟩ := (HX0.out.below hb HX0.out.lt).five
 have hm1 := HM0.out.below hb HM0.out.lt
 have m0 := hm1.cell 0
 have m1 := hm1.cell 1
 have m2 := hm1.cell 2
 have m3 := hm1.cell 3
 simp at m0 m1 m2 m3
 clear hb hm1 hW0 HX0 HM0 HC HB0 x0 x1 x2 x4
 go_wp2_with fail
 go_ret
 exact ⟨rfl, HB1.out⟩
set_option maxRecDepth 100000 in
set_option maxHeartbeats 4000000 in
theorem wrong_y3 (v : Value) (w : DC.Wd) (c : Int) (n at_ : Int) (s : ByteArray) (W : World) (H : WIs W v w) (F : WFit w) (hc : (DC.May w ∧ c = 0) ∨ (¬ DC.May w ∧ c = 8)) (h8 : (c != 0) = false) (ha : 0 ≤ at_) (hb2 : at_ < (w.ml.length : Int)) :
  Calls Tryz.prog 23 #[v, .agg #[.int .u8 3, .int .i64 n, .int .i64 at_, .string s]] W (IntIs 0 W) := by
 have HC := h! (fun (U : World) (hU : Below W.heap.size W U) => wcheck_any v w c U (H.below hU) F hc)
 have f3 := F.l3
 obtain ⟨A0, c0, A1, c1, A2, c2, A3, c3, A4, c4, xs, rfl, R⟩ := H
 obtain ⟨W0, hW0⟩ : ∃ W0, W0 = (W.alloc (.cells #[.slice A0 w.ms.length c0, .slice A1 w.vs.length c1, .slice A2 w.ts.length c2, .slice A3 w.ml.length c3, .slice A4 w.ch.length c4] 28)).alloc (.cells #[.int .u8 3, .int .i64 n, .int .i64 at_, .string s] 30) := ⟨_, rfl⟩
 have hb0 : Below W.heap.size W W0 := by rw [hW0]; exact ((Below.refl _ _).alloc n! _).alloc (by simp) _
 have hx0 : Box W0 W.heap.size 28 #[.slice A0 w.ms.length c0, .slice A1 w.vs.length c1, .slice A2 w.ts.length c2, .slice A3 w.ml.length c3, .slice A4 w.ch.length c4] := by rw [hW0]; exact (Box.new _ _ _).below ((Below.refl _ _).alloc n! _) (by simp)
 have hm0 : Box W0 (W.heap.size + 1) 30 #[.int .u8 3, .int .i64 n, .int .i64 at_, .string s] := by
  rw [hW0]
  have := Box.new (W.alloc (.cells #[.slice A0 w.ms.length c0, .slice A1 w.vs.length c1, .slice A2 w.ts.length c2, .slice A3 w.ml.length c3, .slice A4 w.ch.length c4] 28)) 30 #[.int .u8 3, .int .i64 n, .int .i64 at_, .string s]
  rwa [show (W.alloc (.cells #[.slice A0 w.ms.length c0, .slice A1 w.vs.length c1, .slice A2 w.ts.length c2, .slice A3 w.ml.length c3, .slice A4 w.ch.length c4] 28)).heap.size = W.heap.size + 1 by simp] at this
 have HB0 := h! hb0
 have HX0 := h! hx0
 have HM0 := h! hm0
 clear R F hc hb0 hx0 hm0
 go_enter Tryz.func23, Tryz.ntmps23
 go_wp2_with fail
 rw [← hW0]
 refine (HC.out _ HB0.out).mono ?_
 rintro e w1 ⟨rfl, hb⟩
 have HB1 := h! (bmore HB0.out hb n!)
 obtain ⟨⟨x0, x1, x2, x3, x4⟩, _⟩ := (HX0.out.below hb HX0.out.lt).five
 have hm1 := HM0.out.below hb HM0.out.lt
 have m0 := hm1.cell 0
 have m1 := hm1.cell 1
 have m2 := hm1.cell 2
 have m3 := hm1.cell 3
 simp at m0 m1 m2 m3
 clear hb hm1 hW0 HX0 HM0 HC HB0 x0 x1 x2 x4
 go_wp2_with fail
 go_ret
 exact ⟨rfl, HB1.out⟩
set_option maxRecDepth 100000 in
set_option maxHeartbeats 4000000 in
theorem wrong_a4 (v : Value) (w : DC.Wd) (c : Int) (n at_ : Int) (s : ByteArray) (W : World) (H : WIs W v w) (F : WFit w) (hc : (DC.May w ∧ c = 0) ∨ (¬ DC.May w ∧ c = 8)) (h8 : (c != 0) = false) (ha : at_ < 0) :
  Calls Tryz.prog 23 #[v, .agg #[.int .u8 4, .int .i64 n, .int .i64 at_, .string s]] W (IntIs 6 W) := by
 have HC := h! (fun (U : World) (hU : Below W.heap.size W U) => wcheck_any v w c U (H.below hU) F hc)
 have f3 := F.l3
 obtain ⟨A0, c0, A1, c1, A2, c2, A3, c3, A4, c4, xs, rfl, R⟩ := H
 obtain ⟨W0, hW0⟩ : ∃ W0, W0 = (W.alloc (.cells #[.slice A0 w.ms.length c0, .slice A1 w.vs.length c1, .slice A2 w.ts.length c2, .slice A3 w.ml.length c3, .slice A4 w.ch.length c4] 28)).alloc (.cells #[.int .u8 4, .int .i64 n, .int .i64 at_, .string s] 30) := ⟨_, rfl⟩
 have hb0 : Below W.heap.size W W0 := by rw [hW0]; exact ((Below.refl _ _).alloc n! _).alloc (by simp) _
 have hx0 : Box W0 W.heap.size 28 #[.slice A0 w.ms.length c0, .slice A1 w.vs.length c1, .slice A2 w.ts.length c2, .slice A3 w.ml.length c3, .slice A4 w.ch.length c4] := by rw [hW0]; exact (Box.new _ _ _).below ((Below.refl _ _).alloc n! _) (by simp)
 have hm0 : Box W0 (W.heap.size + 1) 30 #[.int .u8 4, .int .i64 n, .int .i64 at_, .string s] := by
  rw [hW0]
  have := Box.new (W.alloc (.cells #[.slice A0 w.ms.length c0, .slice A1 w.vs.length c1, .slice A2 w.ts.length c2, .slice A3 w.ml.length c3, .slice A4 w.ch.length c4] 28)) 30 #[.int .u8 4, .int .i64 n, .int .i64 at_, .string s]
  rwa [show (W.alloc (.cells #[.slice A0 w.ms.length c0, .slice A1 w.vs.length c1, .slice A2 w.ts.length c2, .slice A3 w.ml.length c3, .slice A4 w.ch.length c4] 28)).heap.size = W.heap.size + 1 by simp] at this
 have HB0 := h! hb0
 have HX0 := h! hx0
 have HM0 := h! hm0
 clear R F hc hb0 hx0 hm0
 go_enter Tryz.func23, Tryz.ntmps23
 go_wp2_with fail
 rw [← hW0]
 refine (HC.out _ HB0.out).mono ?_
 rintro e w1 ⟨rfl, hb⟩
 have HB1 := h! (bmore HB0.out hb n!)
 obtain ⟨⟨x0, x1, x2, x3, x4⟩, _⟩ := (HX0.out.below hb HX0.out.lt).five
 have hm1 := HM0.out.below hb HM0.out.lt
 have m0 := hm1.cell 0
 have m1 := hm1.cell 1
 have m2 := hm1.cell 2
 have m3 := hm1.cell 3
 simp at m0 m1 m2 m3
 clear hb hm1 hW0 HX0 HM0 HC HB0 x0 x1 x2 x4
 go_wp2_with fail
 go_ret
 exact ⟨rfl, HB1.out⟩
set_option maxRecDepth 100000 in
set_option maxHeartbeats 4000000 in
theorem wrong_b4 (v : Value) (w : DC.Wd) (c : Int) (n at_ : Int) (s : ByteArray) (W : World) (H : WIs W v w) (F : WFit w) (hc : (DC.May w ∧ c = 0) ∨ (¬ DC.May w ∧ c = 8)) (h8 : (c != 0) = false) (ha : 0 ≤ at_) (hb2 : (w.ml.length : Int) ≤ at_) :
  Calls Tryz.prog 23 #[v, .agg #[.int .u8 4, .int .i64 n, .int .i64 at_, .string s]] W (IntIs 6 W) := by
 have HC := h! (fun (U : World) (hU : Below W.heap.size W U) => wcheck_any v w c U (H.below hU) F hc)
 have f3 := F.l3
 obtain ⟨A0, c0, A1, c1, A2, c2, A3, c3, A4, c4, xs, rfl, R⟩ := H
 obtain ⟨W0, hW0⟩ : ∃ W0, W0 = (W.alloc (.cells #[.slice A0 w.ms.length c0, .slice A1 w.vs.length c1, .slice A2 w.ts.length c2, .slice A3 w.ml.length c3, .slice A4 w.ch.length c4] 28)).alloc (.cells #[.int .u8 4, .int .i64 n, .int .i64 at_, .string s] 30) := ⟨_, rfl⟩
 have hb0 : Below W.heap.size W W0 := by rw [hW0]; exact ((Below.refl _ _).alloc n! _).alloc (by simp) _
 have hx0 : Box W0 W.heap.size 28 #[.slice A0 w.ms.length c0, .slice A1 w.vs.length c1, .slice A2 w.ts.length c2, .slice A3 w.ml.length c3, .slice A4 w.ch.length c4] := by rw [hW0]; exact (Box.new _ _ _).below ((Below.refl _ _).alloc n! _) (by simp)
 have hm0 : Box W0 (W.heap.size + 1) 30 #[.int .u8 4, .int .i64 n, .int .i64 at_, .string s] := by
  rw [hW0]
  have := Box.new (W.alloc (.cells #[.slice A0 w.ms.length c0, .slice A1 w.vs.length c1, .slice A2 w.ts.length c2, .slice A3 w.ml.length c3, .slice A4 w.ch.length c4] 28)) 30 #[.int .u8 4, .int .i64 n, .int .i64 at_, .string s]
  rwa [show (W.alloc (.cells #[.slice A0 w.ms.length c0, .slice A1 w.vs.length c1, .slice A2 w.ts.length c2, .slice A3 w.ml.length c3, .slice A4 w.ch.length c4] 28)).heap.size = W.heap.size + 1 by simp] at this
 have HB0 := h! hb0
 have HX0 := h! hx0
 have HM0 := h! hm0
 clear R F hc hb0 hx0 hm0
 go_enter Tryz.func23, Tryz.ntmps23
 go_wp2_with fail
 rw [← hW0]
 refine (HC.out _ HB0.out).mono ?_
 rintro e w1 ⟨rfl, hb⟩
 have HB1 := h! (bmore HB0.out hb n!)
 obtain ⟨⟨x0, x1, x2, x3, x4⟩, _⟩ := (HX0.out.below hb HX0.out.lt).five
 have hm1 := HM0.out.below hb HM0.out.lt
 have m0 := hm1.cell 0
 have m1 := hm1.cell 1
 have m2 := hm1.cell 2
 have m3 := hm1.cell 3
 simp at m0 m1 m2 m3
 clear hb hm1 hW0 HX0 HM0 HC HB0 x0 x1 x2 x4
 go_wp2_with fail
 go_ret
 exact ⟨rfl, HB1.out⟩
set_option maxRecDepth 100000 in
set_option maxHeartbeats 4000000 in
theorem wrong_y4 (v : Value) (w : DC.Wd) (c : Int) (n at_ : Int) (s : ByteArray) (W : World) (H : WIs W v w) (F : WFit w) (hc : (DC.May w ∧ c = 0) ∨ (¬ DC.May w ∧ c = 8)) (h8 : (c != 0) = false) (ha : 0 ≤ at_) (hb2 : at_ < (w.ml.length : Int)) :
  Calls Tryz.prog 23 #[v, .agg #[.int .u8 4, .int .i64 n, .int .i64 at_, .string s]] W (IntIs 0 W) := by
 have HC := h! (fun (U : World) (hU : Below W.heap.size W U) => wcheck_any v w c U (H.below hU) F hc)
 have f3 := F.l3
 obtain ⟨A0, c0, A1, c1, A2, c2, A3, c3, A4, c4, xs, rfl, R⟩ := H
 obtain ⟨W0, hW0⟩ : ∃ W0, W0 = (W.alloc (.cells #[.slice A0 w.ms.length c0, .slice A1 w.vs.length c1, .slice A2 w.ts.length c2, .slice A3 w.ml.length c3, .slice A4 w.ch.length c4] 28)).alloc (.cells #[.int .u8 4, .int .i64 n, .int .i64 at_, .string s] 30) := ⟨_, rfl⟩
 have hb0 : Below W.heap.size W W0 := by rw [hW0]; exact ((Below.refl _ _).alloc n! _).alloc (by simp) _
 have hx0 : Box W0 W.heap.size 28 #[.slice A0 w.ms.length c0, .slice A1 w.vs.length c1, .slice A2 w.ts.length c2, .slice A3 w.ml.length c3, .slice A4 w.ch.length c4] := by rw [hW0]; exact (Box.new _ _ _).below ((Below.refl _ _).alloc n! _) (by simp)
 have hm0 : Box W0 (W.heap.size + 1) 30 #[.int .u8 4, .int .i64 n, .int .i64 at_, .string s] := by
  rw [hW0]
  have := Box.new (W.alloc (.cells #[.slice A0 w.ms.length c0, .slice A1 w.vs.length c1, .slice A2 w.ts.length c2, .slice A3 w.ml.length c3, .slice A4 w.ch.length c4] 28)) 30 #[.int .u8 4, .int .i64 n, .int .i64 at_, .string s]
  rwa [show (W.alloc (.cells #[.slice A0 w.ms.length c0, .slice A1 w.vs.length c1, .slice A2 w.ts.length c2, .slice A3 w.ml.length c3, .slice A4 w.ch.length c4] 28)).heap.size = W.heap.size + 1 by simp] at this
 have HB0 := h! hb0
 have HX0 := h! hx0
 have HM0 := h! hm0
 clear R F hc hb0 hx0 hm0
 go_enter Tryz.func23, Tryz.ntmps23
 go_wp2_with fail
 rw [← hW0]
 refine (HC.out _ HB0.out).mono ?_
 rintro e w1 ⟨rfl, hb⟩
 have HB1 := h! (bmore HB0.out hb n!)
 obtain ⟨⟨x0, x1, x2, x3, x4⟩, _⟩ := (HX0.out.below hb HX0.out.lt).five
 have hm1 := HM0.out.below hb HM0.out.lt
 have m0 := hm1.cell 0
 have m1 := hm1.cell 1
 have m2 := hm1.cell 2
 have m3 := hm1.cell 3
 simp at m0 m1 m2 m3
 clear hb hm1 hW0 HX0 HM0 HC HB0 x0 x1 x2 x4
 go_wp2_with fail
 go_ret
 exact ⟨rfl, HB1.out⟩
theorem wrong_ok (v : Value) (w : DC.Wd) (k n at_ : Int) (s : ByteArray) (W : World) (H : WIs W v w) (F : WFit w) (hm : DC.May w) (k0 : 0 ≤ k) (k255 : k ≤ 255) (hs : s.size ≤ maxLen) :
  Calls Tryz.prog 23 #[v, .agg #[.int .u8 k, .int .i64 n, .int .i64 at_, .string s]] W (IntIs (wrg w k n at_ s) W) := by
 have hc : (DC.May w ∧ (0 : Int) = 0) ∨ (¬ DC.May w ∧ (0 : Int) = 8) := .inl ⟨hm, rfl⟩
 unfold wrg
 by_cases h1 : 1 ≤ k ∧ k ≤ 5
 ·rw [if_neg (by simpa using h1)]
  by_cases h2 : k = 1 ∨ k = 5
  ·rw [if_pos h2]
   by_cases hn : DC.isNode n
   ·rw [if_neg (by simpa using hn)]
    rcases h2 with rfl | rfl
    ·by_cases h3 : 1024 < s.size
     ·rw [if_pos ⟨rfl, h3⟩]
      exact wrong_t1 v w 0 n at_ s W H F hc rfl hn h3 hs
     ·rw [if_neg (fun h => h3 h.2)]
      exact wrong_y1 v w 0 n at_ s W H F hc rfl hn (by omega)
    ·rw [if_neg (fun h => absurd h.1 (by decide))]
     exact wrong_y5 v w 0 n at_ s W H F hc rfl hn
   ·rw [if_pos hn]
    rcases h2 with rfl | rfl
    ·exact wrong_n1 v w 0 n at_ s W H F hc rfl hn
    ·exact wrong_n5 v w 0 n at_ s W H F hc rfl hn
  ·rw [if_neg h2]
   have h3 : k = 2 ∨ k = 3 ∨ k = 4 := by omega
   by_cases ha : at_ < 0
   ·rw [if_pos (.inl ha)]
    rcases h3 with rfl | rfl | rfl
    ·exact wrong_a2 v w 0 n at_ s W H F hc rfl ha
    ·exact wrong_a3 v w 0 n at_ s W H F hc rfl ha
    ·exact wrong_a4 v w 0 n at_ s W H F hc rfl ha
   ·by_cases hb : (w.ml.length : Int) ≤ at_
    ·rw [if_pos (.inr hb)]
     rcases h3 with rfl | rfl | rfl
     ·exact wrong_b2 v w 0 n at_ s W H F hc rfl (by omega) hb
     ·exact wrong_b3 v w 0 n at_ s W H F hc rfl (by omega) hb
     ·exact wrong_b4 v w 0 n at_ s W H F hc rfl (by omega) hb
    ·rw [if_neg (by omega)]
     rcases h3 with rfl | rfl | rfl
     ·exact wrong_y2 v w 0 n at_ s W H F hc rfl (by omega) (by omega)
     ·exact wrong_y3 v w 0 n at_ s W H F hc rfl (by omega) (by omega)
     ·exact wrong_y4 v w 0 n at_ s W H F hc rfl (by omega) (by omega)
 ·rw [if_pos h1]
  exact wrong_else v w 0 k n at_ s W H F hc rfl (by simp; omega) (by simp; omega) (by simp; omega) (by simp; omega) (by simp; omega) k0 k255
theorem wrong_not (v : Value) (w : DC.Wd) (k n at_ : Int) (s : ByteArray) (W : World) (H : WIs W v w) (F : WFit w) (hm : ¬ DC.May w) :
  Calls Tryz.prog 23 #[v, .agg #[.int .u8 k, .int .i64 n, .int .i64 at_, .string s]] W (IntIs 8 W) :=
 wrong_bad v w 8 k n at_ s W H F (.inr ⟨hm, rfl⟩) rfl
end Go.Proofs.YtiiobafcgdelmaaGreat.PD
