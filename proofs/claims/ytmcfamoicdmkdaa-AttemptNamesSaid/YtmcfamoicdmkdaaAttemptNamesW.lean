/-
  AttemptNames' walk: the chapter's examples, one call behind the other. No input.
-/
import Derived.Test.YtmcfamoicdmkdaaAttAlive
namespace Go.Proofs.Ytmcfamoicdmkdaa
open Go.RowKit
set_option linter.unusedVariables false
set_option linter.unusedSimpArgs false

theorem info_bytes : (Try.prog.info? 5).map (fun i => (i.zero, i.size, i.bytes)) = some (some (.int .u8 0), 1, 1) := by kernel_rfl
def zeros : ByteArray := ⟨(List.replicate 1025 (0 : UInt8)).toArray⟩
theorem zeros_size : zeros.size = 1025 := by
  have : ∀ n, (⟨(List.replicate n (0 : UInt8)).toArray⟩ : ByteArray).size = n := fun n => by show (List.replicate n (0 : UInt8)).toArray.size = n; rw [List.size_toArray, List.length_replicate]
  exact this 1025
theorem siz_alloc (w : World) (o : Obj) : (w.alloc o).heap.size = w.heap.size + 1 := by simp
theorem aE1 : AM.BegIs [0, 1, 2] 7 ⟨#[119]⟩ 50 := .inr (.inl ⟨AM.chk_may.2 (by decide), by decide, rfl⟩)
theorem aE2 : AM.BegIs [] 17 ⟨#[119]⟩ 60 := .inl ⟨.inr (.inl ⟨by decide, by decide, rfl⟩), by decide⟩
theorem aE3 : AM.BegIs [0] 17 zeros 3 := .inr (.inr (.inl ⟨AM.chk_may.2 (by decide), by decide, by rw [zeros_size]; decide, rfl⟩))
theorem aR1 (b : Int) (p : AM.Pr) (h : AM.errP aA0 b p ≠ 0) : AM.prom aA0 b p = AM.zero := by unfold AM.prom; rw [if_neg h]
theorem aR2 (b x : Int) (h : AM.errA aA0 b x ≠ 0) : AM.acc aA0 b x = AM.zero := by unfold AM.acc; rw [if_neg h]
theorem rd_zero1 (w : World) : Rd (w.alloc (.cells #[.int .i64 0] 3)) (some ⟨w.heap.size, 0, none⟩) 1 (ic [0]) := rd_box (Box.new _ _ _) rfl rfl

set_option maxRecDepth 100000 in
set_option maxHeartbeats 4000000 in
theorem attemptNames_walk (w : World) : Calls Try.prog 3 #[] w fun e w' => e = .returned (.bool true) ∧ Below w.heap.size w w' := by
  obtain ⟨i0, hi, hz0, hz1, hz2⟩ := info_parts info_bytes
  have HI : Hid ((Try.prog.info? 5) = some i0 ∧ i0.zero = some (.int .u8 0) ∧ i0.size = 1 ∧ i0.bytes = 1) := Lib.hid ⟨hi, hz0, hz1, hz2⟩
  clear hi hz0 hz1 hz2
  have BB := Lib.hid (Below.refl w.heap.size w)
  go_enter Try.func3, Try.ntmps3
  skip
  have HC := Lib.hid (begun_any w)
  go_wp2_with fail
  refine HC.out.mono ?_
  rintro e w1 ⟨v, rfl, own, hb⟩
  clear HC
  change AtOwn _ _ _ aA0 at own
  obtain ⟨A1, c1, D1, q1, C1, f1, rfl⟩ := own.form
  simp only [aA0, List.length_cons, List.length_nil, Nat.zero_add, Nat.reduceAdd] at own ⊢
  change AtOwn _ _ (.agg #[.int .u8 1, .int .i64 17, .slice A1 3 c1, .string ⟨#[119]⟩, .string ⟨#[]⟩, .slice D1 0 q1, .slice C1 0 f1]) aA0 at own
  have hb2 : Below w.heap.size w (w1.alloc (.cells #[.int .u8 1, .int .i64 17, .slice A1 3 c1, .string ⟨#[119]⟩, .string ⟨#[]⟩, .slice D1 0 q1, .slice C1 0 f1] 25)) := hb.alloc hb.size _
  replace BB := Lib.hid (bmore BB.out hb2 (Nat.le_refl _))
  have X1 := Lib.hid (Box.new w1 25 #[.int .u8 1, .int .i64 17, .slice A1 3 c1, .string ⟨#[119]⟩, .string ⟨#[]⟩, .slice D1 0 q1, .slice C1 0 f1])
  have I1 := Lib.hid (own.is.alloc (.cells #[.int .u8 1, .int .i64 17, .slice A1 3 c1, .string ⟨#[119]⟩, .string ⟨#[]⟩, .slice D1 0 q1, .slice C1 0 f1] 25))
  clear hb hb2 own
  go_upto_region 2 with (fail)
  generalize w1.alloc (.cells #[.int .u8 1, .int .i64 17, .slice A1 3 c1, .string ⟨#[119]⟩, .string ⟨#[]⟩, .slice D1 0 q1, .slice C1 0 f1] 25) = u1 at X1 I1 BB ⊢
  generalize w1.heap.size = g1 at X1 ⊢
  have HC := Lib.hid (prom_any _ aA0 17 ⟨0, 0, ⟨#[]⟩⟩ _ I1.out fitA0 (fitQ 0 0 ⟨#[]⟩ (by decide) (by decide) (by decide)))
  rw [aP1.1, aP1.2] at HC
  obtain ⟨⟨t0, t1, t2, t3, t4, t5, t6⟩, _⟩ := X1.out.seven
  go_wp2_with fail
  clear t0 t1 t2 t3 t4 t5 t6
  refine HC.out.mono ?_
  rintro e w2 ⟨v, rfl, own, hb⟩
  clear HC
  change AtOwn _ _ _ aA1 at own
  obtain ⟨A2, c2, D2, q2, C2, f2, rfl⟩ := own.form
  simp only [aA1, List.length_cons, List.length_nil, Nat.zero_add, Nat.reduceAdd] at own ⊢
  change AtOwn _ _ (.agg #[.int .u8 1, .int .i64 17, .slice A2 3 c2, .string ⟨#[119]⟩, .string ⟨#[]⟩, .slice D2 1 q2, .slice C2 0 f2]) aA1 at own
  have hb2 : Below u1.heap.size u1 (w2.alloc (.cells #[.int .u8 1, .int .i64 17, .slice A2 3 c2, .string ⟨#[119]⟩, .string ⟨#[]⟩, .slice D2 1 q2, .slice C2 0 f2] 25)) := hb.alloc hb.size _
  replace X1 := Lib.hid (X1.out.below hb2 X1.out.lt)
  replace I1 := Lib.hid (I1.out.below hb2)
  replace BB := Lib.hid (bmore BB.out hb2 (Nat.le_refl _))
  have X2 := Lib.hid (Box.new w2 25 #[.int .u8 1, .int .i64 17, .slice A2 3 c2, .string ⟨#[119]⟩, .string ⟨#[]⟩, .slice D2 1 q2, .slice C2 0 f2])
  have I2 := Lib.hid (own.is.alloc (.cells #[.int .u8 1, .int .i64 17, .slice A2 3 c2, .string ⟨#[119]⟩, .string ⟨#[]⟩, .slice D2 1 q2, .slice C2 0 f2] 25))
  clear hb hb2 own
  go_upto_region 3 with (fail)
  generalize w2.alloc (.cells #[.int .u8 1, .int .i64 17, .slice A2 3 c2, .string ⟨#[119]⟩, .string ⟨#[]⟩, .slice D2 1 q2, .slice C2 0 f2] 25) = u2 at X1 I1 X2 I2 BB ⊢
  generalize w2.heap.size = g2 at X2 ⊢
  have HC := Lib.hid (told_any u2)
  go_wp2_with fail
  refine HC.out.mono ?_
  rintro e w3 ⟨v, rfl, own, hb⟩
  clear HC
  change AtOwn _ _ _ aA2 at own
  obtain ⟨A3, c3, D3, q3, C3, f3, rfl⟩ := own.form
  simp only [aA2, List.length_cons, List.length_nil, Nat.zero_add, Nat.reduceAdd] at own ⊢
  change AtOwn _ _ (.agg #[.int .u8 2, .int .i64 17, .slice A3 3 c3, .string ⟨#[119]⟩, .string ⟨#[120]⟩, .slice D3 2 q3, .slice C3 0 f3]) aA2 at own
  have hb2 : Below u2.heap.size u2 (w3.alloc (.cells #[.int .u8 2, .int .i64 17, .slice A3 3 c3, .string ⟨#[119]⟩, .string ⟨#[120]⟩, .slice D3 2 q3, .slice C3 0 f3] 25)) := hb.alloc hb.size _
  replace X1 := Lib.hid (X1.out.below hb2 X1.out.lt)
  replace I1 := Lib.hid (I1.out.below hb2)
  replace X2 := Lib.hid (X2.out.below hb2 X2.out.lt)
  replace I2 := Lib.hid (I2.out.below hb2)
  replace BB := Lib.hid (bmore BB.out hb2 (Nat.le_refl _))
  have X3 := Lib.hid (Box.new w3 25 #[.int .u8 2, .int .i64 17, .slice A3 3 c3, .string ⟨#[119]⟩, .string ⟨#[120]⟩, .slice D3 2 q3, .slice C3 0 f3])
  have I3 := Lib.hid (own.is.alloc (.cells #[.int .u8 2, .int .i64 17, .slice A3 3 c3, .string ⟨#[119]⟩, .string ⟨#[120]⟩, .slice D3 2 q3, .slice C3 0 f3] 25))
  clear hb hb2 own
  go_upto_region 4 with (fail)
  generalize w3.alloc (.cells #[.int .u8 2, .int .i64 17, .slice A3 3 c3, .string ⟨#[119]⟩, .string ⟨#[120]⟩, .slice D3 2 q3, .slice C3 0 f3] 25) = u3 at X1 I1 X2 I2 X3 I3 BB ⊢
  generalize w3.heap.size = g3 at X3 ⊢
  have HC := Lib.hid (accd_any _ aA2 17 1 _ I3.out fitA2)
  rw [aP3.1, aP3.2] at HC
  obtain ⟨⟨t0, t1, t2, t3, t4, t5, t6⟩, _⟩ := X3.out.seven
  go_wp2_with fail
  clear t0 t1 t2 t3 t4 t5 t6
  refine HC.out.mono ?_
  rintro e w4 ⟨v, rfl, own, hb⟩
  clear HC
  change AtOwn _ _ _ aA3 at own
  obtain ⟨A4, c4, D4, q4, C4, f4, rfl⟩ := own.form
  simp only [aA3, List.length_cons, List.length_nil, Nat.zero_add, Nat.reduceAdd] at own ⊢
  change AtOwn _ _ (.agg #[.int .u8 2, .int .i64 17, .slice A4 3 c4, .string ⟨#[119]⟩, .string ⟨#[120]⟩, .slice D4 2 q4, .slice C4 1 f4]) aA3 at own
  have hb2 : Below u3.heap.size u3 (w4.alloc (.cells #[.int .u8 2, .int .i64 17, .slice A4 3 c4, .string ⟨#[119]⟩, .string ⟨#[120]⟩, .slice D4 2 q4, .slice C4 1 f4] 25)) := hb.alloc hb.size _
  replace X1 := Lib.hid (X1.out.below hb2 X1.out.lt)
  replace I1 := Lib.hid (I1.out.below hb2)
  replace X2 := Lib.hid (X2.out.below hb2 X2.out.lt)
  replace I2 := Lib.hid (I2.out.below hb2)
  replace X3 := Lib.hid (X3.out.below hb2 X3.out.lt)
  replace I3 := Lib.hid (I3.out.below hb2)
  replace BB := Lib.hid (bmore BB.out hb2 (Nat.le_refl _))
  have X4 := Lib.hid (Box.new w4 25 #[.int .u8 2, .int .i64 17, .slice A4 3 c4, .string ⟨#[119]⟩, .string ⟨#[120]⟩, .slice D4 2 q4, .slice C4 1 f4])
  have I4 := Lib.hid (own.is.alloc (.cells #[.int .u8 2, .int .i64 17, .slice A4 3 c4, .string ⟨#[119]⟩, .string ⟨#[120]⟩, .slice D4 2 q4, .slice C4 1 f4] 25))
  clear hb hb2 own
  go_upto_region 5 with (fail)
  generalize w4.alloc (.cells #[.int .u8 2, .int .i64 17, .slice A4 3 c4, .string ⟨#[119]⟩, .string ⟨#[120]⟩, .slice D4 2 q4, .slice C4 1 f4] 25) = u4 at X1 I1 X2 I2 X3 I3 X4 I4 BB ⊢
  generalize w4.heap.size = g4 at X4 ⊢
  have HC := Lib.hid (accd_any _ aA3 17 2 _ I4.out fitA3)
  rw [aP4.1, aP4.2] at HC
  obtain ⟨⟨t0, t1, t2, t3, t4, t5, t6⟩, _⟩ := X4.out.seven
  go_wp2_with fail
  clear t0 t1 t2 t3 t4 t5 t6
  refine HC.out.mono ?_
  rintro e w5 ⟨v, rfl, own, hb⟩
  clear HC
  change AtOwn _ _ _ aA4 at own
  obtain ⟨A5, c5, D5, q5, C5, f5, rfl⟩ := own.form
  simp only [aA4, List.length_cons, List.length_nil, Nat.zero_add, Nat.reduceAdd] at own ⊢
  change AtOwn _ _ (.agg #[.int .u8 3, .int .i64 17, .slice A5 3 c5, .string ⟨#[119]⟩, .string ⟨#[120]⟩, .slice D5 2 q5, .slice C5 2 f5]) aA4 at own
  have hb2 : Below u4.heap.size u4 (w5.alloc (.cells #[.int .u8 3, .int .i64 17, .slice A5 3 c5, .string ⟨#[119]⟩, .string ⟨#[120]⟩, .slice D5 2 q5, .slice C5 2 f5] 25)) := hb.alloc hb.size _
  replace X1 := Lib.hid (X1.out.below hb2 X1.out.lt)
  replace I1 := Lib.hid (I1.out.below hb2)
  replace X2 := Lib.hid (X2.out.below hb2 X2.out.lt)
  replace I2 := Lib.hid (I2.out.below hb2)
  replace X3 := Lib.hid (X3.out.below hb2 X3.out.lt)
  replace I3 := Lib.hid (I3.out.below hb2)
  replace X4 := Lib.hid (X4.out.below hb2 X4.out.lt)
  replace I4 := Lib.hid (I4.out.below hb2)
  replace BB := Lib.hid (bmore BB.out hb2 (Nat.le_refl _))
  have X5 := Lib.hid (Box.new w5 25 #[.int .u8 3, .int .i64 17, .slice A5 3 c5, .string ⟨#[119]⟩, .string ⟨#[120]⟩, .slice D5 2 q5, .slice C5 2 f5])
  have I5 := Lib.hid (own.is.alloc (.cells #[.int .u8 3, .int .i64 17, .slice A5 3 c5, .string ⟨#[119]⟩, .string ⟨#[120]⟩, .slice D5 2 q5, .slice C5 2 f5] 25))
  clear hb hb2 own
  go_upto_region 6 with (fail)
  generalize w5.alloc (.cells #[.int .u8 3, .int .i64 17, .slice A5 3 c5, .string ⟨#[119]⟩, .string ⟨#[120]⟩, .slice D5 2 q5, .slice C5 2 f5] 25) = u5 at X1 I1 X2 I2 X3 I3 X4 I4 X5 I5 BB ⊢
  generalize w5.heap.size = g5 at X5 ⊢
  have HC := Lib.hid (prom_any _ aA0 16 ⟨0, 0, ⟨#[]⟩⟩ _ I1.out fitA0 (fitQ 0 0 ⟨#[]⟩ (by decide) (by decide) (by decide)))
  rw [aR1 16 ⟨0, 0, ⟨#[]⟩⟩ (by rw [aQ1.1]; decide), aQ1.1] at HC
  obtain ⟨⟨t0, t1, t2, t3, t4, t5, t6⟩, _⟩ := X1.out.seven
  go_wp2_with fail
  clear t0 t1 t2 t3 t4 t5 t6
  refine HC.out.mono ?_
  rintro e w6 ⟨v, rfl, own, hb⟩
  clear HC
  change AtOwn _ _ _ AM.zero at own
  obtain ⟨A6, c6, D6, q6, C6, f6, rfl⟩ := own.form
  simp only [AM.zero, List.length_cons, List.length_nil, Nat.zero_add, Nat.reduceAdd] at own ⊢
  change AtOwn _ _ (.agg #[.int .u8 0, .int .i64 0, .slice A6 0 c6, .string .empty, .string .empty, .slice D6 0 q6, .slice C6 0 f6]) AM.zero at own
  have hb2 : Below u5.heap.size u5 (w6.alloc (.cells #[.int .u8 0, .int .i64 0, .slice A6 0 c6, .string .empty, .string .empty, .slice D6 0 q6, .slice C6 0 f6] 25)) := hb.alloc hb.size _
  replace X1 := Lib.hid (X1.out.below hb2 X1.out.lt)
  replace I1 := Lib.hid (I1.out.below hb2)
  replace X2 := Lib.hid (X2.out.below hb2 X2.out.lt)
  replace I2 := Lib.hid (I2.out.below hb2)
  replace X3 := Lib.hid (X3.out.below hb2 X3.out.lt)
  replace I3 := Lib.hid (I3.out.below hb2)
  replace X4 := Lib.hid (X4.out.below hb2 X4.out.lt)
  replace I4 := Lib.hid (I4.out.below hb2)
  replace X5 := Lib.hid (X5.out.below hb2 X5.out.lt)
  replace I5 := Lib.hid (I5.out.below hb2)
  replace BB := Lib.hid (bmore BB.out hb2 (Nat.le_refl _))
  clear hb hb2 own
  go_upto_region 7 with (fail)
  generalize w6.alloc (.cells #[.int .u8 0, .int .i64 0, .slice A6 0 c6, .string .empty, .string .empty, .slice D6 0 q6, .slice C6 0 f6] 25) = u6 at X1 I1 X2 I2 X3 I3 X4 I4 X5 I5 BB ⊢
  have HC := Lib.hid (prom_any _ aA0 17 ⟨5, 0, ⟨#[]⟩⟩ _ I1.out fitA0 (fitQ 5 0 ⟨#[]⟩ (by decide) (by decide) (by decide)))
  rw [aR1 17 ⟨5, 0, ⟨#[]⟩⟩ (by rw [aQ1.2.1]; decide), aQ1.2.1] at HC
  obtain ⟨⟨t0, t1, t2, t3, t4, t5, t6⟩, _⟩ := X1.out.seven
  go_wp2_with fail
  clear t0 t1 t2 t3 t4 t5 t6
  refine HC.out.mono ?_
  rintro e w7 ⟨v, rfl, own, hb⟩
  clear HC
  change AtOwn _ _ _ AM.zero at own
  obtain ⟨A7, c7, D7, q7, C7, f7, rfl⟩ := own.form
  simp only [AM.zero, List.length_cons, List.length_nil, Nat.zero_add, Nat.reduceAdd] at own ⊢
  change AtOwn _ _ (.agg #[.int .u8 0, .int .i64 0, .slice A7 0 c7, .string .empty, .string .empty, .slice D7 0 q7, .slice C7 0 f7]) AM.zero at own
  have hb2 : Below u6.heap.size u6 (w7.alloc (.cells #[.int .u8 0, .int .i64 0, .slice A7 0 c7, .string .empty, .string .empty, .slice D7 0 q7, .slice C7 0 f7] 25)) := hb.alloc hb.size _
  replace X1 := Lib.hid (X1.out.below hb2 X1.out.lt)
  replace I1 := Lib.hid (I1.out.below hb2)
  replace X2 := Lib.hid (X2.out.below hb2 X2.out.lt)
  replace I2 := Lib.hid (I2.out.below hb2)
  replace X3 := Lib.hid (X3.out.below hb2 X3.out.lt)
  replace I3 := Lib.hid (I3.out.below hb2)
  replace X4 := Lib.hid (X4.out.below hb2 X4.out.lt)
  replace I4 := Lib.hid (I4.out.below hb2)
  replace X5 := Lib.hid (X5.out.below hb2 X5.out.lt)
  replace I5 := Lib.hid (I5.out.below hb2)
  replace BB := Lib.hid (bmore BB.out hb2 (Nat.le_refl _))
  clear hb hb2 own
  go_upto_region 8 with (fail)
  generalize w7.alloc (.cells #[.int .u8 0, .int .i64 0, .slice A7 0 c7, .string .empty, .string .empty, .slice D7 0 q7, .slice C7 0 f7] 25) = u7 at X1 I1 X2 I2 X3 I3 X4 I4 X5 I5 BB ⊢
  have HC := Lib.hid (accd_any _ aA0 17 0 _ I1.out fitA0)
  rw [aR2 17 0 (by rw [aQ1.2.2.1]; decide), aQ1.2.2.1] at HC
  obtain ⟨⟨t0, t1, t2, t3, t4, t5, t6⟩, _⟩ := X1.out.seven
  go_wp2_with fail
  clear t0 t1 t2 t3 t4 t5 t6
  refine HC.out.mono ?_
  rintro e w8 ⟨v, rfl, own, hb⟩
  clear HC
  change AtOwn _ _ _ AM.zero at own
  obtain ⟨A8, c8, D8, q8, C8, f8, rfl⟩ := own.form
  simp only [AM.zero, List.length_cons, List.length_nil, Nat.zero_add, Nat.reduceAdd] at own ⊢
  change AtOwn _ _ (.agg #[.int .u8 0, .int .i64 0, .slice A8 0 c8, .string .empty, .string .empty, .slice D8 0 q8, .slice C8 0 f8]) AM.zero at own
  have hb2 : Below u7.heap.size u7 (w8.alloc (.cells #[.int .u8 0, .int .i64 0, .slice A8 0 c8, .string .empty, .string .empty, .slice D8 0 q8, .slice C8 0 f8] 25)) := hb.alloc hb.size _
  replace X1 := Lib.hid (X1.out.below hb2 X1.out.lt)
  replace I1 := Lib.hid (I1.out.below hb2)
  replace X2 := Lib.hid (X2.out.below hb2 X2.out.lt)
  replace I2 := Lib.hid (I2.out.below hb2)
  replace X3 := Lib.hid (X3.out.below hb2 X3.out.lt)
  replace I3 := Lib.hid (I3.out.below hb2)
  replace X4 := Lib.hid (X4.out.below hb2 X4.out.lt)
  replace I4 := Lib.hid (I4.out.below hb2)
  replace X5 := Lib.hid (X5.out.below hb2 X5.out.lt)
  replace I5 := Lib.hid (I5.out.below hb2)
  replace BB := Lib.hid (bmore BB.out hb2 (Nat.le_refl _))
  clear hb hb2 own
  go_upto_region 9 with (fail)
  generalize w8.alloc (.cells #[.int .u8 0, .int .i64 0, .slice A8 0 c8, .string .empty, .string .empty, .slice D8 0 q8, .slice C8 0 f8] 25) = u8 at X1 I1 X2 I2 X3 I3 X4 I4 X5 I5 BB ⊢
  have HC := Lib.hid (prom_any _ aA0 17 ⟨0, 17, ⟨#[]⟩⟩ _ I1.out fitA0 (fitQ 0 17 ⟨#[]⟩ (by decide) (by decide) (by decide)))
  rw [aR1 17 ⟨0, 17, ⟨#[]⟩⟩ (by rw [aQ1.2.2.2]; decide), aQ1.2.2.2] at HC
  obtain ⟨⟨t0, t1, t2, t3, t4, t5, t6⟩, _⟩ := X1.out.seven
  go_wp2_with fail
  clear t0 t1 t2 t3 t4 t5 t6
  refine HC.out.mono ?_
  rintro e w9 ⟨v, rfl, own, hb⟩
  clear HC
  change AtOwn _ _ _ AM.zero at own
  obtain ⟨A9, c9, D9, q9, C9, f9, rfl⟩ := own.form
  simp only [AM.zero, List.length_cons, List.length_nil, Nat.zero_add, Nat.reduceAdd] at own ⊢
  change AtOwn _ _ (.agg #[.int .u8 0, .int .i64 0, .slice A9 0 c9, .string .empty, .string .empty, .slice D9 0 q9, .slice C9 0 f9]) AM.zero at own
  have hb2 : Below u8.heap.size u8 (w9.alloc (.cells #[.int .u8 0, .int .i64 0, .slice A9 0 c9, .string .empty, .string .empty, .slice D9 0 q9, .slice C9 0 f9] 25)) := hb.alloc hb.size _
  replace X1 := Lib.hid (X1.out.below hb2 X1.out.lt)
  replace I1 := Lib.hid (I1.out.below hb2)
  replace X2 := Lib.hid (X2.out.below hb2 X2.out.lt)
  replace I2 := Lib.hid (I2.out.below hb2)
  replace X3 := Lib.hid (X3.out.below hb2 X3.out.lt)
  replace I3 := Lib.hid (I3.out.below hb2)
  replace X4 := Lib.hid (X4.out.below hb2 X4.out.lt)
  replace I4 := Lib.hid (I4.out.below hb2)
  replace X5 := Lib.hid (X5.out.below hb2 X5.out.lt)
  replace I5 := Lib.hid (I5.out.below hb2)
  replace BB := Lib.hid (bmore BB.out hb2 (Nat.le_refl _))
  clear hb hb2 own
  go_upto_region 10 with (fail)
  generalize w9.alloc (.cells #[.int .u8 0, .int .i64 0, .slice A9 0 c9, .string .empty, .string .empty, .slice D9 0 q9, .slice C9 0 f9] 25) = u9 at X1 I1 X2 I2 X3 I3 X4 I4 X5 I5 BB ⊢
  have HC := Lib.hid (begin_any _ 3 3 [0, 1, 2] 7 ⟨#[119]⟩ 50 _ (rd_three u9) (by decide) (by decide) (by decide) (by decide) aE1)
  have hlit : Below u9.heap.size u9 (u9.alloc (.cells #[.int .i64 0, .int .i64 1, .int .i64 2] 3)) := (Below.refl _ _).alloc (Nat.le_refl _) _
  have HLT := Lib.hid hlit; clear hlit
  go_wp2_with fail
  refine HC.out.mono ?_
  rintro e w10 ⟨v, rfl, own, hb⟩
  clear HC
  replace hb := bmore HLT.out hb (Nat.le_refl _)
  clear HLT
  change AtOwn _ _ _ AM.zero at own
  obtain ⟨A10, c10, D10, q10, C10, f10, rfl⟩ := own.form
  simp only [AM.zero, List.length_cons, List.length_nil, Nat.zero_add, Nat.reduceAdd] at own ⊢
  change AtOwn _ _ (.agg #[.int .u8 0, .int .i64 0, .slice A10 0 c10, .string .empty, .string .empty, .slice D10 0 q10, .slice C10 0 f10]) AM.zero at own
  have hb2 : Below u9.heap.size u9 (w10.alloc (.cells #[.int .u8 0, .int .i64 0, .slice A10 0 c10, .string .empty, .string .empty, .slice D10 0 q10, .slice C10 0 f10] 25)) := hb.alloc hb.size _
  replace X1 := Lib.hid (X1.out.below hb2 X1.out.lt)
  replace I1 := Lib.hid (I1.out.below hb2)
  replace X2 := Lib.hid (X2.out.below hb2 X2.out.lt)
  replace I2 := Lib.hid (I2.out.below hb2)
  replace X3 := Lib.hid (X3.out.below hb2 X3.out.lt)
  replace I3 := Lib.hid (I3.out.below hb2)
  replace X4 := Lib.hid (X4.out.below hb2 X4.out.lt)
  replace I4 := Lib.hid (I4.out.below hb2)
  replace X5 := Lib.hid (X5.out.below hb2 X5.out.lt)
  replace I5 := Lib.hid (I5.out.below hb2)
  replace BB := Lib.hid (bmore BB.out hb2 (Nat.le_refl _))
  clear hb hb2 own
  go_upto_region 11 with (fail)
  generalize w10.alloc (.cells #[.int .u8 0, .int .i64 0, .slice A10 0 c10, .string .empty, .string .empty, .slice D10 0 q10, .slice C10 0 f10] 25) = u10 at X1 I1 X2 I2 X3 I3 X4 I4 X5 I5 BB ⊢
  have HC := Lib.hid (begin_any none 0 0 [] 17 ⟨#[119]⟩ 60 u10 Rd.nil (by decide) (by decide) (by decide) (by decide) aE2)
  go_wp2_with fail
  refine HC.out.mono ?_
  rintro e w11 ⟨v, rfl, own, hb⟩
  clear HC
  change AtOwn _ _ _ AM.zero at own
  obtain ⟨A11, c11, D11, q11, C11, f11, rfl⟩ := own.form
  simp only [AM.zero, List.length_cons, List.length_nil, Nat.zero_add, Nat.reduceAdd] at own ⊢
  change AtOwn _ _ (.agg #[.int .u8 0, .int .i64 0, .slice A11 0 c11, .string .empty, .string .empty, .slice D11 0 q11, .slice C11 0 f11]) AM.zero at own
  have hb2 : Below u10.heap.size u10 (w11.alloc (.cells #[.int .u8 0, .int .i64 0, .slice A11 0 c11, .string .empty, .string .empty, .slice D11 0 q11, .slice C11 0 f11] 25)) := hb.alloc hb.size _
  replace X1 := Lib.hid (X1.out.below hb2 X1.out.lt)
  replace I1 := Lib.hid (I1.out.below hb2)
  replace X2 := Lib.hid (X2.out.below hb2 X2.out.lt)
  replace I2 := Lib.hid (I2.out.below hb2)
  replace X3 := Lib.hid (X3.out.below hb2 X3.out.lt)
  replace I3 := Lib.hid (I3.out.below hb2)
  replace X4 := Lib.hid (X4.out.below hb2 X4.out.lt)
  replace I4 := Lib.hid (I4.out.below hb2)
  replace X5 := Lib.hid (X5.out.below hb2 X5.out.lt)
  replace I5 := Lib.hid (I5.out.below hb2)
  replace BB := Lib.hid (bmore BB.out hb2 (Nat.le_refl _))
  clear hb hb2 own
  go_upto_region 12 with (fail)
  generalize w11.alloc (.cells #[.int .u8 0, .int .i64 0, .slice A11 0 c11, .string .empty, .string .empty, .slice D11 0 q11, .slice C11 0 f11] 25) = u11 at X1 I1 X2 I2 X3 I3 X4 I4 X5 I5 BB ⊢
  obtain ⟨mk, hmk, hcv⟩ : ∃ mk : Array Value, (∀ W, (Instr.makeSlice 36 (.int .i64 1025) (.int .i64 1025)).run Try.prog W = .ok (.slice (some ⟨W.heap.size, 0, none⟩) 1025 1025) (W.alloc (.cells mk 5))) ∧ (∀ W g, Box W g 5 mk → (convert 36 9 (.slice (some ⟨g, 0, none⟩) 1025 1025)).run Try.prog W = .ok (.string zeros) W) := by
    refine ⟨_, fun W => run_make (P := Try.prog) W _ _ i0 _ Try.underlying36 HI.out.1 HI.out.2.1 .i64 .i64 1025 1025 (by omega) (by omega) (by rw [HI.out.2.2.2]; omega) (by omega), fun W g hb => ?_⟩
    refine run_string_of W _ _ 5 _ _ _ _ Try.underlying36 Try.underlying5 Try.underlying9 (rd_box hb ?_ ?_)
    · rw [HI.out.2.2.1]; show (madeCells (Value.int .u8 0).cells (1025 * 1)).toList = _; rw [Nat.mul_one, show (Value.int .u8 0).cells = #[Value.int .u8 0] from rfl, toList_madeCells_one]; unfold bc; rw [List.map_replicate]; rfl
    · unfold bc; simp
  have m1 := hcv ((u11.alloc (.cells #[.int .i64 0] 3)).alloc (.cells mk 5)) (u11.heap.size + 1) (Box.new_at _ (siz_alloc _ _))
  have HC := Lib.hid (begin_any _ 1 1 [0] 17 zeros 3 _ ((rd_zero1 u11).alloc (.cells mk 5)) (by decide) (by decide) (by decide) (by rw [zeros_size]; decide) aE3)
  have hlit : Below u11.heap.size u11 ((u11.alloc (.cells #[.int .i64 0] 3)).alloc (.cells mk 5)) := ((Below.refl _ _).alloc (Nat.le_refl _) _).alloc (by simp) _
  have HLT := Lib.hid hlit; clear hlit hcv
  go_wp2_with fail
  refine HC.out.mono ?_
  rintro e w12 ⟨v, rfl, own, hb⟩
  clear HC
  replace hb := bmore HLT.out hb (Nat.le_refl _)
  clear HLT m1 hmk
  change AtOwn _ _ _ AM.zero at own
  obtain ⟨A12, c12, D12, q12, C12, f12, rfl⟩ := own.form
  simp only [AM.zero, List.length_cons, List.length_nil, Nat.zero_add, Nat.reduceAdd] at own ⊢
  change AtOwn _ _ (.agg #[.int .u8 0, .int .i64 0, .slice A12 0 c12, .string .empty, .string .empty, .slice D12 0 q12, .slice C12 0 f12]) AM.zero at own
  have hb2 : Below u11.heap.size u11 (w12.alloc (.cells #[.int .u8 0, .int .i64 0, .slice A12 0 c12, .string .empty, .string .empty, .slice D12 0 q12, .slice C12 0 f12] 25)) := hb.alloc hb.size _
  replace X1 := Lib.hid (X1.out.below hb2 X1.out.lt)
  replace I1 := Lib.hid (I1.out.below hb2)
  replace X2 := Lib.hid (X2.out.below hb2 X2.out.lt)
  replace I2 := Lib.hid (I2.out.below hb2)
  replace X3 := Lib.hid (X3.out.below hb2 X3.out.lt)
  replace I3 := Lib.hid (I3.out.below hb2)
  replace X4 := Lib.hid (X4.out.below hb2 X4.out.lt)
  replace I4 := Lib.hid (I4.out.below hb2)
  replace X5 := Lib.hid (X5.out.below hb2 X5.out.lt)
  replace I5 := Lib.hid (I5.out.below hb2)
  replace BB := Lib.hid (bmore BB.out hb2 (Nat.le_refl _))
  clear hb hb2 own
  go_upto_region 13 with (fail)
  generalize w12.alloc (.cells #[.int .u8 0, .int .i64 0, .slice A12 0 c12, .string .empty, .string .empty, .slice D12 0 q12, .slice C12 0 f12] 25) = u12 at X1 I1 X2 I2 X3 I3 X4 I4 X5 I5 BB ⊢
  obtain ⟨⟨x20, x21, x22, x23, x24, x25, x26⟩, _⟩ := X2.out.seven
  obtain ⟨⟨x40, x41, x42, x43, x44, x45, x46⟩, _⟩ := X4.out.seven
  obtain ⟨⟨x50, x51, x52, x53, x54, x55, x56⟩, _⟩ := X5.out.seven
  go_wp2_with fail
  refine (alive_any u12).mono ?_
  rintro e wz ⟨rfl, hb⟩
  replace BB := Lib.hid (bmore BB.out hb (Nat.le_refl _))
  clear hb
  go_wp2_with fail
  go_ret
  exact ⟨rfl, BB.out⟩
end Go.Proofs.Ytmcfamoicdmkdaa
