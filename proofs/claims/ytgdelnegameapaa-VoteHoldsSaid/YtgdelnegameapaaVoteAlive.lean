/-
  The example that each statement of layer 7 begins with holds: three and alive. No input.
-/
import Derived.Test.YtgdelnegameapaaVoteA
import Derived.Deep.DeepCutAuto
namespace Go.Proofs.Ytgdelnegameapaa
open Go.RowKit
set_option linter.unusedVariables false

theorem good_8 : BM.good 8 := by unfold BM.good; omega
theorem good_17 : BM.good 17 := by unfold BM.good; omega
theorem va_1 : VM.PrepIs 0 0 .empty 8 8 0 .empty 0 := ⟨VM.wrong_zero.2 ⟨⟨.inl rfl, .inl ⟨rfl, rfl⟩⟩, good_8, by decide, by decide⟩, .inr ⟨rfl, rfl, rfl, rfl⟩⟩
theorem va_2 : VM.AccIs 8 0 .empty 8 ⟨#[120]⟩ 8 8 ⟨#[120]⟩ 0 := ⟨VM.wrong_zero.2 ⟨⟨.inr good_8, .inl ⟨rfl, rfl⟩⟩, good_8, by decide, by decide⟩, .inr ⟨rfl, rfl, rfl, rfl⟩⟩
theorem va_3 : VM.PrepIs 8 8 ⟨#[120]⟩ 17 17 8 ⟨#[120]⟩ 0 := ⟨VM.wrong_zero.2 ⟨⟨.inr good_8, .inr ⟨by decide, good_8, by decide, by decide⟩⟩, good_17, by decide, by decide⟩, .inr ⟨rfl, rfl, rfl, rfl⟩⟩
/-- a variable that was just laid with a call's answer -/
theorem var3 {w w1 : World} (hb : Below w.heap.size w w1) (T : TypeId) (a b c : Value) : Below w.heap.size w (w1.alloc (.cells #[a, b, c] T)) ∧ Box (w1.alloc (.cells #[a, b, c] T)) w1.heap.size T #[a, b, c] :=
  ⟨hb.alloc hb.size _, Box.new _ _ _⟩

set_option maxRecDepth 100000 in
set_option maxHeartbeats 2000000 in
theorem three_any (w : World) : Calls Try.prog 8 #[] w fun e w' => e = .returned (.tuple #[.agg #[.int .i64 17, .int .i64 8, .string ⟨#[120]⟩], .bool true]) ∧ Below w.heap.size w w' := by
  have hb0 : Below w.heap.size w (w.alloc (.cells #[.int .i64 0, .int .i64 0, .string .empty] 23)) := (Below.refl _ _).alloc (Nat.le_refl _) _
  have HB0 := Lib.hid hb0
  have R0 := Lib.hid (Box.new w 23 #[.int .i64 0, .int .i64 0, .string .empty])
  clear hb0
  go_enter Try.func8, Try.ntmps8
  go_wp2_with fail
  refine (prep_any _ (by omega) (by omega) (by omega) (by omega) (by decide) (by omega) (by omega) va_1).mono ?_
  rintro e w1 ⟨rfl, hb1⟩
  have R1 := Lib.hid ((R0.out.below hb1 R0.out.lt).alloc (.cells #[.int .i64 8, .int .i64 0, .string .empty] 23))
  have HV1 := Lib.hid (var3 hb1 23 (.int .i64 8) (.int .i64 0) (.string .empty))
  have HB1 := Lib.hid (bmore HB0.out HV1.out.1 (by simp))
  have hw : w.heap.size < w1.heap.size := by have := hb1.size; simp at this; omega
  clear hb1 HB0 R0
  obtain ⟨g, hg⟩ : ∃ g, w1.heap.size = g := ⟨_, rfl⟩
  rw [hg] at hw
  go_wp2_with fail
  refine (acc_any _ (by omega) (by omega) (by omega) (by omega) (by decide) (by omega) (by omega) (by decide) va_2).mono ?_
  rintro e w2 ⟨rfl, hb2⟩
  have y1 := HV1.out.2
  rw [hg] at y1
  have y2 := y1.below hb2 y1.lt
  have R2 := Lib.hid ((R1.out.below hb2 R1.out.lt).putFar3 (g' := g) (by omega) (.int .i64 8) (.int .i64 8) (.string ⟨#[120]⟩))
  have V2 := Lib.hid (y2.put3 (.int .i64 8) (.int .i64 8) (.string ⟨#[120]⟩))
  have HB2 := Lib.hid (below_put3 (bmore HB1.out hb2 (by simp)) (g := g) (by omega) (.int .i64 8) (.int .i64 8) (.string ⟨#[120]⟩))
  obtain ⟨c0, c1, c2, f0, f1, f2⟩ := y2.three
  clear hb2 y1 y2 HB1 R1 HV1 hg
  go_upto_region 3 with (fail)
  generalize (((w2.setCell ⟨g, 0, none⟩ (.int .i64 8)).setCell ⟨g, 1, none⟩ (.int .i64 8)).setCell ⟨g, 2, none⟩ (.string ⟨#[120]⟩)) = w3 at R2 V2 HB2 ⊢
  clear c0 c1 c2 f0 f1 f2
  obtain ⟨c0, c1, c2, f0, f1, f2⟩ := V2.out.three
  go_wp2_with fail
  clear c0 c1 c2 f0 f1 f2
  refine (prep_any _ (by omega) (by omega) (by omega) (by omega) (by decide) (by omega) (by omega) va_3).mono ?_
  rintro e w4 ⟨rfl, hb2⟩
  have y2 := V2.out.below hb2 V2.out.lt
  have R4 := Lib.hid ((R2.out.below hb2 R2.out.lt).putFar3 (g' := g) (by omega) (.int .i64 17) (.int .i64 8) (.string ⟨#[120]⟩))
  have V4 := Lib.hid (y2.put3 (.int .i64 17) (.int .i64 8) (.string ⟨#[120]⟩))
  have HB4 := Lib.hid (below_put3 (bmore HB2.out hb2 (Nat.le_refl _)) (g := g) (by omega) (.int .i64 17) (.int .i64 8) (.string ⟨#[120]⟩))
  obtain ⟨c0, c1, c2, f0, f1, f2⟩ := y2.three
  clear hb2 y2 HB2 R2 V2
  go_upto_region 4 with (fail)
  generalize (((w4.setCell ⟨g, 0, none⟩ (.int .i64 17)).setCell ⟨g, 1, none⟩ (.int .i64 8)).setCell ⟨g, 2, none⟩ (.string ⟨#[120]⟩)) = w5 at R4 V4 HB4 ⊢
  clear c0 c1 c2 f0 f1 f2
  obtain ⟨c0, c1, c2, f0, f1, f2⟩ := V4.out.three
  obtain ⟨d0, d1, d2, g0, g1, g2⟩ := R4.out.three
  go_wp2_with fail
  exact bodyPost_ret (v := .tuple #[.agg #[.int .i64 17, .int .i64 8, .string ⟨#[120]⟩], .bool true]) (by simp [results, Try.results8, go_sem, d0, d1, d2]) rfl ⟨rfl, below_put3 HB4.out (Nat.le_refl _) _ _ _⟩

set_option maxRecDepth 100000 in
set_option maxHeartbeats 2000000 in
theorem alive_any (w : World) : Calls Try.prog 11 #[] w fun e w' => e = .returned (.bool true) ∧ Below w.heap.size w w' := by
  go_enter Try.func11, Try.ntmps11
  go_wp2_with fail
  refine (three_any _).mono ?_
  rintro e w1 ⟨rfl, hb1⟩
  have HB1 := Lib.hid (var3 hb1 23 (.int .i64 17) (.int .i64 8) (.string ⟨#[120]⟩)); clear hb1
  go_wp2_with fail
  go_ret
  exact ⟨rfl, HB1.out.1⟩
end Go.Proofs.Ytgdelnegameapaa
