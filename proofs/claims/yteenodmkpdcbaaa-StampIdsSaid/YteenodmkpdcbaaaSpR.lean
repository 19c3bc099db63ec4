/-
  What the document's own functions of layer 14 answer (towncrierref14). Conditions: as each theorem says.
-/
import Derived.Test.YteenodmkpdcbaaaSpMem
import Derived.Test.YteenodmkpdcbaaaBox
import Derived.Deep.QuietTactic
import Derived.BigQuiet
import Derived.Deep.RegionHeld3
import Derived.Deep.DeepCutAuto
import Derived.Lib.MinMax
import Derived.WalkKit
import Derived.Test.YteenodmkpdcbaaaProg
namespace Go.Proofs.Yteenodmkpdcbaaa.TP
open Go.RowKit
open TM (Sp)
set_option linter.unusedVariables false
set_option linter.unusedSimpArgs false
set_option maxRecDepth 100000

theorem box_two {w : World} {g : Nat} {t : TypeId} {a b : Value} (h : Box w g t #[a, b]) : w.cell? ⟨g, 0, none⟩ = some a ∧ w.cell? ⟨g, 1, none⟩ = some b := ⟨h.cell 0, h.cell 1⟩
set_option maxHeartbeats 2000000 in
theorem rless_any (a b : Sp) (w : World) : Calls Try.prog 16 #[vsp a, vsp b] w (IsB (TM.less a b) w) := by
  obtain ⟨at_, ai⟩ := a
  obtain ⟨bt, bi⟩ := b
  unfold vsp
  have HB := Lib.hid (show Below w.heap.size w ((w.alloc (.cells #[.int .i64 at_, .int .i64 ai] 31)).alloc (.cells #[.int .i64 bt, .int .i64 bi] 31)) from
    ((Below.refl _ _).alloc (Nat.le_refl _) _).alloc (by simp) _)
  have X := Lib.hid ((Box.new w 31 #[.int .i64 at_, .int .i64 ai]).alloc (.cells #[.int .i64 bt, .int .i64 bi] 31))
  have Y := Lib.hid (Box.new_at (w := w.alloc (.cells #[.int .i64 at_, .int .i64 ai] 31)) (t := 31) (cs := #[.int .i64 bt, .int .i64 bi]) (w.heap.size + 1) (by simp))
  simp only
  rcases (show at_ < bt ∨ (¬ at_ < bt ∧ at_ = bt ∧ ai < bi) ∨ (¬ at_ < bt ∧ at_ = bt ∧ ¬ ai < bi) ∨ (¬ at_ < bt ∧ at_ ≠ bt) by omega) with h | ⟨h0, h1, h⟩ | ⟨h0, h1, h⟩ | ⟨h0, h⟩
  · rw [show TM.less ⟨at_, ai⟩ ⟨bt, bi⟩ = true from decide_eq_true (.inl h)]
    go_enter Try.func16, Try.ntmps16
    go_upto_region 1 with (fail)
    generalize (w.alloc (.cells #[.int .i64 at_, .int .i64 ai] 31)).alloc (.cells #[.int .i64 bt, .int .i64 bi] 31) = w1 at HB X Y ⊢
    generalize hg : w.heap.size = g at X Y ⊢
    clear hg
    obtain ⟨x0, x1⟩ := box_two X.out
    obtain ⟨y0, y1⟩ := box_two Y.out
    go_wp2_with fail
    go_ret
    exact ⟨rfl, HB.out⟩
  · rw [show TM.less ⟨at_, ai⟩ ⟨bt, bi⟩ = true from decide_eq_true (.inr ⟨h1, h⟩)]
    have e1 : (at_ == bt) = true := by simpa using h1
    clear h1
    go_enter Try.func16, Try.ntmps16
    go_upto_region 1 with (fail)
    generalize (w.alloc (.cells #[.int .i64 at_, .int .i64 ai] 31)).alloc (.cells #[.int .i64 bt, .int .i64 bi] 31) = w1 at HB X Y ⊢
    generalize hg : w.heap.size = g at X Y ⊢
    clear hg
    obtain ⟨x0, x1⟩ := box_two X.out
    obtain ⟨y0, y1⟩ := box_two Y.out
    go_wp2_with fail
    go_ret
    exact ⟨rfl, HB.out⟩
  · rw [show TM.less ⟨at_, ai⟩ ⟨bt, bi⟩ = false from decide_eq_false (fun g => by unfold TM.lt at g; simp only at g; omega)]
    have e1 : (at_ == bt) = true := by simpa using h1
    clear h1
    go_enter Try.func16, Try.ntmps16
    go_upto_region 1 with (fail)
    generalize (w.alloc (.cells #[.int .i64 at_, .int .i64 ai] 31)).alloc (.cells #[.int .i64 bt, .int .i64 bi] 31) = w1 at HB X Y ⊢
    generalize hg : w.heap.size = g at X Y ⊢
    clear hg
    obtain ⟨x0, x1⟩ := box_two X.out
    obtain ⟨y0, y1⟩ := box_two Y.out
    go_wp2_with fail
    go_ret
    exact ⟨rfl, HB.out⟩
  · rw [show TM.less ⟨at_, ai⟩ ⟨bt, bi⟩ = false from decide_eq_false (fun g => by unfold TM.lt at g; simp only at g; omega)]
    have e1 : (at_ == bt) = false := by simpa using h
    clear h
    go_enter Try.func16, Try.ntmps16
    go_upto_region 1 with (fail)
    generalize (w.alloc (.cells #[.int .i64 at_, .int .i64 ai] 31)).alloc (.cells #[.int .i64 bt, .int .i64 bi] 31) = w1 at HB X Y ⊢
    generalize hg : w.heap.size = g at X Y ⊢
    clear hg
    obtain ⟨x0, x1⟩ := box_two X.out
    obtain ⟨y0, y1⟩ := box_two Y.out
    go_wp2_with fail
    go_ret
    exact ⟨rfl, HB.out⟩
set_option maxHeartbeats 2000000 in
theorem rmay_any (a : Sp) (w : World) : Calls Try.prog 23 #[vsp a] w (IsB (decide (TM.ok a)) w) := by
  obtain ⟨t, i⟩ := a
  unfold vsp
  simp only
  have HB := Lib.hid (show Below w.heap.size w (w.alloc (.cells #[.int .i64 t, .int .i64 i] 31)) from (Below.refl _ _).alloc (Nat.le_refl _) _)
  have X := Lib.hid (Box.new w 31 #[.int .i64 t, .int .i64 i])
  rcases (show t < 0 ∨ (0 ≤ t ∧ ¬ t ≤ 1073741824) ∨ (0 ≤ t ∧ t ≤ 1073741824 ∧ i < 0) ∨ (0 ≤ t ∧ t ≤ 1073741824 ∧ 0 ≤ i ∧ ¬ i < 6291456) ∨ (0 ≤ t ∧ t ≤ 1073741824 ∧ 0 ≤ i ∧ i < 6291456) by omega) with h | ⟨h0, h⟩ | ⟨h0, h1, h⟩ | ⟨h0, h1, h2, h⟩ | ⟨h0, h1, h2, h⟩
  rotate_right
  · rw [decide_eq_true (show TM.ok ⟨t, i⟩ from ⟨h0, h1, h2, h⟩)]
    go_enter Try.func23, Try.ntmps23
    go_upto_region 1 with (fail)
    generalize w.alloc (.cells #[.int .i64 t, .int .i64 i] 31) = w1 at HB X ⊢
    generalize hg : w.heap.size = g at X ⊢
    clear hg
    obtain ⟨x0, x1⟩ := box_two X.out
    go_wp2_with fail
    go_ret
    exact ⟨rfl, HB.out⟩
  all_goals
    rw [decide_eq_false (show ¬ TM.ok ⟨t, i⟩ from by unfold TM.ok; simp only; omega)]
    go_enter Try.func23, Try.ntmps23
    go_upto_region 1 with (fail)
    generalize w.alloc (.cells #[.int .i64 t, .int .i64 i] 31) = w1 at HB X ⊢
    generalize hg : w.heap.size = g at X ⊢
    clear hg
    obtain ⟨x0, x1⟩ := box_two X.out
    go_wp2_with fail
    go_ret
    exact ⟨by first | rfl | (simp; try omega), HB.out⟩
set_option maxHeartbeats 1000000 in
theorem rcheck_any (a : Sp) (w : World) : Calls Try.prog 14 #[vsp a] w (IsN (TM.chk a) w) := by
  have HM := Lib.hid (fun w => rmay_any a w)
  have HC := Lib.hid (show TM.chk a = if decide (TM.ok a) = true then 0 else 8 by unfold TM.chk; simp)
  generalize TM.chk a = y at HC ⊢
  generalize decide (TM.ok a) = b at HM HC
  obtain ⟨t, i⟩ := a
  unfold vsp at HM ⊢
  simp only at HM ⊢
  have HB := Lib.hid (show Below w.heap.size w (w.alloc (.cells #[.int .i64 t, .int .i64 i] 31)) from (Below.refl _ _).alloc (Nat.le_refl _) _)
  have X := Lib.hid (Box.new w 31 #[.int .i64 t, .int .i64 i])
  go_enter Try.func14, Try.ntmps14
  go_upto_region 1 with (fail)
  generalize w.alloc (.cells #[.int .i64 t, .int .i64 i] 31) = w1 at HB X ⊢
  generalize hg : w.heap.size = g at X ⊢
  clear hg
  obtain ⟨x0, x1⟩ := box_two X.out
  go_wp2_with fail
  refine (HM.out w1).mono ?_
  rintro e w2 ⟨rfl, hb⟩
  have HB2 := Lib.hid (bmore HB.out hb (Nat.le_refl _))
  clear hb HM
  rcases b with _ | _
  · have HC := Lib.hid (show y = 8 by rw [HC.out]; rfl)
    go_wp2_with fail
    go_ret
    exact ⟨by rw [HC.out]; rfl, HB2.out⟩
  · have HC := Lib.hid (show y = 0 by rw [HC.out]; rfl)
    go_wp2_with fail
    go_ret
    exact ⟨by rw [HC.out]; rfl, HB2.out⟩
theorem rid_any {s n x y : Int} (h : TM.IdIs s n x y) (w : World) : Calls Try.prog 19 #[.int .i64 s, .int .i64 n] w fun e w' => e = .returned (.tuple #[.int .i64 x, .int .i64 y]) ∧ w = w' := by
  rcases h with ⟨⟨h0, h1, h2, h3⟩, rfl, rfl⟩ | ⟨h, rfl, rfl⟩
  · go_enter Try.func19, Try.ntmps19
    go_wp2
    go_ret2
    exact ⟨rfl, rfl⟩
  · rcases (show s < 0 ∨ (0 ≤ s ∧ 6 ≤ s) ∨ (0 ≤ s ∧ s < 6 ∧ n < 0) ∨ (0 ≤ s ∧ s < 6 ∧ 0 ≤ n ∧ 1048576 ≤ n) by unfold TM.may at h; omega) with h | ⟨h0, h⟩ | ⟨h0, h1, h⟩ | ⟨h0, h1, h2, h⟩
    all_goals
      go_enter Try.func19, Try.ntmps19
      go_wp2
      go_ret2
      exact ⟨rfl, rfl⟩
theorem rof_any {b r n y : Int} (h : TM.OfIs b r n y) (w : World) : Calls Try.prog 20 #[.int .i64 b] w fun e w' => e = .returned (.tuple #[.int .i64 r, .int .i64 n, .int .i64 y]) ∧ w = w' := by
  rcases h with ⟨⟨h0, h1⟩, rfl, rfl, rfl⟩ | ⟨h, rfl, rfl, rfl⟩
  · go_enter Try.func20, Try.ntmps20
    go_wp2
    go_ret3
    exact ⟨rfl, rfl⟩
  · rcases (show b < 0 ∨ (0 ≤ b ∧ 6291456 ≤ b) by unfold TM.good at h; omega) with h | ⟨h0, h⟩
    all_goals
      go_enter Try.func20, Try.ntmps20
      go_wp2
      go_ret3
      exact ⟨rfl, rfl⟩
end Go.Proofs.Yteenodmkpdcbaaa.TP
