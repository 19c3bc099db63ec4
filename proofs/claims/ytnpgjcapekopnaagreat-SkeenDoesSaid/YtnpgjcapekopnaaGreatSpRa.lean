/-
  What the document's own Less and May of stamps answer (towncrierref14). Conditions: as each theorem says.
-/
import Derived.Test.YtnpgjcapekopnaaGreatSpMem
import Derived.Test.YtnpgjcapekopnaaGreatBox
import Derived.Deep.QuietTactic
import Derived.BigQuiet
import Derived.Deep.RegionHeld3
import Derived.Deep.DeepCutAuto
import Derived.Lib.MinMax
import Derived.WalkKit
import Derived.Test.YtnpgjcapekopnaaGreatProg
namespace Go.Proofs.YtnpgjcapekopnaaGreat.TP
open Go.RowKit
open TM (Sp)
set_option linter.unusedVariables false
set_option linter.unusedSimpArgs false
set_option maxRecDepth 100000

theorem box_two {w : World} {g : Nat} {t : TypeId} {a b : Value} (h : Box w g t #[a, b]) : w.cell? ⟨g, 0, none⟩ = some a ∧ w.cell? ⟨g, 1, none⟩ = some b := ⟨h.cell 0, h.cell 1⟩
set_option maxHeartbeats 2000000 in
theorem rless_any (a b : Sp) (w : World) : Calls Tryz.prog 39 #[vsp a, vsp b] w (IsB (TM.less a b) w) := by
  obtain ⟨at_, ai⟩ := a
  obtain ⟨bt, bi⟩ := b
  unfold vsp
  have HB := Lib.hid (show Below w.heap.size w ((w.alloc (.cells #[.int .i64 at_, .int .i64 ai] 70)).alloc (.cells #[.int .i64 bt, .int .i64 bi] 70)) from
    ((Below.refl _ _).alloc (Nat.le_refl _) _).alloc (by simp) _)
  have X := Lib.hid ((Box.new w 70 #[.int .i64 at_, .int .i64 ai]).alloc (.cells #[.int .i64 bt, .int .i64 bi] 70))
  have Y := Lib.hid (Box.new_at (w := w.alloc (.cells #[.int .i64 at_, .int .i64 ai] 70)) (t := 70) (cs := #[.int .i64 bt, .int .i64 bi]) (w.heap.size + 1) (by simp))
  simp only
  rcases (show at_ < bt ∨ (¬ at_ < bt ∧ at_ = bt ∧ ai < bi) ∨ (¬ at_ < bt ∧ at_ = bt ∧ ¬ ai < bi) ∨ (¬ at_ < bt ∧ at_ ≠ bt) by omega) with h | ⟨h0, h1, h⟩ | ⟨h0, h1, h⟩ | ⟨h0, h⟩
  · rw [show TM.less ⟨at_, ai⟩ ⟨bt, bi⟩ = true from decide_eq_true (.inl h)]
    go_enter Tryz.func39, Tryz.ntmps39
    go_upto_region 1 with (fail)
    generalize (w.alloc (.cells #[.int .i64 at_, .int .i64 ai] 70)).alloc (.cells #[.int .i64 bt, .int .i64 bi] 70) = w1 at HB X Y ⊢
    generalize hg : w.heap.size = g at X Y ⊢
    clear hg
    obtain ⟨x0, x1⟩ := box_two X.out
    obtain ⟨y0, y1⟩ := box_two Y.out
    go_wp2_with fail
    go_ret
    exact ⟨rfl, HB.out⟩
  · rw [show TM.less ⟨at_, ai⟩ ⟨bt, bi⟩ = true from decide_eq_true (.inr ⟨h1, h⟩)]
    have e1 : (at_ == bt) = true := by simpa using h1
    clear h1
    go_enter Tryz.func39, Tryz.ntmps39
    go_upto_region 1 with (fail)
    generalize (w.alloc (.cells #[.int .i64 at_, .int .i64 ai] 70)).alloc (.cells #[.int .i64 bt, .int .i64 bi] 70) = w1 at HB X Y ⊢
    generalize hg : w.heap.size = g at X Y ⊢
    clear hg
    obtain ⟨x0, x1⟩ := box_two X.out
    obtain ⟨y0, y1⟩ := box_two Y.out
    go_wp2_with fail
    go_ret
    exact ⟨rfl, HB.out⟩
  · rw [show TM.less ⟨at_, ai⟩ ⟨bt, bi⟩ = false from decide_eq_false (fun g => by unfold TM.lt at g; simp only at g; omega)]
    have e1 : (at_ == bt) = true := by simpa using h1
    clear h1
    go_enter Tryz.func39, Tryz.ntmps39
    go_upto_region 1 with (fail)
    generalize (w.alloc (.cells #[.int .i64 at_, .int .i64 ai] 70)).alloc (.cells #[.int .i64 bt, .int .i64 bi] 70) = w1 at HB X Y ⊢
    generalize hg : w.heap.size = g at X Y ⊢
    clear hg
    obtain ⟨x0, x1⟩ := box_two X.out
    obtain ⟨y0, y1⟩ := box_two Y.out
    go_wp2_with fail
    go_ret
    exact ⟨rfl, HB.out⟩
  · rw [show TM.less ⟨at_, ai⟩ ⟨bt, bi⟩ = false from decide_eq_false (fun g => by unfold TM.lt at g; simp only at g; omega)]
    have e1 : (at_ == bt) = false := by simpa using h
    clear h
    go_enter Tryz.func39, Tryz.ntmps39
    go_upto_region 1 with (fail)
    generalize (w.alloc (.cells #[.int .i64 at_, .int .i64 ai] 70)).alloc (.cells #[.int .i64 bt, .int .i64 bi] 70) = w1 at HB X Y ⊢
    generalize hg : w.heap.size = g at X Y ⊢
    clear hg
    obtain ⟨x0, x1⟩ := box_two X.out
    obtain ⟨y0, y1⟩ := box_two Y.out
    go_wp2_with fail
    go_ret
    exact ⟨rfl, HB.out⟩
set_option maxHeartbeats 2000000 in
theorem rmay_any (a : Sp) (w : World) : Calls Tryz.prog 38 #[vsp a] w (IsB (decide (TM.ok a)) w) := by
  obtain ⟨t, i⟩ := a
  unfold vsp
  simp only
  have HB := Lib.hid (show Below w.heap.size w (w.alloc (.cells #[.int .i64 t, .int .i64 i] 70)) from (Below.refl _ _).alloc (Nat.le_refl _) _)
  have X := Lib.hid (Box.new w 70 #[.int .i64 t, .int .i64 i])
  rcases (show t < 0 ∨ (0 ≤ t ∧ ¬ t ≤ 1073741824) ∨ (0 ≤ t ∧ t ≤ 1073741824 ∧ i < 0) ∨ (0 ≤ t ∧ t ≤ 1073741824 ∧ 0 ≤ i ∧ ¬ i < 6291456) ∨ (0 ≤ t ∧ t ≤ 1073741824 ∧ 0 ≤ i ∧ i < 6291456) by omega) with h | ⟨h0, h⟩ | ⟨h0, h1, h⟩ | ⟨h0, h1, h2, h⟩ | ⟨h0, h1, h2, h⟩
  rotate_right
  · rw [decide_eq_true (show TM.ok ⟨t, i⟩ from ⟨h0, h1, h2, h⟩)]
    go_enter Tryz.func38, Tryz.ntmps38
    go_upto_region 1 with (fail)
    generalize w.alloc (.cells #[.int .i64 t, .int .i64 i] 70) = w1 at HB X ⊢
    generalize hg : w.heap.size = g at X ⊢
    clear hg
    obtain ⟨x0, x1⟩ := box_two X.out
    go_wp2_with fail
    go_ret
    exact ⟨rfl, HB.out⟩
  all_goals
    rw [decide_eq_false (show ¬ TM.ok ⟨t, i⟩ from by unfold TM.ok; simp only; omega)]
    go_enter Tryz.func38, Tryz.ntmps38
    go_upto_region 1 with (fail)
    generalize w.alloc (.cells #[.int .i64 t, .int .i64 i] 70) = w1 at HB X ⊢
    generalize hg : w.heap.size = g at X ⊢
    clear hg
    obtain ⟨x0, x1⟩ := box_two X.out
    go_wp2_with fail
    go_ret
    exact ⟨by first | rfl | (simp; try omega), HB.out⟩
end Go.Proofs.YtnpgjcapekopnaaGreat.TP
