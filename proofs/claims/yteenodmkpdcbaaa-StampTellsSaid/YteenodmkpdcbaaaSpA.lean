/-
  What package stamp answers: order, ids and whose they are, whether a stamp may be. Conditions: as each theorem says.
-/
import Derived.Test.YteenodmkpdcbaaaCmpA
import Derived.Test.YteenodmkpdcbaaaSpMem
import Derived.Deep.QuietTactic
import Derived.BigQuiet
import Derived.Deep.RegionHeld3
import Derived.Deep.DeepCutAuto
import Derived.Lib.MinMax
namespace Go.Proofs.Yteenodmkpdcbaaa.TP
open Go.RowKit
open TM (Sp)
set_option linter.unusedVariables false
set_option linter.unusedSimpArgs false
set_option maxRecDepth 100000

set_option maxHeartbeats 2000000 in
theorem pless_any (a b : Sp) (w : World) : Calls Try.prog 15 #[vsp a, vsp b] w (IsB (TM.less a b) w) := by
  have HR := Lib.hid (TM.less_cmp a b)
  generalize TM.less a b = r at HR ⊢
  obtain ⟨z, hz⟩ : ∃ z, z = TM.cmpI a.t b.t := ⟨_, rfl⟩
  obtain ⟨y, hy⟩ : ∃ y, y = TM.cmpI a.i b.i := ⟨_, rfl⟩
  have C1 := Lib.hid (fun w => compare_any a.t b.t w)
  have C2 := Lib.hid (fun w => compare_any a.i b.i w)
  rw [← hz] at C1 HR
  rw [← hy] at C2 HR
  obtain ⟨x, hx⟩ : ∃ x, x = TM.orI z y := ⟨_, rfl⟩
  rw [← hx] at HR
  have HX := Lib.hid hx
  clear hz hy hx
  unfold vsp
  obtain ⟨at_, ai⟩ := a
  obtain ⟨bt, bi⟩ := b
  simp only at C1 C2 ⊢
  have HB := Lib.hid (show Below w.heap.size w ((w.alloc (.cells #[.int .i64 at_, .int .i64 ai] 31)).alloc (.cells #[.int .i64 bt, .int .i64 bi] 31)) from
    ((Below.refl _ _).alloc (Nat.le_refl _) _).alloc (by simp) _)
  have X := Lib.hid ((Box.new w 31 #[.int .i64 at_, .int .i64 ai]).alloc (.cells #[.int .i64 bt, .int .i64 bi] 31))
  have Y := Lib.hid (Box.new_at (w := w.alloc (.cells #[.int .i64 at_, .int .i64 ai] 31)) (t := 31) (cs := #[.int .i64 bt, .int .i64 bi]) (w.heap.size + 1) (by simp))
  go_enter Try.func15, Try.ntmps15
  go_upto_region 1 with (fail)
  generalize (w.alloc (.cells #[.int .i64 at_, .int .i64 ai] 31)).alloc (.cells #[.int .i64 bt, .int .i64 bi] 31) = w1 at HB X Y ⊢
  generalize hg : w.heap.size = g at X Y ⊢
  have HG := Lib.hid hg
  clear hg
  have HSS := Lib.hid (fun (w' : World) (h : Below w1.heap.size w1 w') => show w'.cell? ⟨g, 0, none⟩ = some (.int .i64 at_) ∧ w'.cell? ⟨g, 1, none⟩ = some (.int .i64 ai) ∧ w'.cell? ⟨g + 1, 0, none⟩ = some (.int .i64 bt) ∧ w'.cell? ⟨g + 1, 1, none⟩ = some (.int .i64 bi) from
    ⟨(X.out.below h X.out.lt).cell 0, (X.out.below h X.out.lt).cell 1, (Y.out.below h Y.out.lt).cell 0, (Y.out.below h Y.out.lt).cell 1⟩)
  obtain ⟨_, _, _, _⟩ := HSS.out w1 (Below.refl _ _)
  have bb1 : Below w1.heap.size w1 w1.drew := (Below.refl _ _).drew
  go_region_held3 (fun w' => w'.cell? ⟨g, 0, none⟩ = some (.int .i64 at_) ∧ w'.cell? ⟨g, 1, none⟩ = some (.int .i64 ai) ∧ w'.cell? ⟨g + 1, 0, none⟩ = some (.int .i64 bt) ∧ w'.cell? ⟨g + 1, 1, none⟩ = some (.int .i64 bi))
    (first | exact HSS.out _ bb1 | exact HSS.out _ (bb1.alloc bb1.size _) | go_keep)
    (first
      | (go_at_call 25; (first | (with_reducible refine (C1.out _).mono ?_) | (with_reducible refine (C2.out _).mono ?_)); rintro e w' ⟨rfl, rfl⟩)
      | (go_at_call 24; refine (or_any w1.heap.size z y x _ (Box.new w1.drew _ _) HX.out).mono ?_; rintro e w' ⟨rfl, rfl⟩))
  all_goals
    go_wp2_with fail
    go_ret
    exact ⟨by first | rfl | (rw [← HR.out]; rfl), HB.out.trans ((bb1.alloc bb1.size _).mono HB.out.size)⟩
theorem pmay_any (s n : Int) (w : World) : Calls Try.prog 21 #[.int .i64 s, .int .i64 n] w fun e w' => e = .returned (.bool (decide (TM.may s n))) ∧ w = w' := by
  rcases (show s < 0 ∨ (0 ≤ s ∧ 6 ≤ s) ∨ (0 ≤ s ∧ s < 6 ∧ n < 0) ∨ (0 ≤ s ∧ s < 6 ∧ 0 ≤ n ∧ 1048576 ≤ n) ∨ (0 ≤ s ∧ s < 6 ∧ 0 ≤ n ∧ n < 1048576) by omega) with h | ⟨h0, h⟩ | ⟨h0, h1, h⟩ | ⟨h0, h1, h2, h⟩ | ⟨h0, h1, h2, h⟩
  rotate_right
  · rw [decide_eq_true (show TM.may s n from ⟨h0, h1, h2, h⟩)]
    go_enter Try.func21, Try.ntmps21
    go_wp2_with fail
    go_ret
    exact ⟨rfl, rfl⟩
  all_goals
    rw [decide_eq_false (show ¬ TM.may s n from by unfold TM.may; omega)]
    go_enter Try.func21, Try.ntmps21
    go_wp2_with fail
    go_ret
    exact ⟨by first | rfl | (simp; try omega), rfl⟩
theorem ppart_nat (b : Int) (w : World) (h : 0 ≤ b) (h2 : b ≤ 9223372036854775807) : Calls Try.prog 22 #[.int .i64 b] w fun e w' => e = .returned (.tuple #[.int .i64 (b / 1048576), .int .i64 (b % 1048576)]) ∧ w = w' := by
  go_enter Try.func22, Try.ntmps22
  go_wp2
  go_ret2
  exact ⟨rfl, rfl⟩
def PartNo (w : World) (e : Ending) (w' : World) : Prop := ∃ x y : Int, ¬ TM.may x y ∧ e = .returned (.tuple #[.int .i64 x, .int .i64 y]) ∧ w = w'
theorem ppart_neg (b : Int) (w : World) (h : b < 0) (h2 : -9223372036854775808 ≤ b) : Calls Try.prog 22 #[.int .i64 b] w (PartNo w) := by
  have ht : ¬ TM.may (b.tdiv 1048576) (b.tmod 1048576) := by
    have e : b = -(-b) := by omega
    rw [e, Int.neg_tdiv, Int.neg_tmod, Int.tdiv_eq_ediv_of_nonneg (by omega), Int.tmod_eq_emod_of_nonneg (by omega)]
    unfold TM.may
    omega
  go_enter Try.func22, Try.ntmps22
  go_wp2
  go_ret2
  exact ⟨_, _, ht, rfl, rfl⟩
theorem pof_any {b r n y : Int} (h : TM.OfIs b r n y) (h1 : -9223372036854775808 ≤ b) (h2 : b ≤ 9223372036854775807) (w : World) : Calls Try.prog 10 #[.int .i64 b] w fun e w' => e = .returned (.tuple #[.int .i64 r, .int .i64 n, .int .i64 y]) ∧ w = w' := by
  rcases h with ⟨h, rfl, rfl, rfl⟩ | ⟨h, rfl, rfl, rfl⟩
  · have hb : 0 ≤ b := h.1
    have hok := (TM.good_iff b hb).1 h
    clear h
    obtain ⟨q, hq⟩ : ∃ q, q = b / 1048576 := ⟨_, rfl⟩
    obtain ⟨p, hp⟩ : ∃ p, p = b % 1048576 := ⟨_, rfl⟩
    have HP := Lib.hid (ppart_nat b w hb h2)
    rw [← hq, ← hp] at HP hok ⊢
    clear hq hp
    have HM := Lib.hid (pmay_any q p w)
    rw [decide_eq_true hok] at HM
    clear hok
    go_enter Try.func10, Try.ntmps10
    go_wp2_with fail
    refine (HP.out).mono ?_
    rintro e w1 ⟨rfl, rfl⟩
    go_wp2_with fail
    refine (HM.out).mono ?_
    rintro e w1 ⟨rfl, rfl⟩
    go_wp2
    go_ret3
    exact ⟨rfl, rfl⟩
  · have HP : Hid (Calls Try.prog 22 #[.int .i64 b] w (PartNo w)) := Lib.hid (by
      rcases (show 0 ≤ b ∨ b < 0 by omega) with hb | hb
      · exact (ppart_nat b w hb h2).mono fun e w' k => ⟨_, _, fun g => h ((TM.good_iff b hb).2 g), k.1, k.2⟩
      · exact ppart_neg b w hb h1)
    clear h
    go_enter Try.func10, Try.ntmps10
    go_wp2_with fail
    refine (HP.out).mono ?_
    rintro e w1 ⟨x, y, hx, rfl, rfl⟩
    have HM := Lib.hid (pmay_any x y w)
    rw [decide_eq_false hx] at HM
    clear hx
    go_wp2_with fail
    refine (HM.out).mono ?_
    rintro e w1 ⟨rfl, rfl⟩
    go_wp2
    go_ret3
    exact ⟨rfl, rfl⟩
theorem pid_any {s n x y : Int} (h : TM.IdIs s n x y) (w : World) : Calls Try.prog 9 #[.int .i64 s, .int .i64 n] w fun e w' => e = .returned (.tuple #[.int .i64 x, .int .i64 y]) ∧ w = w' := by
  have HM := Lib.hid (pmay_any s n w)
  rcases h with ⟨h, rfl, rfl⟩ | ⟨h, rfl, rfl⟩
  · rw [decide_eq_true h] at HM
    obtain ⟨h0, h1, h2, h3⟩ := h
    go_enter Try.func9, Try.ntmps9
    go_wp2_with fail
    refine (HM.out).mono ?_
    rintro e w1 ⟨rfl, rfl⟩
    go_wp2
    go_ret2
    exact ⟨rfl, rfl⟩
  · rw [decide_eq_false h] at HM
    clear h
    go_enter Try.func9, Try.ntmps9
    go_wp2_with fail
    refine (HM.out).mono ?_
    rintro e w1 ⟨rfl, rfl⟩
    go_wp2
    go_ret2
    exact ⟨rfl, rfl⟩
end Go.Proofs.Yteenodmkpdcbaaa.TP
