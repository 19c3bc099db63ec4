/-
  cmp.Compare and cmp.Or of ints. Conditions: as each theorem says.
  What package stamp answers: order, ids and whose they are, whether a stamp may be. Conditions: as each theorem says.
  Package stamp's Check and Rises. Conditions: as each theorem says.
-/
import Derived.Test.YteebeiaokfenmaaGreatProg
import Derived.Test.YteebeiaokfenmaaGreatK01
import Derived.Lib.Hide
import Derived.WalkKit
import Derived.Deep.QuietTactic
import Derived.BigQuiet
import Derived.Deep.RegionHeld3
import Derived.Deep.DeepCutAuto
import Derived.Lib.MinMax
namespace Go.Proofs.YteebeiaokfenmaaGreat.TP
open Go.RowKit
set_option linter.unusedVariables false
set_option linter.unusedSimpArgs false
set_option maxRecDepth 100000

theorem isnan_any (x : Int) (w : World) : Calls Tryz.prog 99 #[.int .i64 x] w fun e w' => e = .returned (.bool false) ∧ w = w' := by
  have h : ((x : Int) != x) = false := by simp
  go_enter Tryz.func99, Tryz.ntmps99
  go_wp2_with fail
  go_ret
  exact ⟨by simp, rfl⟩
set_option maxHeartbeats 1000000 in
theorem compare_any (a b : Int) (w : World) : Calls Tryz.prog 82 #[.int .i64 a, .int .i64 b] w fun e w' => e = .returned (.int .i64 (TM.cmpI a b)) ∧ w = w' := by
  obtain ⟨z, hz⟩ : ∃ z, z = TM.cmpI a b := ⟨_, rfl⟩
  rw [← hz]
  unfold TM.cmpI at hz
  rcases (show a < b ∨ (¬ a < b ∧ b < a) ∨ (¬ a < b ∧ ¬ b < a) by omega) with h1 | ⟨h1, h2⟩ | ⟨h1, h2⟩
  · obtain rfl : z = -1 := by rw [hz, if_pos h1]
    clear hz
    go_enter Tryz.func82, Tryz.ntmps82
    go_wp2_with fail
    refine (isnan_any a w).mono ?_
    rintro e w1 ⟨rfl, rfl⟩
    go_wp2_with fail
    refine (isnan_any b w).mono ?_
    rintro e w1 ⟨rfl, rfl⟩
    go_wp2_with fail
    go_ret
    exact ⟨rfl, rfl⟩
  · obtain rfl : z = 1 := by rw [hz, if_neg h1, if_pos h2]
    clear hz
    go_enter Tryz.func82, Tryz.ntmps82
    go_wp2_with fail
    refine (isnan_any a w).mono ?_
    rintro e w1 ⟨rfl, rfl⟩
    go_wp2_with fail
    refine (isnan_any b w).mono ?_
    rintro e w1 ⟨rfl, rfl⟩
    go_wp2_with fail
    go_ret
    exact ⟨rfl, rfl⟩
  · obtain rfl : z = 0 := by rw [hz, if_neg h1, if_neg h2]
    clear hz
    go_enter Tryz.func82, Tryz.ntmps82
    go_wp2_with fail
    refine (isnan_any a w).mono ?_
    rintro e w1 ⟨rfl, rfl⟩
    go_wp2_with fail
    refine (isnan_any b w).mono ?_
    rintro e w1 ⟨rfl, rfl⟩
    go_wp2_with fail
    go_ret
    exact ⟨rfl, rfl⟩
set_option maxHeartbeats 1000000 in
theorem or_any (bl : Nat) (z y x : Int) (w : World) (h : Box w bl 3 #[.int .i64 z, .int .i64 y]) (hx : x = TM.orI z y) :
    Calls Tryz.prog 81 #[.slice (some ⟨bl, 0, none⟩) 2 2] w fun e w' => e = .returned (.int .i64 x) ∧ w = w' := by
  have c0 := h.cell 0
  have c1 := h.cell 1
  simp at c0 c1
  unfold TM.orI at hx
  have HX := Lib.hid hx
  clear h hx
  go_enter Tryz.func81, Tryz.ntmps81
  go_wp2_with fail
  go_loop [8] (fun i => ∃ k : Nat, k ≤ 2 ∧ i = .int .i64 k ∧ Hid ((1 ≤ k → z = 0) ∧ (2 ≤ k → y = 0))) (fun i => 2 - (intOf i).toNat)
  case atStart => exact ⟨0, by omega, rfl, Lib.hid ⟨by omega, by omega⟩⟩
  case round =>
    obtain ⟨k, hk, rfl, HK⟩ := hrel
    rcases (show k = 0 ∨ k = 1 ∨ k = 2 by omega) with rfl | rfl | rfl
    · by_cases hz : z = 0
      · have HZ := Lib.hid hz
        have hb : (z != 0) = false := by simp [hz]
        clear hz
        go_wp2_with fail
        go_round
        case rel => exact ⟨1, by omega, rfl, Lib.hid ⟨fun _ => HZ.out, by omega⟩⟩
        case measure => simp [intOf]
      · have HZ := Lib.hid (show x = z by rw [HX.out, if_pos hz])
        have hb : (z != 0) = true := by simp [hz]
        clear hz
        go_wp2_with fail
        go_ret
        exact ⟨by rw [HZ.out]; rfl, rfl⟩
    · have hz := HK.out.1 (by omega)
      by_cases hy : y = 0
      · have HZ := Lib.hid (And.intro hz hy)
        have hb : (y != 0) = false := by simp [hy]
        clear hz hy
        go_wp2_with fail
        go_round
        case rel => exact ⟨2, by omega, rfl, Lib.hid ⟨fun _ => HZ.out.1, fun _ => HZ.out.2⟩⟩
        case measure => simp [intOf]
      · have HZ := Lib.hid (show x = y by rw [HX.out, if_neg (fun h => h hz)])
        have hb : (y != 0) = true := by simp [hy]
        clear hy hz
        go_wp2_with fail
        go_ret
        exact ⟨by rw [HZ.out]; rfl, rfl⟩
    · have HZ := Lib.hid (show x = 0 by rw [HX.out, if_neg (fun h => h (HK.out.1 (by omega)))]; exact HK.out.2 (by omega))
      go_wp2_with fail
      go_ret
      exact ⟨by rw [HZ.out]; rfl, rfl⟩
end Go.Proofs.YteebeiaokfenmaaGreat.TP

namespace Go.Proofs.YteebeiaokfenmaaGreat.TP
open Go.RowKit
open TM (Sp)
set_option linter.unusedVariables false
set_option linter.unusedSimpArgs false
set_option maxRecDepth 100000

set_option maxHeartbeats 2000000 in
theorem pless_any (a b : Sp) (w : World) : Calls Tryz.prog 54 #[vsp a, vsp b] w (IsB (TM.less a b) w) := by
  have HR := Lib.hid (TM.less_cmp a b)
  generalize TM.less a b = r at HR ⊢
  obtain ⟨z, hz⟩ : ∃ z, z = TM.cmpI a.t b.t := ⟨_, rfl⟩
  obtain ⟨y, hy⟩ : ∃ y, y = TM.cmpI a.i b.i := ⟨_, rfl⟩
  have C1 := Lib.hid (fun w => compare_any a.t b.t w)
  have C2 := Lib.hid (fun w => compare_any a.i b.i w)
  rw [← hz] at C1 HR
  rw [← hy] at C2 HR
  obtain ⟨x, hx⟩ : ∃ x, x = TM.orI z y := ⟨_, rfl⟩
  rw [← hx] at HR
  have HX := Lib.hid hx
  clear hz hy hx
  unfold vsp
  obtain ⟨at_, ai⟩ := a
  obtain ⟨bt, bi⟩ := b
  simp only at C1 C2 ⊢
  have HB := Lib.hid (show Below w.heap.size w ((w.alloc (.cells #[.int .i64 at_, .int .i64 ai] 46)).alloc (.cells #[.int .i64 bt, .int .i64 bi] 46)) from
    ((Below.refl _ _).alloc (Nat.le_refl _) _).alloc (by simp) _)
  have X := Lib.hid ((Box.new w 46 #[.int .i64 at_, .int .i64 ai]).alloc (.cells #[.int .i64 bt, .int .i64 bi] 46))
  have Y := Lib.hid (Box.new_at (w := w.alloc (.cells #[.int .i64 at_, .int .i64 ai] 46)) (t := 46) (cs := #[.int .i64 bt, .int .i64 bi]) (w.heap.size + 1) (by simp))
  go_enter Tryz.func54, Tryz.ntmps54
  go_upto_region 1 with (fail)
  generalize (w.alloc (.cells #[.int .i64 at_, .int .i64 ai] 46)).alloc (.cells #[.int .i64 bt, .int .i64 bi] 46) = w1 at HB X Y ⊢
  generalize hg : w.heap.size = g at X Y ⊢
  have HG := Lib.hid hg
  clear hg
  have HSS := Lib.hid (fun (w' : World) (h : Below w1.heap.size w1 w') => show w'.cell? ⟨g, 0, none⟩ = some (.int .i64 at_) ∧ w'.cell? ⟨g, 1, none⟩ = some (.int .i64 ai) ∧ w'.cell? ⟨g + 1, 0, none⟩ = some (.int .i64 bt) ∧ w'.cell? ⟨g + 1, 1, none⟩ = some (.int .i64 bi) from
    ⟨(X.out.below h X.out.lt).cell 0, (X.out.below h X.out.lt).cell 1, (Y.out.below h Y.out.lt).cell 0, (Y.out.below h Y.out.lt).cell 1⟩)
  obtain ⟨_, _, _, _⟩ := HSS.out w1 (Below.refl _ _)
  have bb1 : Below w1.heap.size w1 w1.drew := (Below.refl _ _).drew
  go_region_held3 (fun w' => w'.cell? ⟨g, 0, none⟩ = some (.int .i64 at_) ∧ w'.cell? ⟨g, 1, none⟩ = some (.int .i64 ai) ∧ w'.cell? ⟨g + 1, 0, none⟩ = some (.int .i64 bt) ∧ w'.cell? ⟨g + 1, 1, none⟩ = some (.int .i64 bi))
    (first | exact HSS.out _ bb1 | exact HSS.out _ (bb1.alloc bb1.size _) | go_keep)
    (first
      | (go_at_call 82; (first | (with_reducible refine (C1.out _).mono ?_) | (with_reducible refine (C2.out _).mono ?_)); rintro e w' ⟨rfl, rfl⟩)
      | (go_at_call 81; refine (or_any w1.heap.size z y x _ (Box.new w1.drew _ _) HX.out).mono ?_; rintro e w' ⟨rfl, rfl⟩))
  all_goals
    go_wp2_with fail
    go_ret
    exact ⟨by first | rfl | (rw [← HR.out]; rfl), HB.out.trans ((bb1.alloc bb1.size _).mono HB.out.size)⟩
theorem pmay_any (s n : Int) (w : World) : Calls Tryz.prog 169 #[.int .i64 s, .int .i64 n] w fun e w' => e = .returned (.bool (decide (TM.may s n))) ∧ w = w' := by
  rcases (show s < 0 ∨ (0 ≤ s ∧ 6 ≤ s) ∨ (0 ≤ s ∧ s < 6 ∧ n < 0) ∨ (0 ≤ s ∧ s < 6 ∧ 0 ≤ n ∧ 1048576 ≤ n) ∨ (0 ≤ s ∧ s < 6 ∧ 0 ≤ n ∧ n < 1048576) by omega) with h | ⟨h0, h⟩ | ⟨h0, h1, h⟩ | ⟨h0, h1, h2, h⟩ | ⟨h0, h1, h2, h⟩
  rotate_right
  · rw [decide_eq_true (show TM.may s n from ⟨h0, h1, h2, h⟩)]
    go_enter Tryz.func169, Tryz.ntmps169
    go_wp2_with fail
    go_ret
    exact ⟨rfl, rfl⟩
  all_goals
    rw [decide_eq_false (show ¬ TM.may s n from by unfold TM.may; omega)]
    go_enter Tryz.func169, Tryz.ntmps169
    go_wp2_with fail
    go_ret
    exact ⟨by first | rfl | (simp; try omega), rfl⟩
theorem ppart_nat (b : Int) (w : World) (h : 0 ≤ b) (h2 : b ≤ 9223372036854775807) : Calls Tryz.prog 168 #[.int .i64 b] w fun e w' => e = .returned (.tuple #[.int .i64 (b / 1048576), .int .i64 (b % 1048576)]) ∧ w = w' := by
  go_enter Tryz.func168, Tryz.ntmps168
  go_wp2
  go_ret2
  exact ⟨rfl, rfl⟩
def PartNo (w : World) (e : Ending) (w' : World) : Prop := ∃ x y : Int, ¬ TM.may x y ∧ e = .returned (.tuple #[.int .i64 x, .int .i64 y]) ∧ w = w'
theorem ppart_neg (b : Int) (w : World) (h : b < 0) (h2 : -9223372036854775808 ≤ b) : Calls Tryz.prog 168 #[.int .i64 b] w (PartNo w) := by
  have ht : ¬ TM.may (b.tdiv 1048576) (b.tmod 1048576) := by
    have e : b = -(-b) := by omega
    rw [e, Int.neg_tdiv, Int.neg_tmod, Int.tdiv_eq_ediv_of_nonneg (by omega), Int.tmod_eq_emod_of_nonneg (by omega)]
    unfold TM.may
    omega
  go_enter Tryz.func168, Tryz.ntmps168
  go_wp2
  go_ret2
  exact ⟨_, _, ht, rfl, rfl⟩
theorem pof_any {b r n y : Int} (h : TM.OfIs b r n y) (h1 : -9223372036854775808 ≤ b) (h2 : b ≤ 9223372036854775807) (w : World) : Calls Tryz.prog 162 #[.int .i64 b] w fun e w' => e = .returned (.tuple #[.int .i64 r, .int .i64 n, .int .i64 y]) ∧ w = w' := by
  rcases h with ⟨h, rfl, rfl, rfl⟩ | ⟨h, rfl, rfl, rfl⟩
  · have hb : 0 ≤ b := h.1
    have hok := (TM.good_iff b hb).1 h
    clear h
    obtain ⟨q, hq⟩ : ∃ q, q = b / 1048576 := ⟨_, rfl⟩
    obtain ⟨p, hp⟩ : ∃ p, p = b % 1048576 := ⟨_, rfl⟩
    have HP := Lib.hid (ppart_nat b w hb h2)
    rw [← hq, ← hp] at HP hok ⊢
    clear hq hp
    have HM := Lib.hid (pmay_any q p w)
    rw [decide_eq_true hok] at HM
    clear hok
    go_enter Tryz.func162, Tryz.ntmps162
    go_wp2_with fail
    refine (HP.out).mono ?_
    rintro e w1 ⟨rfl, rfl⟩
    go_wp2_with fail
    refine (HM.out).mono ?_
    rintro e w1 ⟨rfl, rfl⟩
    go_wp2
    go_ret3
    exact ⟨rfl, rfl⟩
  · have HP : Hid (Calls Tryz.prog 168 #[.int .i64 b] w (PartNo w)) := Lib.hid (by
      rcases (show 0 ≤ b ∨ b < 0 by omega) with hb | hb
      · exact (ppart_nat b w hb h2).mono fun e w' k => ⟨_, _, fun g => h ((TM.good_iff b hb).2 g), k.1, k.2⟩
      · exact ppart_neg b w hb h1)
    clear h
    go_enter Tryz.func162, Tryz.ntmps162
    go_wp2_with fail
    refine (HP.out).mono ?_
    rintro e w1 ⟨x, y, hx, rfl, rfl⟩
    have HM := Lib.hid (pmay_any x y w)
    rw [decide_eq_false hx] at HM
    clear hx
    go_wp2_with fail
    refine (HM.out).mono ?_
    rintro e w1 ⟨rfl, rfl⟩
    go_wp2
    go_ret3
    exact ⟨rfl, rfl⟩
end Go.Proofs.YteebeiaokfenmaaGreat.TP

namespace Go.Proofs.YteebeiaokfenmaaGreat.TP
open Go.RowKit
open TM (Sp)
set_option linter.unusedVariables false
set_option linter.unusedSimpArgs false
set_option maxRecDepth 100000

def SpFit (a : Sp) : Prop := (-9223372036854775808 ≤ a.t ∧ a.t ≤ 9223372036854775807) ∧ (-9223372036854775808 ≤ a.i ∧ a.i ≤ 9223372036854775807)
theorem box_2 {w : World} {g : Nat} {t : TypeId} {a b : Value} (h : Box w g t #[a, b]) : w.cell? ⟨g, 0, none⟩ = some a ∧ w.cell? ⟨g, 1, none⟩ = some b := ⟨h.cell 0, h.cell 1⟩
set_option maxHeartbeats 2000000 in
theorem pcheck_any (a : Sp) (w : World) (hf : SpFit a) : Calls Tryz.prog 148 #[vsp a] w (IsN (TM.chk a) w) := by
  obtain ⟨r, n, y, hof⟩ := TM.ofIs_ex a.i
  have HO := Lib.hid (fun w => pof_any hof hf.2.1 hf.2.2 w)
  have hy : (y = 0 ∧ TM.good a.i) ∨ (y = 2 ∧ ¬ TM.good a.i) := by
    rcases hof with ⟨h, _, _, h2⟩ | ⟨h, _, _, h2⟩
    · exact .inl ⟨h2, h⟩
    · exact .inr ⟨h2, h⟩
  have HY := Lib.hid hy
  clear hy hof hf
  obtain ⟨t, i⟩ := a
  simp only at HO HY
  unfold vsp
  simp only
  have HB := Lib.hid (show Below w.heap.size w (w.alloc (.cells #[.int .i64 t, .int .i64 i] 46)) from (Below.refl _ _).alloc (Nat.le_refl _) _)
  have X := Lib.hid (Box.new w 46 #[.int .i64 t, .int .i64 i])
  rcases (show t < 0 ∨ (0 ≤ t ∧ 1073741824 < t) ∨ (0 ≤ t ∧ ¬ 1073741824 < t) by omega) with h | ⟨h0, h⟩ | ⟨h0, h⟩
  rotate_right
  · rcases HY.out with ⟨rfl, hg⟩ | ⟨rfl, hg⟩
    · rw [show TM.chk ⟨t, i⟩ = 0 from if_pos ⟨h0, by simp only; omega, hg.1, hg.2⟩]
      clear HY hg
      go_enter Tryz.func148, Tryz.ntmps148
      go_upto_region 1 with (fail)
      generalize w.alloc (.cells #[.int .i64 t, .int .i64 i] 46) = w1 at HB X ⊢
      generalize hg : w.heap.size = g at X ⊢
      clear hg
      obtain ⟨x0, x1⟩ := box_2 X.out
      go_wp2_with fail
      refine (HO.out w1).mono ?_
      rintro e w2 ⟨rfl, rfl⟩
      go_wp2_with fail
      go_ret
      exact ⟨rfl, HB.out⟩
    · rw [show TM.chk ⟨t, i⟩ = 8 from if_neg (fun g => hg ⟨g.2.2.1, g.2.2.2⟩)]
      clear HY hg
      go_enter Tryz.func148, Tryz.ntmps148
      go_upto_region 1 with (fail)
      generalize w.alloc (.cells #[.int .i64 t, .int .i64 i] 46) = w1 at HB X ⊢
      generalize hg : w.heap.size = g at X ⊢
      clear hg
      obtain ⟨x0, x1⟩ := box_2 X.out
      go_wp2_with fail
      refine (HO.out w1).mono ?_
      rintro e w2 ⟨rfl, rfl⟩
      go_wp2_with fail
      go_ret
      exact ⟨rfl, HB.out⟩
  all_goals
    rw [show TM.chk ⟨t, i⟩ = 8 from if_neg (fun g => by unfold TM.ok at g; simp only at g; omega)]
    go_enter Tryz.func148, Tryz.ntmps148
    go_upto_region 1 with (fail)
    generalize w.alloc (.cells #[.int .i64 t, .int .i64 i] 46) = w1 at HB X ⊢
    generalize hg : w.heap.size = g at X ⊢
    clear hg
    obtain ⟨x0, x1⟩ := box_2 X.out
    go_wp2_with fail
    go_ret
    exact ⟨rfl, HB.out⟩
/-- how far a row has been looked at -/
def Seen (l : List Sp) (i : Nat) : Prop := ∀ k a b, k + 1 < i → l[k]? = some a → l[k + 1]? = some b → TM.less a b = true
theorem seen_one (l : List Sp) : Seen l 1 := fun k a b h => absurd h (by omega)
theorem Seen.next {l : List Sp} {i : Nat} {a b : Sp} (h : Seen l i) (h1 : 1 ≤ i) (ha : l[i - 1]? = some a) (hb : l[i]? = some b) (hl : TM.less a b = true) : Seen l (i + 1) := fun k x y hk hx hy => by
  rcases (show k + 1 < i ∨ k + 1 = i by omega) with h2 | h2
  · exact h k x y h2 hx hy
  · obtain rfl : k = i - 1 := by omega
    rw [show i - 1 + 1 = i by omega] at hy
    rw [ha] at hx
    rw [hb] at hy
    injection hx with hx
    injection hy with hy
    subst hx hy
    exact hl
theorem Seen.all {l : List Sp} {i : Nat} (h : Seen l i) (hi : l.length ≤ i) : TM.rises l = true := (TM.rises_iff l).2 fun k a b ha hb => h k a b (by have := (List.getElem?_eq_some_iff.1 hb).1; omega) ha hb
theorem seen_no {l : List Sp} {i : Nat} {a b : Sp} (h1 : 1 ≤ i) (ha : l[i - 1]? = some a) (hb : l[i]? = some b) (hl : TM.less a b = false) : TM.rises l = false := by
  rcases h : TM.rises l with _ | _
  · rfl
  · have := (TM.rises_iff l).1 h (i - 1) a b ha (by rw [show i - 1 + 1 = i by omega]; exact hb)
    rw [hl] at this
    cases this
set_option maxHeartbeats 4000000 in
theorem prises_any (A : Option Addr) (n c : Nat) (l : List Sp) (w : World) (h : SpsIs w A n c l) : Calls Tryz.prog 28 #[.slice A n c] w (IsB (TM.rises l) w) := by
  have hn := h.small
  have hl := h.2.1
  obtain ⟨r, hr⟩ : ∃ r, r = TM.rises l := ⟨_, rfl⟩
  rw [← hr]
  have HR := Lib.hid hr
  have H := Lib.hid h
  have HL := Lib.hid hl
  clear h hl hr
  go_enter Tryz.func28, Tryz.ntmps28
  go_wp2_with fail
  go_loopw [3] (fun i wr => ∃ k : Nat, 1 ≤ k ∧ k ≤ n + 1 ∧ i = .int .i64 k ∧ Below w.heap.size w wr ∧ Hid (Seen l k)) (fun i _ => n + 1 - (intOf i).toNat)
  case atStart => exact ⟨1, by omega, by omega, rfl, Below.refl _ _, Lib.hid (seen_one l)⟩
  case round =>
    obtain ⟨k, hk1, hk, rfl, hB, HSn⟩ := hrel
    have HB := Lib.hid hB
    clear hB
    by_cases hlt : k < n
    · obtain ⟨a, ha⟩ : ∃ a, l[k - 1]? = some a := ⟨_, List.getElem?_eq_getElem (by have := HL.out; omega)⟩
      obtain ⟨b, hb⟩ : ∃ b, l[k]? = some b := ⟨_, List.getElem?_eq_getElem (by have := HL.out; omega)⟩
      have HA := Lib.hid ha
      have HBb := Lib.hid hb
      obtain ⟨bl, o, rfl, _, _, a0, a1⟩ := (H.out.below HB.out).at_ ha
      obtain ⟨bl', o', e', _, _, b0, b1⟩ := (H.out.below HB.out).at_ hb
      injection e' with e'
      injection e' with e1 e2
      subst e1 e2
      clear ha hb
      obtain ⟨j, hj⟩ : ∃ j, j = k - 1 := ⟨_, rfl⟩
      rw [← hj] at a0 a1 HA
      have hkj : IntKind.i64.wrap ((k : Int) - 1) = (j : Int) := by rw [IntKind.wrap_i64]; omega
      have hk0 : (0 : Int) ≤ (j : Int) := by omega
      have hkn : (j : Int) < (n : Int) := by omega
      have hk2 : (0 : Int) ≤ (k : Int) := by omega
      have hk3 : (k : Int) < (n : Int) := by omega
      have HJ := Lib.hid hj
      clear hj
      obtain ⟨q, hq⟩ : ∃ q, q = TM.less a b := ⟨_, rfl⟩
      have HQ := Lib.hid hq
      have C := Lib.hid (fun w => pless_any a b w)
      rw [← hq] at C
      clear hq
      obtain ⟨at_, ai⟩ := a
      obtain ⟨bt, bi⟩ := b
      unfold vsp at C
      simp only at a0 a1 b0 b1 C
      have HSS := Lib.hid (fun (W : World) (h : Below wr.heap.size wr W) => show W.cell? ⟨bl, o + j * 2, none⟩ = some (.int .i64 at_) ∧ W.cell? ⟨bl, o + j * 2 + 1, none⟩ = some (.int .i64 ai) ∧ W.cell? ⟨bl, o + k * 2, none⟩ = some (.int .i64 bt) ∧ W.cell? ⟨bl, o + k * 2 + 1, none⟩ = some (.int .i64 bi) from
        ⟨(h.cell (cell_block a0)).trans a0, (h.cell (cell_block a1)).trans a1, (h.cell (cell_block b0)).trans b0, (h.cell (cell_block b1)).trans b1⟩)
      have bb1 : Below wr.heap.size wr wr.drew := (Below.refl _ _).drew
      go_wp2_with fail
      go_region_held3 (fun W => W.cell? ⟨bl, o + j * 2, none⟩ = some (.int .i64 at_) ∧ W.cell? ⟨bl, o + j * 2 + 1, none⟩ = some (.int .i64 ai) ∧ W.cell? ⟨bl, o + k * 2, none⟩ = some (.int .i64 bt) ∧ W.cell? ⟨bl, o + k * 2 + 1, none⟩ = some (.int .i64 bi))
        (first | exact HSS.out _ bb1 | exact HSS.out _ hb3 | go_keep)
        ((go_at_call 54; refine (C.out _).mono ?_; rintro e w5 ⟨rfl, hb⟩; have hb3 := bmore bb1 hb (Nat.le_refl _)))
      all_goals
        have HN := Lib.hid (bmore HB.out hb3 (Nat.le_refl _))
        clear hb3 hb bb1 HSS a0 a1 b0 b1 C
        rcases q with _ | _
        · simp only [Bool.not_false]
          have HF := Lib.hid (show r = false by
            rw [HR.out]
            exact seen_no hk1 (by rw [← HJ.out]; exact HA.out) HBb.out HQ.out.symm)
          go_wp2_with fail
          go_ret
          exact ⟨by rw [HF.out]; rfl, HN.out⟩
        · simp only [Bool.not_true]
          have HF := Lib.hid (HSn.out.next hk1 (by rw [← HJ.out]; exact HA.out) HBb.out HQ.out.symm)
          go_wp2_with fail
          go_roundw
          case rel => exact ⟨k + 1, by omega, by omega, by go_num, HN.out, HF⟩
          case measure => simp [intOf]; omega
    · go_wp2_with fail
      go_ret
      exact ⟨by rw [HR.out, HSn.out.all (by have := HL.out; omega)]; rfl, HB.out⟩
end Go.Proofs.YteebeiaokfenmaaGreat.TP
