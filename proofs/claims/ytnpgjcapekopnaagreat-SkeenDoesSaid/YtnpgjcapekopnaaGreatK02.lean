/-
  cmp.Compare and cmp.Or of ints. Conditions: as each theorem says.
  What package stamp answers: order, ids and whose they are, whether a stamp may be. Conditions: as each theorem says.
  Package stamp's Check and Rises. Conditions: as each theorem says.
  A group's clock: the parts in which its check asks; where something waits among what rises by ids; how many are left of what rises, each one once. No program.
  The library's own contracts of slices.Sort and slices.Compact of ints, laid at this program by numbers; no walk.
-/
import Derived.Test.YtnpgjcapekopnaaGreatProg
import Derived.Test.YtnpgjcapekopnaaGreatSpMath
import Derived.Test.YtnpgjcapekopnaaGreatBox
import Derived.Lib.Hide
import Derived.WalkKit
import Derived.Test.YtnpgjcapekopnaaGreatSpMem
import Derived.Deep.QuietTactic
import Derived.BigQuiet
import Derived.Deep.RegionHeld3
import Derived.Deep.DeepCutAuto
import Derived.Lib.MinMax
import Derived.Test.YtnpgjcapekopnaaGreatSkMath
import Derived.Lib.SlicesCompact
import Derived.Shelf.Sort.Plain
import Derived.Shelf.Slices.CompactI
namespace Go.Proofs.YtnpgjcapekopnaaGreat.TP
open Go.RowKit
set_option linter.unusedVariables false
set_option linter.unusedSimpArgs false
set_option maxRecDepth 100000

theorem isnan_any (x : Int) (w : World) : Calls Tryz.prog 81 #[.int .i64 x] w fun e w' => e = .returned (.bool false) ∧ w = w' := by
  have h : ((x : Int) != x) = false := by simp
  go_enter Tryz.func81, Tryz.ntmps81
  go_wp2_with fail
  go_ret
  exact ⟨by simp, rfl⟩
set_option maxHeartbeats 1000000 in
theorem compare_any (a b : Int) (w : World) : Calls Tryz.prog 62 #[.int .i64 a, .int .i64 b] w fun e w' => e = .returned (.int .i64 (TM.cmpI a b)) ∧ w = w' := by
  obtain ⟨z, hz⟩ : ∃ z, z = TM.cmpI a b := ⟨_, rfl⟩
  rw [← hz]
  unfold TM.cmpI at hz
  rcases (show a < b ∨ (¬ a < b ∧ b < a) ∨ (¬ a < b ∧ ¬ b < a) by omega) with h1 | ⟨h1, h2⟩ | ⟨h1, h2⟩
  · obtain rfl : z = -1 := by rw [hz, if_pos h1]
    clear hz
    go_enter Tryz.func62, Tryz.ntmps62
    go_wp2_with fail
    refine (isnan_any a w).mono ?_
    rintro e w1 ⟨rfl, rfl⟩
    go_wp2_with fail
    refine (isnan_any b w).mono ?_
    rintro e w1 ⟨rfl, rfl⟩
    go_wp2_with fail
    go_ret
    exact ⟨rfl, rfl⟩
  · obtain rfl : z = 1 := by rw [hz, if_neg h1, if_pos h2]
    clear hz
    go_enter Tryz.func62, Tryz.ntmps62
    go_wp2_with fail
    refine (isnan_any a w).mono ?_
    rintro e w1 ⟨rfl, rfl⟩
    go_wp2_with fail
    refine (isnan_any b w).mono ?_
    rintro e w1 ⟨rfl, rfl⟩
    go_wp2_with fail
    go_ret
    exact ⟨rfl, rfl⟩
  · obtain rfl : z = 0 := by rw [hz, if_neg h1, if_neg h2]
    clear hz
    go_enter Tryz.func62, Tryz.ntmps62
    go_wp2_with fail
    refine (isnan_any a w).mono ?_
    rintro e w1 ⟨rfl, rfl⟩
    go_wp2_with fail
    refine (isnan_any b w).mono ?_
    rintro e w1 ⟨rfl, rfl⟩
    go_wp2_with fail
    go_ret
    exact ⟨rfl, rfl⟩
set_option maxHeartbeats 1000000 in
theorem or_any (bl : Nat) (z y x : Int) (w : World) (h : Box w bl 3 #[.int .i64 z, .int .i64 y]) (hx : x = TM.orI z y) :
    Calls Tryz.prog 86 #[.slice (some ⟨bl, 0, none⟩) 2 2] w fun e w' => e = .returned (.int .i64 x) ∧ w = w' := by
  have c0 := h.cell 0
  have c1 := h.cell 1
  simp at c0 c1
  unfold TM.orI at hx
  have HX := Lib.hid hx
  clear h hx
  go_enter Tryz.func86, Tryz.ntmps86
  go_wp2_with fail
  go_loop [8] (fun i => ∃ k : Nat, k ≤ 2 ∧ i = .int .i64 k ∧ Hid ((1 ≤ k → z = 0) ∧ (2 ≤ k → y = 0))) (fun i => 2 - (intOf i).toNat)
  case atStart => exact ⟨0, by omega, rfl, Lib.hid ⟨by omega, by omega⟩⟩
  case round =>
    obtain ⟨k, hk, rfl, HK⟩ := hrel
    rcases (show k = 0 ∨ k = 1 ∨ k = 2 by omega) with rfl | rfl | rfl
    · by_cases hz : z = 0
      · have HZ := Lib.hid hz
        have hb : (z != 0) = false := by simp [hz]
        clear hz
        go_wp2_with fail
        go_round
        case rel => exact ⟨1, by omega, rfl, Lib.hid ⟨fun _ => HZ.out, by omega⟩⟩
        case measure => simp [intOf]
      · have HZ := Lib.hid (show x = z by rw [HX.out, if_pos hz])
        have hb : (z != 0) = true := by simp [hz]
        clear hz
        go_wp2_with fail
        go_ret
        exact ⟨by rw [HZ.out]; rfl, rfl⟩
    · have hz := HK.out.1 (by omega)
      by_cases hy : y = 0
      · have HZ := Lib.hid (And.intro hz hy)
        have hb : (y != 0) = false := by simp [hy]
        clear hz hy
        go_wp2_with fail
        go_round
        case rel => exact ⟨2, by omega, rfl, Lib.hid ⟨fun _ => HZ.out.1, fun _ => HZ.out.2⟩⟩
        case measure => simp [intOf]
      · have HZ := Lib.hid (show x = y by rw [HX.out, if_neg (fun h => h hz)])
        have hb : (y != 0) = true := by simp [hy]
        clear hy hz
        go_wp2_with fail
        go_ret
        exact ⟨by rw [HZ.out]; rfl, rfl⟩
    · have HZ := Lib.hid (show x = 0 by rw [HX.out, if_neg (fun h => h (HK.out.1 (by omega)))]; exact HK.out.2 (by omega))
      go_wp2_with fail
      go_ret
      exact ⟨by rw [HZ.out]; rfl, rfl⟩
end Go.Proofs.YtnpgjcapekopnaaGreat.TP

namespace Go.Proofs.YtnpgjcapekopnaaGreat.TP
open Go.RowKit
open TM (Sp)
set_option linter.unusedVariables false
set_option linter.unusedSimpArgs false
set_option maxRecDepth 100000

set_option maxHeartbeats 2000000 in
theorem pless_any (a b : Sp) (w : World) : Calls Tryz.prog 69 #[vsp a, vsp b] w (IsB (TM.less a b) w) := by
  have HR := Lib.hid (TM.less_cmp a b)
  generalize TM.less a b = r at HR ⊢
  obtain ⟨z, hz⟩ : ∃ z, z = TM.cmpI a.t b.t := ⟨_, rfl⟩
  obtain ⟨y, hy⟩ : ∃ y, y = TM.cmpI a.i b.i := ⟨_, rfl⟩
  have C1 := Lib.hid (fun w => compare_any a.t b.t w)
  have C2 := Lib.hid (fun w => compare_any a.i b.i w)
  rw [← hz] at C1 HR
  rw [← hy] at C2 HR
  obtain ⟨x, hx⟩ : ∃ x, x = TM.orI z y := ⟨_, rfl⟩
  rw [← hx] at HR
  have HX := Lib.hid hx
  clear hz hy hx
  unfold vsp
  obtain ⟨at_, ai⟩ := a
  obtain ⟨bt, bi⟩ := b
  simp only at C1 C2 ⊢
  have HB := Lib.hid (show Below w.heap.size w ((w.alloc (.cells #[.int .i64 at_, .int .i64 ai] 70)).alloc (.cells #[.int .i64 bt, .int .i64 bi] 70)) from
    ((Below.refl _ _).alloc (Nat.le_refl _) _).alloc (by simp) _)
  have X := Lib.hid ((Box.new w 70 #[.int .i64 at_, .int .i64 ai]).alloc (.cells #[.int .i64 bt, .int .i64 bi] 70))
  have Y := Lib.hid (Box.new_at (w := w.alloc (.cells #[.int .i64 at_, .int .i64 ai] 70)) (t := 70) (cs := #[.int .i64 bt, .int .i64 bi]) (w.heap.size + 1) (by simp))
  go_enter Tryz.func69, Tryz.ntmps69
  go_upto_region 1 with (fail)
  generalize (w.alloc (.cells #[.int .i64 at_, .int .i64 ai] 70)).alloc (.cells #[.int .i64 bt, .int .i64 bi] 70) = w1 at HB X Y ⊢
  generalize hg : w.heap.size = g at X Y ⊢
  have HG := Lib.hid hg
  clear hg
  have HSS := Lib.hid (fun (w' : World) (h : Below w1.heap.size w1 w') => show w'.cell? ⟨g, 0, none⟩ = some (.int .i64 at_) ∧ w'.cell? ⟨g, 1, none⟩ = some (.int .i64 ai) ∧ w'.cell? ⟨g + 1, 0, none⟩ = some (.int .i64 bt) ∧ w'.cell? ⟨g + 1, 1, none⟩ = some (.int .i64 bi) from
    ⟨(X.out.below h X.out.lt).cell 0, (X.out.below h X.out.lt).cell 1, (Y.out.below h Y.out.lt).cell 0, (Y.out.below h Y.out.lt).cell 1⟩)
  obtain ⟨_, _, _, _⟩ := HSS.out w1 (Below.refl _ _)
  have bb1 : Below w1.heap.size w1 w1.drew := (Below.refl _ _).drew
  go_region_held3 (fun w' => w'.cell? ⟨g, 0, none⟩ = some (.int .i64 at_) ∧ w'.cell? ⟨g, 1, none⟩ = some (.int .i64 ai) ∧ w'.cell? ⟨g + 1, 0, none⟩ = some (.int .i64 bt) ∧ w'.cell? ⟨g + 1, 1, none⟩ = some (.int .i64 bi))
    (first | exact HSS.out _ bb1 | exact HSS.out _ (bb1.alloc bb1.size _) | go_keep)
    (first
      | (go_at_call 62; (first | (with_reducible refine (C1.out _).mono ?_) | (with_reducible refine (C2.out _).mono ?_)); rintro e w' ⟨rfl, rfl⟩)
      | (go_at_call 86; refine (or_any w1.heap.size z y x _ (Box.new w1.drew _ _) HX.out).mono ?_; rintro e w' ⟨rfl, rfl⟩))
  all_goals
    go_wp2_with fail
    go_ret
    exact ⟨by first | rfl | (rw [← HR.out]; rfl), HB.out.trans ((bb1.alloc bb1.size _).mono HB.out.size)⟩
theorem pmay_any (s n : Int) (w : World) : Calls Tryz.prog 95 #[.int .i64 s, .int .i64 n] w fun e w' => e = .returned (.bool (decide (TM.may s n))) ∧ w = w' := by
  rcases (show s < 0 ∨ (0 ≤ s ∧ 6 ≤ s) ∨ (0 ≤ s ∧ s < 6 ∧ n < 0) ∨ (0 ≤ s ∧ s < 6 ∧ 0 ≤ n ∧ 1048576 ≤ n) ∨ (0 ≤ s ∧ s < 6 ∧ 0 ≤ n ∧ n < 1048576) by omega) with h | ⟨h0, h⟩ | ⟨h0, h1, h⟩ | ⟨h0, h1, h2, h⟩ | ⟨h0, h1, h2, h⟩
  rotate_right
  · rw [decide_eq_true (show TM.may s n from ⟨h0, h1, h2, h⟩)]
    go_enter Tryz.func95, Tryz.ntmps95
    go_wp2_with fail
    go_ret
    exact ⟨rfl, rfl⟩
  all_goals
    rw [decide_eq_false (show ¬ TM.may s n from by unfold TM.may; omega)]
    go_enter Tryz.func95, Tryz.ntmps95
    go_wp2_with fail
    go_ret
    exact ⟨by first | rfl | (simp; try omega), rfl⟩
theorem ppart_nat (b : Int) (w : World) (h : 0 ≤ b) (h2 : b ≤ 9223372036854775807) : Calls Tryz.prog 94 #[.int .i64 b] w fun e w' => e = .returned (.tuple #[.int .i64 (b / 1048576), .int .i64 (b % 1048576)]) ∧ w = w' := by
  go_enter Tryz.func94, Tryz.ntmps94
  go_wp2
  go_ret2
  exact ⟨rfl, rfl⟩
def PartNo (w : World) (e : Ending) (w' : World) : Prop := ∃ x y : Int, ¬ TM.may x y ∧ e = .returned (.tuple #[.int .i64 x, .int .i64 y]) ∧ w = w'
theorem ppart_neg (b : Int) (w : World) (h : b < 0) (h2 : -9223372036854775808 ≤ b) : Calls Tryz.prog 94 #[.int .i64 b] w (PartNo w) := by
  have ht : ¬ TM.may (b.tdiv 1048576) (b.tmod 1048576) := by
    have e : b = -(-b) := by omega
    rw [e, Int.neg_tdiv, Int.neg_tmod, Int.tdiv_eq_ediv_of_nonneg (by omega), Int.tmod_eq_emod_of_nonneg (by omega)]
    unfold TM.may
    omega
  go_enter Tryz.func94, Tryz.ntmps94
  go_wp2
  go_ret2
  exact ⟨_, _, ht, rfl, rfl⟩
theorem pof_any {b r n y : Int} (h : TM.OfIs b r n y) (h1 : -9223372036854775808 ≤ b) (h2 : b ≤ 9223372036854775807) (w : World) : Calls Tryz.prog 83 #[.int .i64 b] w fun e w' => e = .returned (.tuple #[.int .i64 r, .int .i64 n, .int .i64 y]) ∧ w = w' := by
  rcases h with ⟨h, rfl, rfl, rfl⟩ | ⟨h, rfl, rfl, rfl⟩
  · have hb : 0 ≤ b := h.1
    have hok := (TM.good_iff b hb).1 h
    clear h
    obtain ⟨q, hq⟩ : ∃ q, q = b / 1048576 := ⟨_, rfl⟩
    obtain ⟨p, hp⟩ : ∃ p, p = b % 1048576 := ⟨_, rfl⟩
    have HP := Lib.hid (ppart_nat b w hb h2)
    rw [← hq, ← hp] at HP hok ⊢
    clear hq hp
    have HM := Lib.hid (pmay_any q p w)
    rw [decide_eq_true hok] at HM
    clear hok
    go_enter Tryz.func83, Tryz.ntmps83
    go_wp2_with fail
    refine (HP.out).mono ?_
    rintro e w1 ⟨rfl, rfl⟩
    go_wp2_with fail
    refine (HM.out).mono ?_
    rintro e w1 ⟨rfl, rfl⟩
    go_wp2
    go_ret3
    exact ⟨rfl, rfl⟩
  · have HP : Hid (Calls Tryz.prog 94 #[.int .i64 b] w (PartNo w)) := Lib.hid (by
      rcases (show 0 ≤ b ∨ b < 0 by omega) with hb | hb
      · exact (ppart_nat b w hb h2).mono fun e w' k => ⟨_, _, fun g => h ((TM.good_iff b hb).2 g), k.1, k.2⟩
      · exact ppart_neg b w hb h1)
    clear h
    go_enter Tryz.func83, Tryz.ntmps83
    go_wp2_with fail
    refine (HP.out).mono ?_
    rintro e w1 ⟨x, y, hx, rfl, rfl⟩
    have HM := Lib.hid (pmay_any x y w)
    rw [decide_eq_false hx] at HM
    clear hx
    go_wp2_with fail
    refine (HM.out).mono ?_
    rintro e w1 ⟨rfl, rfl⟩
    go_wp2
    go_ret3
    exact ⟨rfl, rfl⟩
end Go.Proofs.YtnpgjcapekopnaaGreat.TP

namespace Go.Proofs.YtnpgjcapekopnaaGreat.TP
open Go.RowKit
open TM (Sp)
set_option linter.unusedVariables false
set_option linter.unusedSimpArgs false
set_option maxRecDepth 100000

def SpFit (a : Sp) : Prop := (-9223372036854775808 ≤ a.t ∧ a.t ≤ 9223372036854775807) ∧ (-9223372036854775808 ≤ a.i ∧ a.i ≤ 9223372036854775807)
theorem box_2 {w : World} {g : Nat} {t : TypeId} {a b : Value} (h : Box w g t #[a, b]) : w.cell? ⟨g, 0, none⟩ = some a ∧ w.cell? ⟨g, 1, none⟩ = some b := ⟨h.cell 0, h.cell 1⟩
set_option maxHeartbeats 2000000 in
theorem pcheck_any (a : Sp) (w : World) (hf : SpFit a) : Calls Tryz.prog 65 #[vsp a] w (IsN (TM.chk a) w) := by
  obtain ⟨r, n, y, hof⟩ := TM.ofIs_ex a.i
  have HO := Lib.hid (fun w => pof_any hof hf.2.1 hf.2.2 w)
  have hy : (y = 0 ∧ TM.good a.i) ∨ (y = 2 ∧ ¬ TM.good a.i) := by
    rcases hof with ⟨h, _, _, h2⟩ | ⟨h, _, _, h2⟩
    · exact .inl ⟨h2, h⟩
    · exact .inr ⟨h2, h⟩
  have HY := Lib.hid hy
  clear hy hof hf
  obtain ⟨t, i⟩ := a
  simp only at HO HY
  unfold vsp
  simp only
  have HB := Lib.hid (show Below w.heap.size w (w.alloc (.cells #[.int .i64 t, .int .i64 i] 70)) from (Below.refl _ _).alloc (Nat.le_refl _) _)
  have X := Lib.hid (Box.new w 70 #[.int .i64 t, .int .i64 i])
  rcases (show t < 0 ∨ (0 ≤ t ∧ 1073741824 < t) ∨ (0 ≤ t ∧ ¬ 1073741824 < t) by omega) with h | ⟨h0, h⟩ | ⟨h0, h⟩
  rotate_right
  · rcases HY.out with ⟨rfl, hg⟩ | ⟨rfl, hg⟩
    · rw [show TM.chk ⟨t, i⟩ = 0 from if_pos ⟨h0, by simp only; omega, hg.1, hg.2⟩]
      clear HY hg
      go_enter Tryz.func65, Tryz.ntmps65
      go_upto_region 1 with (fail)
      generalize w.alloc (.cells #[.int .i64 t, .int .i64 i] 70) = w1 at HB X ⊢
      generalize hg : w.heap.size = g at X ⊢
      clear hg
      obtain ⟨x0, x1⟩ := box_2 X.out
      go_wp2_with fail
      refine (HO.out w1).mono ?_
      rintro e w2 ⟨rfl, rfl⟩
      go_wp2_with fail
      go_ret
      exact ⟨rfl, HB.out⟩
    · rw [show TM.chk ⟨t, i⟩ = 8 from if_neg (fun g => hg ⟨g.2.2.1, g.2.2.2⟩)]
      clear HY hg
      go_enter Tryz.func65, Tryz.ntmps65
      go_upto_region 1 with (fail)
      generalize w.alloc (.cells #[.int .i64 t, .int .i64 i] 70) = w1 at HB X ⊢
      generalize hg : w.heap.size = g at X ⊢
      clear hg
      obtain ⟨x0, x1⟩ := box_2 X.out
      go_wp2_with fail
      refine (HO.out w1).mono ?_
      rintro e w2 ⟨rfl, rfl⟩
      go_wp2_with fail
      go_ret
      exact ⟨rfl, HB.out⟩
  all_goals
    rw [show TM.chk ⟨t, i⟩ = 8 from if_neg (fun g => by unfold TM.ok at g; simp only at g; omega)]
    go_enter Tryz.func65, Tryz.ntmps65
    go_upto_region 1 with (fail)
    generalize w.alloc (.cells #[.int .i64 t, .int .i64 i] 70) = w1 at HB X ⊢
    generalize hg : w.heap.size = g at X ⊢
    clear hg
    obtain ⟨x0, x1⟩ := box_2 X.out
    go_wp2_with fail
    go_ret
    exact ⟨rfl, HB.out⟩
/-- how far a row has been looked at -/
def Seen (l : List Sp) (i : Nat) : Prop := ∀ k a b, k + 1 < i → l[k]? = some a → l[k + 1]? = some b → TM.less a b = true
theorem seen_one (l : List Sp) : Seen l 1 := fun k a b h => absurd h (by omega)
theorem Seen.next {l : List Sp} {i : Nat} {a b : Sp} (h : Seen l i) (h1 : 1 ≤ i) (ha : l[i - 1]? = some a) (hb : l[i]? = some b) (hl : TM.less a b = true) : Seen l (i + 1) := fun k x y hk hx hy => by
  rcases (show k + 1 < i ∨ k + 1 = i by omega) with h2 | h2
  · exact h k x y h2 hx hy
  · obtain rfl : k = i - 1 := by omega
    rw [show i - 1 + 1 = i by omega] at hy
    rw [ha] at hx
    rw [hb] at hy
    injection hx with hx
    injection hy with hy
    subst hx hy
    exact hl
theorem Seen.all {l : List Sp} {i : Nat} (h : Seen l i) (hi : l.length ≤ i) : TM.rises l = true := (TM.rises_iff l).2 fun k a b ha hb => h k a b (by have := (List.getElem?_eq_some_iff.1 hb).1; omega) ha hb
theorem seen_no {l : List Sp} {i : Nat} {a b : Sp} (h1 : 1 ≤ i) (ha : l[i - 1]? = some a) (hb : l[i]? = some b) (hl : TM.less a b = false) : TM.rises l = false := by
  rcases h : TM.rises l with _ | _
  · rfl
  · have := (TM.rises_iff l).1 h (i - 1) a b ha (by rw [show i - 1 + 1 = i by omega]; exact hb)
    rw [hl] at this
    cases this
set_option maxHeartbeats 4000000 in
theorem prises_any (A : Option Addr) (n c : Nat) (l : List Sp) (w : World) (h : SpsIs w A n c l) : Calls Tryz.prog 66 #[.slice A n c] w (IsB (TM.rises l) w) := by
  have hn := h.small
  have hl := h.2.1
  obtain ⟨r, hr⟩ : ∃ r, r = TM.rises l := ⟨_, rfl⟩
  rw [← hr]
  have HR := Lib.hid hr
  have H := Lib.hid h
  have HL := Lib.hid hl
  clear h hl hr
  go_enter Tryz.func66, Tryz.ntmps66
  go_wp2_with fail
  go_loopw [3] (fun i wr => ∃ k : Nat, 1 ≤ k ∧ k ≤ n + 1 ∧ i = .int .i64 k ∧ Below w.heap.size w wr ∧ Hid (Seen l k)) (fun i _ => n + 1 - (intOf i).toNat)
  case atStart => exact ⟨1, by omega, by omega, rfl, Below.refl _ _, Lib.hid (seen_one l)⟩
  case round =>
    obtain ⟨k, hk1, hk, rfl, hB, HSn⟩ := hrel
    have HB := Lib.hid hB
    clear hB
    by_cases hlt : k < n
    · obtain ⟨a, ha⟩ : ∃ a, l[k - 1]? = some a := ⟨_, List.getElem?_eq_getElem (by have := HL.out; omega)⟩
      obtain ⟨b, hb⟩ : ∃ b, l[k]? = some b := ⟨_, List.getElem?_eq_getElem (by have := HL.out; omega)⟩
      have HA := Lib.hid ha
      have HBb := Lib.hid hb
      obtain ⟨bl, o, rfl, _, _, a0, a1⟩ := (H.out.below HB.out).at_ ha
      obtain ⟨bl', o', e', _, _, b0, b1⟩ := (H.out.below HB.out).at_ hb
      injection e' with e'
      injection e' with e1 e2
      subst e1 e2
      clear ha hb
      obtain ⟨j, hj⟩ : ∃ j, j = k - 1 := ⟨_, rfl⟩
      rw [← hj] at a0 a1 HA
      have hkj : IntKind.i64.wrap ((k : Int) - 1) = (j : Int) := by rw [IntKind.wrap_i64]; omega
      have hk0 : (0 : Int) ≤ (j : Int) := by omega
      have hkn : (j : Int) < (n : Int) := by omega
      have hk2 : (0 : Int) ≤ (k : Int) := by omega
      have hk3 : (k : Int) < (n : Int) := by omega
      have HJ := Lib.hid hj
      clear hj
      obtain ⟨q, hq⟩ : ∃ q, q = TM.less a b := ⟨_, rfl⟩
      have HQ := Lib.hid hq
      have C := Lib.hid (fun w => pless_any a b w)
      rw [← hq] at C
      clear hq
      obtain ⟨at_, ai⟩ := a
      obtain ⟨bt, bi⟩ := b
      unfold vsp at C
      simp only at a0 a1 b0 b1 C
      have HSS := Lib.hid (fun (W : World) (h : Below wr.heap.size wr W) => show W.cell? ⟨bl, o + j * 2, none⟩ = some (.int .i64 at_) ∧ W.cell? ⟨bl, o + j * 2 + 1, none⟩ = some (.int .i64 ai) ∧ W.cell? ⟨bl, o + k * 2, none⟩ = some (.int .i64 bt) ∧ W.cell? ⟨bl, o + k * 2 + 1, none⟩ = some (.int .i64 bi) from
        ⟨(h.cell (cell_block a0)).trans a0, (h.cell (cell_block a1)).trans a1, (h.cell (cell_block b0)).trans b0, (h.cell (cell_block b1)).trans b1⟩)
      have bb1 : Below wr.heap.size wr wr.drew := (Below.refl _ _).drew
      go_wp2_with fail
      go_region_held3 (fun W => W.cell? ⟨bl, o + j * 2, none⟩ = some (.int .i64 at_) ∧ W.cell? ⟨bl, o + j * 2 + 1, none⟩ = some (.int .i64 ai) ∧ W.cell? ⟨bl, o + k * 2, none⟩ = some (.int .i64 bt) ∧ W.cell? ⟨bl, o + k * 2 + 1, none⟩ = some (.int .i64 bi))
        (first | exact HSS.out _ bb1 | exact HSS.out _ hb3 | go_keep)
        ((go_at_call 69; refine (C.out _).mono ?_; rintro e w5 ⟨rfl, hb⟩; have hb3 := bmore bb1 hb (Nat.le_refl _)))
      all_goals
        have HN := Lib.hid (bmore HB.out hb3 (Nat.le_refl _))
        clear hb3 hb bb1 HSS a0 a1 b0 b1 C
        rcases q with _ | _
        · simp only [Bool.not_false]
          have HF := Lib.hid (show r = false by
            rw [HR.out]
            exact seen_no hk1 (by rw [← HJ.out]; exact HA.out) HBb.out HQ.out.symm)
          go_wp2_with fail
          go_ret
          exact ⟨by rw [HF.out]; rfl, HN.out⟩
        · simp only [Bool.not_true]
          have HF := Lib.hid (HSn.out.next hk1 (by rw [← HJ.out]; exact HA.out) HBb.out HQ.out.symm)
          go_wp2_with fail
          go_roundw
          case rel => exact ⟨k + 1, by omega, by omega, by go_num, HN.out, HF⟩
          case measure => simp [intOf]; omega
    · go_wp2_with fail
      go_ret
      exact ⟨by rw [HR.out, HSn.out.all (by have := HL.out; omega)]; rfl, HB.out⟩
end Go.Proofs.YtnpgjcapekopnaaGreat.TP

namespace Go.Proofs.YtnpgjcapekopnaaGreat.KM
open CM (Mg Cm)
open TM (Sp less ok Up rises)
set_option linter.unusedVariables false
set_option linter.unusedSimpArgs false

def areWt (s : Sk) : Prop := s.ws.length ≤ 200 ∧ (∀ w ∈ s.ws, CM.mgOk w.m ∧ 1 ≤ w.t ∧ w.t ≤ s.c) ∧ s.ws.Pairwise fun a b => a.m.id < b.m.id
def areDn (s : Sk) : Prop := s.ds.length ≤ 200 ∧ (∀ x ∈ s.ds, ok x ∧ 1 ≤ x.t ∧ x.t ≤ s.c) ∧ rises s.ds = true
def ids (s : Sk) : List Int := (s.ws.map fun w => w.m.id) ++ s.ds.map Sp.i
def behind (s : Sk) : Prop := ∀ z w, s.ds.getLast? = some z → s.ws[lst s.ws]? = some w → less z (stp w) = true
def due (s : Sk) : Prop := ∃ w, s.ws[lst s.ws]? = some w ∧ w.f = true
instance (s : Sk) : Decidable (areWt s) := by unfold areWt; infer_instance
instance (s : Sk) : Decidable (areDn s) := by unfold areDn; infer_instance
theorem less_next {a b c : Sp} (h1 : less a b = true) (h2 : less c b = false) : less a c = true := by
  simp only [less, decide_eq_false_iff_not, decide_eq_true_eq] at *
  unfold TM.lt at *
  omega
theorem may_iff {s : Sk} : may s ↔ (0 ≤ s.c ∧ s.c ≤ 1073741824) ∧ areWt s ∧ areDn s ∧ (ids s).Nodup ∧ behind s ∧ ¬ due s := by
  have hdue : HeadOk s.ws ↔ ¬ due s := by
    rw [headOk_iff]
    unfold due
    constructor
    · rintro h ⟨w, h1, h2⟩
      rw [h w h1] at h2; cases h2
    · intro h w h1
      rcases hf : w.f with _ | _
      · rfl
      · exact absurd ⟨w, h1, hf⟩ h
  have hpn : ∀ l : List Wt, (l.Pairwise fun a b => a.m.id < b.m.id) → (l.map fun w => w.m.id).Nodup := fun l h => by
    rw [List.Nodup, List.pairwise_map]
    exact h.imp fun h => by omega
  unfold may SizeOk DoneOk WaitOk areWt areDn ids
  rw [hdue, List.nodup_append]
  constructor
  · rintro ⟨⟨h1, h2, h3, h4⟩, ⟨h5, h6, h7⟩, ⟨h8, h9⟩, h10⟩
    refine ⟨⟨h1, h2⟩, ⟨h3, fun w hw => ⟨(h8 w hw).1, (h8 w hw).2.1⟩, h9⟩, ⟨h4, h5, h6⟩, ⟨hpn _ h9, h7, fun a ha b hb => ?_⟩, fun z w hz hw => ?_, h10⟩
    · obtain ⟨w, hw, rfl⟩ := List.mem_map.1 ha
      obtain ⟨x, hx, rfl⟩ := List.mem_map.1 hb
      exact fun e => doneF_no.1 (h8 w hw).2.2.1 x hx e.symm
    · exact last_all.1 (h8 w (List.mem_of_getElem? hw)).2.2.2 z hz
  · rintro ⟨⟨h1, h2⟩, ⟨h3, h8, h9⟩, ⟨h4, h5, h6⟩, ⟨_, h7, h11⟩, hb, h10⟩
    refine ⟨⟨h1, h2, h3, h4⟩, ⟨h5, h6, h7⟩, ⟨fun w hw => ⟨(h8 w hw).1, (h8 w hw).2, ?_, ?_⟩, h9⟩, h10⟩
    · exact doneF_no.2 fun x hx e => h11 _ (List.mem_map.2 ⟨w, hw, rfl⟩) _ (List.mem_map.2 ⟨x, hx, rfl⟩) e.symm
    · refine last_all.2 fun z hz => ?_
      obtain ⟨k, hk, rfl⟩ := List.getElem_of_mem hw
      obtain ⟨a, ha, g1, _⟩ := lst_least s.ws (by intro e; rw [e] at hk; simp at hk)
      exact less_next (hb z a hz ha) (g1 k _ (List.getElem?_eq_getElem hk))

-- where an id waits, or would
def wpos (l : List Wt) (id : Int) : Nat := l.findIdx fun w => decide (id ≤ w.m.id)
def whit (l : List Wt) (id : Int) : Bool := match l[wpos l id]? with | some y => decide (y.m.id = id) | none => false
theorem wpos_le (l : List Wt) (id : Int) : wpos l id ≤ l.length := List.findIdx_le_length
theorem wpos_of {l : List Wt} {id : Int} {k : Nat} (hk : k ≤ l.length) (h1 : ∀ t a, t < k → l[t]? = some a → a.m.id < id) (h2 : ∀ a, l[k]? = some a → id ≤ a.m.id) : wpos l id = k := by
  unfold wpos
  rcases Nat.lt_or_ge k l.length with h | h
  · rw [List.findIdx_eq h]
    refine ⟨by simpa using h2 _ (List.getElem?_eq_getElem h), fun j hj => ?_⟩
    have := h1 j _ hj (List.getElem?_eq_getElem (by omega))
    simp
    omega
  · have e : k = l.length := by omega
    rw [e, List.findIdx_eq_length]
    intro x hx
    obtain ⟨j, hj, rfl⟩ := List.getElem_of_mem hx
    have := h1 j _ (by omega) (List.getElem?_eq_getElem hj)
    simp
    omega
theorem wpos_lo {l : List Wt} {id : Int} {t : Nat} {a : Wt} (ht : t < wpos l id) (ha : l[t]? = some a) : a.m.id < id := by
  obtain ⟨hl, rfl⟩ := List.getElem?_eq_some_iff.1 ha
  have := List.not_of_lt_findIdx ht
  simpa using this
theorem wpos_hi {l : List Wt} {id : Int} {a : Wt} (ha : l[wpos l id]? = some a) : id ≤ a.m.id := by
  obtain ⟨hl, rfl⟩ := List.getElem?_eq_some_iff.1 ha
  exact of_decide_eq_true (List.findIdx_getElem (xs := l) (p := fun w : Wt => decide (id ≤ w.m.id)) (w := hl))
theorem whit_lt {l : List Wt} {id : Int} (h : whit l id = true) : wpos l id < l.length := by
  rcases Nat.lt_or_ge (wpos l id) l.length with h' | h'
  · exact h'
  · unfold whit at h
    rw [List.getElem?_eq_none h'] at h
    cases h
theorem whit_some {l : List Wt} {id : Int} (h : whit l id = true) : ∃ w, l[wpos l id]? = some w ∧ w.m.id = id := by
  have hl := whit_lt h
  refine ⟨_, List.getElem?_eq_getElem hl, ?_⟩
  unfold whit at h
  rw [List.getElem?_eq_getElem hl] at h
  simpa using h
theorem rise_get {l : List Wt} (hp : l.Pairwise fun a b => a.m.id < b.m.id) {i j : Nat} {a b : Wt} (hij : i < j) (ha : l[i]? = some a) (hb : l[j]? = some b) : a.m.id < b.m.id := by
  obtain ⟨h1, rfl⟩ := List.getElem?_eq_some_iff.1 ha
  obtain ⟨h2, rfl⟩ := List.getElem?_eq_some_iff.1 hb
  exact List.pairwise_iff_getElem.1 hp i j h1 h2 hij
theorem whit_wat {l : List Wt} {id : Int} (hp : l.Pairwise fun a b => a.m.id < b.m.id) (h : whit l id = true) : wat l id = wpos l id := by
  obtain ⟨w, h1, h2⟩ := whit_some h
  refine wat_eq h1 h2 fun j x hj hx => ?_
  have := rise_get hp hj hx h1
  omega
theorem whit_no {l : List Wt} {id : Int} (hp : l.Pairwise fun a b => a.m.id < b.m.id) (h : whit l id = false) : wat l id = l.length := by
  rw [wat_no]
  intro w hw e
  obtain ⟨j, hj, rfl⟩ := List.getElem_of_mem hw
  have hj2 : l[j]? = some l[j] := List.getElem?_eq_getElem hj
  have hk : wpos l id = j := wpos_of (by omega) (fun t a ht ha => by have := rise_get hp ht ha hj2; omega) (fun a ha => by rw [hj2] at ha; injection ha with ha; rw [← ha]; omega)
  unfold whit at h
  rw [hk, hj2] at h
  simp at h
  exact h e
theorem whit_iff {l : List Wt} {id : Int} (hp : l.Pairwise fun a b => a.m.id < b.m.id) : whit l id = true ↔ wat l id ≠ l.length := by
  constructor
  · intro h
    rw [whit_wat hp h]
    have := whit_lt h
    omega
  · intro h
    rcases hh : whit l id with _ | _
    · exact absurd (whit_no hp hh) h
    · rfl
theorem wpos_ins {l : List Wt} {w : Wt} (hp : l.Pairwise fun a b => a.m.id < b.m.id) (h : whit l w.m.id = false) : l.take (wpos l w.m.id) ++ [w] ++ l.drop (wpos l w.m.id) = ins l w := by
  have h1 : ∀ a ∈ l.take (wpos l w.m.id), a.m.id < w.m.id := fun a ha => by
    obtain ⟨j, hj, rfl⟩ := List.getElem_of_mem ha
    rw [List.length_take] at hj
    refine wpos_lo (l := l) (t := j) (by omega) ?_
    rw [List.getElem_take]
    exact List.getElem?_eq_getElem _
  have h2 : ∀ a ∈ l.drop (wpos l w.m.id), w.m.id < a.m.id := fun a ha => by
    obtain ⟨j, hj, rfl⟩ := List.getElem_of_mem ha
    rw [List.length_drop] at hj
    rw [List.getElem_drop]
    have hk : wpos l w.m.id < l.length := by omega
    have h3 := wpos_hi (l := l) (id := w.m.id) (List.getElem?_eq_getElem hk)
    have h4 : l[wpos l w.m.id].m.id ≠ w.m.id := fun e => by
      unfold whit at h
      rw [List.getElem?_eq_getElem hk] at h
      simp at h
      exact h e
    rcases Nat.eq_zero_or_pos j with rfl | hj0
    · simp only [Nat.add_zero]
      omega
    · have := rise_get hp (i := wpos l w.m.id) (j := wpos l w.m.id + j) (by omega) (List.getElem?_eq_getElem hk) (List.getElem?_eq_getElem (by omega))
      omega
  unfold ins
  congr 1
  · congr 1
    conv => rhs; rw [← List.take_append_drop (wpos l w.m.id) l]
    rw [List.filter_append, List.filter_eq_self.2 (fun a ha => by simpa using h1 a ha), List.filter_eq_nil_iff.2 (fun a ha => by have := h2 a ha; simp; omega), List.append_nil]
  · conv => rhs; rw [← List.take_append_drop (wpos l w.m.id) l]
    rw [List.filter_append, List.filter_eq_nil_iff.2 (fun a ha => by have := h1 a ha; simp; omega), List.filter_eq_self.2 (fun a ha => by simpa using h2 a ha), List.nil_append]

-- each one once
theorem keeps_get {zs : List Int} {j : Nat} (h0 : 0 < j) (hj : j < zs.length) : Lib.keeps zs.toArray j = false ↔ zs[j] = zs[j - 1] := by
  unfold Lib.keeps
  rw [getElem!_pos zs.toArray j (by simpa using hj), getElem!_pos zs.toArray (j - 1) (by simp; omega)]
  simp
  omega
theorem compact_lt {zs : List Int} (hs : zs.Pairwise (· ≤ ·)) : (Lib.compact zs).length < zs.length ↔ ¬ zs.Nodup := by
  constructor
  · intro h hn
    rw [Lib.compact_all zs] at h
    · omega
    · intro j hj
      rcases Nat.eq_zero_or_pos j with rfl | h0
      · exact Lib.keeps_lt_one _ 0 (by omega)
      · rcases hk : Lib.keeps zs.toArray j with _ | _
        · have := (keeps_get h0 hj).1 hk
          exact absurd this.symm (List.pairwise_iff_getElem.1 hn (j - 1) j (by omega) hj (by omega))
        · rfl
  · intro hn
    have hex : ∃ j, 0 < j ∧ ∃ h : j < zs.length, zs[j] = zs[j - 1] := by
      refine Classical.byContradiction fun hne => hn ?_
      rw [List.Nodup, List.pairwise_iff_getElem]
      intro i j hi hj hij e
      have h1 := List.pairwise_iff_getElem.1 hs i (i + 1) hi (by omega) (by omega)
      refine hne ⟨i + 1, by omega, by omega, ?_⟩
      simp only [Nat.add_sub_cancel]
      rcases Nat.lt_or_ge (i + 1) j with h2 | h2
      · have h3 := List.pairwise_iff_getElem.1 hs (i + 1) j (by omega) hj h2
        omega
      · have h4 : j = i + 1 := by omega
        subst h4
        exact e.symm
    obtain ⟨j, h0, hj, e⟩ := hex
    have hk := (keeps_get h0 hj).2 e
    unfold Lib.compact Lib.compactUpTo
    rw [List.length_map]
    have h1 : ((List.range zs.length).filter (Lib.keeps zs.toArray)).length + ((List.range zs.length).filter fun i => !Lib.keeps zs.toArray i).length = zs.length := by
      have := List.length_eq_countP_add_countP (Lib.keeps zs.toArray) (l := List.range zs.length)
      rw [List.length_range, List.countP_eq_length_filter, List.countP_eq_length_filter] at this
      simpa using this.symm
    have h2 : 0 < ((List.range zs.length).filter fun i => !Lib.keeps zs.toArray i).length :=
      List.length_pos_of_mem (List.mem_filter.2 ⟨List.mem_range.2 hj, by rw [hk]; rfl⟩)
    omega
theorem sorted_pair (zs : List Int) : (zs.mergeSort fun x y => decide (x ≤ y)).Pairwise (· ≤ ·) := by
  have := List.pairwise_mergeSort (le := fun x y : Int => decide (x ≤ y)) (fun a b c h1 h2 => by simp at *; omega) (fun a b => by simp; omega) zs
  exact this.imp fun h => by simpa using h
theorem twice_iff (zs : List Int) : (Lib.compact (zs.mergeSort fun x y => decide (x ≤ y))).length < zs.length ↔ ¬ zs.Nodup := by
  rw [← (List.mergeSort_perm zs fun x y => decide (x ≤ y)).nodup_iff, ← compact_lt (sorted_pair zs), List.length_mergeSort]
end Go.Proofs.YtnpgjcapekopnaaGreat.KM

namespace Go.Proofs.YtnpgjcapekopnaaGreat.KP
open Go.Shelf
set_option linter.unusedVariables false
set_option linter.unusedSimpArgs false

def laySort_ren : Go.Shelf.Ren := ⟨fun | 189 => 67 | 125 => 85 | 257 => 84 | 128 => 105 | 129 => 106 | 294 => 96 | 295 => 97 | 296 => 98 | 297 => 99 | 298 => 100 | 299 => 101 | 216 => 102 | 300 => 103 | 301 => 104 | 328 => 110 | 329 => 111 | 330 => 112 | 331 => 113 | 332 => 114 | 215 => 81 | 343 => 116 | n => n, fun | 28 => 26 | 3 => 3 | 46 => 112 | 0 => 0 | 51 => 134 | 53 => 136 | 4 => 4 | 183 => 128 | 182 => 127 | 131 => 62 | 5 => 5 | 9 => 9 | 218 => 138 | 222 => 142 | 228 => 145 | 229 => 123 | n => n, fun | n => n⟩
theorem laySort : Go.Proofs.Lays.n189 Tryz.prog laySort_ren := {
  mixed := by kernel_rfl
  f125 := Tryz.func85.trans (congrArg some (by kernel_rfl))
  f128 := Tryz.func105.trans (congrArg some (by kernel_rfl))
  f129 := Tryz.func106.trans (congrArg some (by kernel_rfl))
  f189 := Tryz.func67.trans (congrArg some (by kernel_rfl))
  f215 := Tryz.func81.trans (congrArg some (by kernel_rfl))
  f216 := Tryz.func102.trans (congrArg some (by kernel_rfl))
  f257 := Tryz.func84.trans (congrArg some (by kernel_rfl))
  f294 := Tryz.func96.trans (congrArg some (by kernel_rfl))
  f295 := Tryz.func97.trans (congrArg some (by kernel_rfl))
  f296 := Tryz.func98.trans (congrArg some (by kernel_rfl))
  f297 := Tryz.func99.trans (congrArg some (by kernel_rfl))
  f298 := Tryz.func100.trans (congrArg some (by kernel_rfl))
  f299 := Tryz.func101.trans (congrArg some (by kernel_rfl))
  f300 := Tryz.func103.trans (congrArg some (by kernel_rfl))
  f301 := Tryz.func104.trans (congrArg some (by kernel_rfl))
  f328 := Tryz.func110.trans (congrArg some (by kernel_rfl))
  f329 := Tryz.func111.trans (congrArg some (by kernel_rfl))
  f330 := Tryz.func112.trans (congrArg some (by kernel_rfl))
  f331 := Tryz.func113.trans (congrArg some (by kernel_rfl))
  f332 := Tryz.func114.trans (congrArg some (by kernel_rfl))
  f343 := Tryz.func116.trans (congrArg some (by kernel_rfl))
  t0 := Tryz.underlying0
  a0 := Tryz.isAgg0
  z0 := Tryz.sizeOf0
  v0 := Tryz.zeroValue0
  t3 := Tryz.underlying3
  a3 := Tryz.isAgg3
  z3 := Tryz.sizeOf3
  v3 := Tryz.zeroValue3
  t4 := Tryz.underlying4
  a4 := Tryz.isAgg4
  z4 := Tryz.sizeOf4
  v4 := Tryz.zeroValue4
  t5 := Tryz.underlying5
  a5 := Tryz.isAgg5
  z5 := Tryz.sizeOf5
  v5 := Tryz.zeroValue5
  t9 := Tryz.underlying9
  a9 := Tryz.isAgg9
  z9 := Tryz.sizeOf9
  v9 := Tryz.zeroValue9
  t28 := Tryz.underlying26
  a28 := Tryz.isAgg26
  z28 := Tryz.sizeOf26
  v28 := Tryz.zeroValue26
  t46 := Tryz.underlying112
  a46 := Tryz.isAgg112
  z46 := Tryz.sizeOf112
  v46 := Tryz.zeroValue112
  t51 := Tryz.underlying134
  a51 := Tryz.isAgg134
  z51 := Tryz.sizeOf134
  v51 := Tryz.zeroValue134
  t53 := Tryz.underlying136
  a53 := Tryz.isAgg136
  z53 := Tryz.sizeOf136
  v53 := Tryz.zeroValue136
  t131 := Tryz.underlying62
  a131 := Tryz.isAgg62
  z131 := Tryz.sizeOf62
  v131 := Tryz.zeroValue62
  t182 := Tryz.underlying127
  a182 := Tryz.isAgg127
  z182 := Tryz.sizeOf127
  v182 := Tryz.zeroValue127
  t183 := Tryz.underlying128
  a183 := Tryz.isAgg128
  z183 := Tryz.sizeOf128
  v183 := Tryz.zeroValue128
  t218 := Tryz.underlying138
  a218 := Tryz.isAgg138
  z218 := Tryz.sizeOf138
  v218 := Tryz.zeroValue138
  t222 := Tryz.underlying142
  a222 := Tryz.isAgg142
  z222 := Tryz.sizeOf142
  v222 := Tryz.zeroValue142
  t228 := Tryz.underlying145
  a228 := Tryz.isAgg145
  z228 := Tryz.sizeOf145
  v228 := Tryz.zeroValue145
  t229 := Tryz.underlying123
  a229 := Tryz.isAgg123
  z229 := Tryz.sizeOf123
  v229 := Tryz.zeroValue123 }
def layCompact_ren : Go.Shelf.Ren := ⟨fun | 20 => 68 | n => n, fun | 22 => 26 | 3 => 3 | 4 => 4 | 0 => 0 | n => n, fun | n => n⟩
theorem layCompact : Go.Proofs.Lays2.n20 Tryz.prog layCompact_ren := {
  mixed := by kernel_rfl
  f20 := Tryz.func68.trans (congrArg some (by kernel_rfl))
  t0 := Tryz.underlying0
  a0 := Tryz.isAgg0
  z0 := Tryz.sizeOf0
  v0 := Tryz.zeroValue0
  t3 := Tryz.underlying3
  a3 := Tryz.isAgg3
  z3 := Tryz.sizeOf3
  v3 := Tryz.zeroValue3
  t4 := Tryz.underlying4
  a4 := Tryz.isAgg4
  z4 := Tryz.sizeOf4
  v4 := Tryz.zeroValue4
  t22 := Tryz.underlying26
  a22 := Tryz.isAgg26
  z22 := Tryz.sizeOf26
  v22 := Tryz.zeroValue26
  i3 := by kernel_rfl }
end Go.Proofs.YtnpgjcapekopnaaGreat.KP
