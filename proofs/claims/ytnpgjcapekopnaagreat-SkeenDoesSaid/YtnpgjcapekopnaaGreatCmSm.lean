/-
  The document's own In, Id, SameMessage, Same (towncrierref12). Conditions: slices read as ints, lengths fit in an int.
-/
import Derived.Test.YtnpgjcapekopnaaGreatCmSame
import Derived.Deep.DeepCutAuto
namespace Go.Proofs.YtnpgjcapekopnaaGreat.CP
open Go.RowKit
open CM (Mg Cm)
set_option linter.unusedVariables false
set_option linter.unusedSimpArgs false
set_option maxRecDepth 100000

theorem text_ne {a b : ByteArray} (h : a ≠ b) : (a.toList == b.toList) = false := by
  simpa using fun e : a.toList = b.toList => h (by
    rw [ByteArray.toList_eq, ByteArray.toList_eq] at e
    obtain ⟨⟨x⟩⟩ := a
    obtain ⟨⟨y⟩⟩ := b
    simp at e
    rw [e])
set_option maxHeartbeats 4000000 in
theorem sameMessage_any (a b : Mg) (va vb : Value) (w : World) (ha : MgIs w va a) (hb : MgIs w vb b) :
    Calls Tryz.prog 32 #[va, vb] w (BoolIs (decide (a = b)) w) := by
  obtain ⟨A, c, rfl, r1, r1c, r1m⟩ := ha
  obtain ⟨B, d, rfl, r2, r2c, r2m⟩ := hb
  obtain ⟨ai, ag, at', ak, ab⟩ := a
  obtain ⟨bi, bg, bt, bk, bb⟩ := b
  simp only at r1 r1c r2 r2c
  have hiff : ((⟨ai, ag, at', ak, ab⟩ : Mg) = ⟨bi, bg, bt, bk, bb⟩) ↔ (ai = bi ∧ ag = bg ∧ at' = bt ∧ ak = bk ∧ ab = bb) := by simp
  have hno : ¬ (ai = bi ∧ ag = bg ∧ at' = bt ∧ ak = bk ∧ ab = bb) → false = decide ((⟨ai, ag, at', ak, ab⟩ : Mg) = ⟨bi, bg, bt, bk, bb⟩) := fun h => by
    have : ¬ ((⟨ai, ag, at', ak, ab⟩ : Mg) = ⟨bi, bg, bt, bk, bb⟩) := fun e => h (hiff.1 e)
    rw [decide_eq_false this]
  have hyes : (ai = bi ∧ ag = bg ∧ at' = bt ∧ ak = bk ∧ ab = bb) → true = decide ((⟨ai, ag, at', ak, ab⟩ : Mg) = ⟨bi, bg, bt, bk, bb⟩) := fun h => by
    rw [decide_eq_true (hiff.2 h)]
  have HNO := Lib.hid hno
  have HYES := Lib.hid hyes
  clear hno hyes hiff
  generalize decide ((⟨ai, ag, at', ak, ab⟩ : Mg) = ⟨bi, bg, bt, bk, bb⟩) = r at HNO HYES ⊢
  show Calls _ _ #[.agg #[.int .i64 ai, .slice A ag.length c, .int .i64 at', .string ak, .string ab], .agg #[.int .i64 bi, .slice B bg.length d, .int .i64 bt, .string bk, .string bb]] _ _
  have hb0 : ∀ o1 o2 : Obj, Below w.heap.size w ((w.alloc o1).alloc o2) := fun o1 o2 => ((Below.refl _ _).alloc (Nat.le_refl _) _).alloc (by simp) _
  have hs : ∀ o1 o2 : Obj, ((w.alloc o1).alloc o2).heap.size = w.heap.size + 2 := fun _ _ => by simp
  have hX : Box ((w.alloc (.cells #[.int .i64 ai, .slice A ag.length c, .int .i64 at', .string ak, .string ab] 28)).alloc (.cells #[.int .i64 bi, .slice B bg.length d, .int .i64 bt, .string bk, .string bb] 28)) w.heap.size 28 #[.int .i64 ai, .slice A ag.length c, .int .i64 at', .string ak, .string ab] := (Box.new _ _ _).alloc _
  have hY : Box ((w.alloc (.cells #[.int .i64 ai, .slice A ag.length c, .int .i64 at', .string ak, .string ab] 28)).alloc (.cells #[.int .i64 bi, .slice B bg.length d, .int .i64 bt, .string bk, .string bb] 28)) (w.heap.size + 1) 28 #[.int .i64 bi, .slice B bg.length d, .int .i64 bt, .string bk, .string bb] := Box.new_at _ (by simp)
  have C := Lib.hid (same_ints_any A B c d ag bg _ (r1.below (hb0 (.cells #[.int .i64 ai, .slice A ag.length c, .int .i64 at', .string ak, .string ab] 28) (.cells #[.int .i64 bi, .slice B bg.length d, .int .i64 bt, .string bk, .string bb] 28))) (r2.below (hb0 _ _)) (by omega) (by omega))
  have HX := Lib.hid hX
  have HY := Lib.hid hY
  have HB := Lib.hid (hb0 (.cells #[.int .i64 ai, .slice A ag.length c, .int .i64 at', .string ak, .string ab] 28) (.cells #[.int .i64 bi, .slice B bg.length d, .int .i64 bt, .string bk, .string bb] 28))
  clear hX hY hb0 hs r1 r2
  go_enter Tryz.func32, Tryz.ntmps32
  go_upto_region 1 with (fail)
  generalize (w.alloc (.cells #[.int .i64 ai, .slice A ag.length c, .int .i64 at', .string ak, .string ab] 28)).alloc (.cells #[.int .i64 bi, .slice B bg.length d, .int .i64 bt, .string bk, .string bb] 28) = w1 at HX HY HB C ⊢
  have G1 := Lib.hid HX.out.lt
  have G2 := Lib.hid HY.out.lt
  generalize hg1 : w.heap.size + 1 = g1 at HY G2 ⊢
  clear hg1
  generalize hg0 : w.heap.size = g0 at HX G1 ⊢
  clear hg0
  by_cases h1 : ai = bi
  rotate_left
  · have HF := Lib.hid (HNO.out (fun h => h1 h.1))
    have b1 : (ai == bi) = false := by simpa using h1
    obtain ⟨x0, x1, x2, x3, x4⟩ := box_mg HX.out
    obtain ⟨y0, y1, y2, y3, y4⟩ := box_mg HY.out
    clear h1 HNO HYES C HX HY
    go_wp2_with fail
    go_ret
    exact bool_ret HF.out HB.out
  subst h1
  have b1 : (ai == ai) = true := by simp
  obtain ⟨x0, x1, x2, x3, x4⟩ := box_mg HX.out
  obtain ⟨y0, y1, y2, y3, y4⟩ := box_mg HY.out
  go_wp2_with fail
  refine (C.out).mono ?_
  rintro e w2 ⟨rfl, hb2⟩
  clear x0 x1 x2 x3 x4 y0 y1 y2 y3 y4
  obtain ⟨x0, x1, x2, x3, x4⟩ := box_mg (HX.out.below hb2 G1.out)
  obtain ⟨y0, y1, y2, y3, y4⟩ := box_mg (HY.out.below hb2 G2.out)
  replace HB := Lib.hid (HB.out.trans (hb2.mono HB.out.size))
  clear C HX HY G1 G2 hb2
  by_cases h2 : ag = bg
  rotate_left
  · have HF := Lib.hid (HNO.out (fun h => h2 h.2.1))
    have b2 : decide (ag = bg) = false := by simpa using h2
    rw [b2]
    clear h2 HNO HYES b2
    go_wp2_with fail
    go_ret
    exact bool_ret HF.out HB.out
  rw [decide_eq_true h2]
  by_cases h3 : at' = bt
  rotate_left
  · have HF := Lib.hid (HNO.out (fun h => h3 h.2.2.1))
    have b3 : (at' == bt) = false := by simpa using h3
    clear h2 h3 HNO HYES
    go_wp2_with fail
    go_ret
    exact bool_ret HF.out HB.out
  subst h3
  have b3 : (at' == at') = true := by simp
  by_cases h4 : ak = bk
  rotate_left
  · have HF := Lib.hid (HNO.out (fun h => h4 h.2.2.2.1))
    have b4 := text_ne h4
    clear h2 HNO HYES
    go_wp2_with fail
    go_ret
    exact bool_ret HF.out HB.out
  subst h4
  have b4 : (ak.toList == ak.toList) = true := by simp
  by_cases h5 : ab = bb
  rotate_left
  · have HF := Lib.hid (HNO.out (fun h => h5 h.2.2.2.2))
    have b5 := text_ne h5
    clear h2 HNO HYES
    go_wp2_with fail
    go_ret
    exact bool_ret HF.out HB.out
  subst h5
  have b5 : (ab.toList == ab.toList) = true := by simp
  have HF := Lib.hid (HYES.out ⟨by simp, h2, by simp, by simp, by simp⟩)
  clear h2 HNO HYES
  go_wp2_with fail
  go_ret
  exact bool_ret HF.out HB.out
end Go.Proofs.YtnpgjcapekopnaaGreat.CP
