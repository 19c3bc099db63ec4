/-
  The document's own Same of two commands (towncrierref12). Conditions: as CmIs says.
-/
import Derived.Test.YteebeiaokfenmaaGreatK11
namespace Go.Proofs.YteebeiaokfenmaaGreat.CP
open Go.RowKit
open CM (Mg Cm)
set_option linter.unusedVariables false
set_option linter.unusedSimpArgs false
set_option maxRecDepth 100000

set_option maxHeartbeats 8000000 in
theorem same12_any (a b : Cm) (va vb : Value) (w : World) (ha : CmIs w va a) (hb : CmIs w vb b) :
    Calls Tryz.prog 144 #[va, vb] w (BoolIs (decide (a = b)) w) := by
  obtain ⟨A, c, P, q, rfl, r1, r3⟩ := ha
  obtain ⟨B, d, S, u, rfl, r2, r4⟩ := hb
  obtain ⟨ak, am, aid, atm, ams, atp, awh, an⟩ := a
  obtain ⟨bk, bm, bid, btm, bms, btp, bwh, bn⟩ := b
  simp only at r1 r2 r3 r4
  have hiff : ((⟨ak, am, aid, atm, ams, atp, awh, an⟩ : Cm) = ⟨bk, bm, bid, btm, bms, btp, bwh, bn⟩) ↔ (ak = bk ∧ am = bm ∧ aid = bid ∧ atm = btm ∧ ams = bms ∧ atp = btp ∧ awh = bwh ∧ an = bn) := by simp
  have hno : ¬ (ak = bk ∧ am = bm ∧ aid = bid ∧ atm = btm ∧ ams = bms ∧ atp = btp ∧ awh = bwh ∧ an = bn) → false = decide ((⟨ak, am, aid, atm, ams, atp, awh, an⟩ : Cm) = ⟨bk, bm, bid, btm, bms, btp, bwh, bn⟩) := fun h => by
    have : ¬ ((⟨ak, am, aid, atm, ams, atp, awh, an⟩ : Cm) = ⟨bk, bm, bid, btm, bms, btp, bwh, bn⟩) := fun e => h (hiff.1 e)
    rw [decide_eq_false this]
  have hyes : (ak = bk ∧ am = bm ∧ aid = bid ∧ atm = btm ∧ ams = bms ∧ atp = btp ∧ awh = bwh ∧ an = bn) → true = decide ((⟨ak, am, aid, atm, ams, atp, awh, an⟩ : Cm) = ⟨bk, bm, bid, btm, bms, btp, bwh, bn⟩) := fun h => by
    rw [decide_eq_true (hiff.2 h)]
  have HNO := Lib.hid hno
  have HYES := Lib.hid hyes
  clear hno hyes hiff
  generalize decide ((⟨ak, am, aid, atm, ams, atp, awh, an⟩ : Cm) = ⟨bk, bm, bid, btm, bms, btp, bwh, bn⟩) = r at HNO HYES ⊢
  show Calls _ _ #[.agg #[.int .u8 ak, .int .i64 am.id, .slice A am.gs.length c, .int .i64 am.tp, .string am.key, .string am.body, .int .i64 aid, .int .i64 atm, .slice P ams.length q, .int .i64 atp, .int .i64 awh, .int .i64 an], .agg #[.int .u8 bk, .int .i64 bm.id, .slice B bm.gs.length d, .int .i64 bm.tp, .string bm.key, .string bm.body, .int .i64 bid, .int .i64 btm, .slice S bms.length u, .int .i64 btp, .int .i64 bwh, .int .i64 bn]] _ _
  have hb0 : Below w.heap.size w ((w.alloc (.cells #[.int .u8 ak, .int .i64 am.id, .slice A am.gs.length c, .int .i64 am.tp, .string am.key, .string am.body, .int .i64 aid, .int .i64 atm, .slice P ams.length q, .int .i64 atp, .int .i64 awh, .int .i64 an] 91)).alloc (.cells #[.int .u8 bk, .int .i64 bm.id, .slice B bm.gs.length d, .int .i64 bm.tp, .string bm.key, .string bm.body, .int .i64 bid, .int .i64 btm, .slice S bms.length u, .int .i64 btp, .int .i64 bwh, .int .i64 bn] 91)) := ((Below.refl _ _).alloc (Nat.le_refl _) _).alloc (by simp) _
  have hX : Box ((w.alloc (.cells #[.int .u8 ak, .int .i64 am.id, .slice A am.gs.length c, .int .i64 am.tp, .string am.key, .string am.body, .int .i64 aid, .int .i64 atm, .slice P ams.length q, .int .i64 atp, .int .i64 awh, .int .i64 an] 91)).alloc (.cells #[.int .u8 bk, .int .i64 bm.id, .slice B bm.gs.length d, .int .i64 bm.tp, .string bm.key, .string bm.body, .int .i64 bid, .int .i64 btm, .slice S bms.length u, .int .i64 btp, .int .i64 bwh, .int .i64 bn] 91)) w.heap.size 91 #[.int .u8 ak, .int .i64 am.id, .slice A am.gs.length c, .int .i64 am.tp, .string am.key, .string am.body, .int .i64 aid, .int .i64 atm, .slice P ams.length q, .int .i64 atp, .int .i64 awh, .int .i64 an] := (Box.new _ _ _).alloc _
  have hY : Box ((w.alloc (.cells #[.int .u8 ak, .int .i64 am.id, .slice A am.gs.length c, .int .i64 am.tp, .string am.key, .string am.body, .int .i64 aid, .int .i64 atm, .slice P ams.length q, .int .i64 atp, .int .i64 awh, .int .i64 an] 91)).alloc (.cells #[.int .u8 bk, .int .i64 bm.id, .slice B bm.gs.length d, .int .i64 bm.tp, .string bm.key, .string bm.body, .int .i64 bid, .int .i64 btm, .slice S bms.length u, .int .i64 btp, .int .i64 bwh, .int .i64 bn] 91)) (w.heap.size + 1) 91 #[.int .u8 bk, .int .i64 bm.id, .slice B bm.gs.length d, .int .i64 bm.tp, .string bm.key, .string bm.body, .int .i64 bid, .int .i64 btm, .slice S bms.length u, .int .i64 btp, .int .i64 bwh, .int .i64 bn] := Box.new_at _ (by simp)
  have C := Lib.hid (sameMessage_any am bm (.agg (mcells A c am)) (.agg (mcells B d bm)) _ ⟨A, c, rfl, r1.below hb0⟩ ⟨B, d, rfl, r2.below hb0⟩)
  have D := Lib.hid (fun W2 (h : Below w.heap.size w W2) => same_ints_any P S q u ams bms W2 (r3.below h).1 (r4.below h).1 (Nat.le_trans r3.2.1 r3.2.2) (Nat.le_trans r4.2.1 r4.2.2))
  have HX := Lib.hid hX
  have HY := Lib.hid hY
  have HB := Lib.hid hb0
  unfold mcells at C
  clear hX hY hb0 r1 r2 r3 r4
  go_enter Tryz.func144, Tryz.ntmps144
  go_upto_region 1 with (fail)
  generalize (w.alloc (.cells #[.int .u8 ak, .int .i64 am.id, .slice A am.gs.length c, .int .i64 am.tp, .string am.key, .string am.body, .int .i64 aid, .int .i64 atm, .slice P ams.length q, .int .i64 atp, .int .i64 awh, .int .i64 an] 91)).alloc (.cells #[.int .u8 bk, .int .i64 bm.id, .slice B bm.gs.length d, .int .i64 bm.tp, .string bm.key, .string bm.body, .int .i64 bid, .int .i64 btm, .slice S bms.length u, .int .i64 btp, .int .i64 bwh, .int .i64 bn] 91) = w1 at HX HY HB C ⊢
  have G1 := Lib.hid HX.out.lt
  have G2 := Lib.hid HY.out.lt
  generalize hg1 : w.heap.size + 1 = g1 at HY G2 ⊢
  clear hg1
  generalize hg0 : w.heap.size = g0 at HX G1 ⊢
  clear hg0
  obtain ⟨x0, x1, x2, x3, x4, x5, x6, x7, x8, x9, x10, x11⟩ := box_cm HX.out
  obtain ⟨y0, y1, y2, y3, y4, y5, y6, y7, y8, y9, y10, y11⟩ := box_cm HY.out
  by_cases h0 : ak = bk
  rotate_left
  · have HF := Lib.hid (HNO.out (fun h => h0 h.1))
    have e0 : (ak == bk) = false := by simpa using h0
    clear HNO HYES
    go_wp2_with fail
    go_ret
    exact bool_ret HF.out HB.out
  have e0 : (ak == bk) = true := by simpa using h0
  go_wp2_with fail
  refine (C.out).mono ?_
  rintro e w2 ⟨rfl, hb2⟩
  clear x0 x1 x2 x3 x4 x5 x6 x7 x8 x9 x10 x11 y0 y1 y2 y3 y4 y5 y6 y7 y8 y9 y10 y11
  obtain ⟨x0, x1, x2, x3, x4, x5, x6, x7, x8, x9, x10, x11⟩ := box_cm (HX.out.below hb2 G1.out)
  obtain ⟨y0, y1, y2, y3, y4, y5, y6, y7, y8, y9, y10, y11⟩ := box_cm (HY.out.below hb2 G2.out)
  replace HB := Lib.hid (HB.out.trans (hb2.mono HB.out.size))
  replace HX := Lib.hid (HX.out.below hb2 G1.out)
  replace HY := Lib.hid (HY.out.below hb2 G2.out)
  replace G1 := Lib.hid (Nat.lt_of_lt_of_le G1.out hb2.size)
  replace G2 := Lib.hid (Nat.lt_of_lt_of_le G2.out hb2.size)
  clear C hb2
  by_cases h1 : am = bm
  rotate_left
  · have HF := Lib.hid (HNO.out (fun h => h1 h.2.1))
    have e1 : decide (am = bm) = false := by simpa using h1
    rw [e1]
    clear HNO HYES
    go_wp2_with fail
    go_ret
    exact bool_ret HF.out HB.out
  rw [decide_eq_true h1]
  by_cases h2 : aid = bid
  rotate_left
  · have HF := Lib.hid (HNO.out (fun h => h2 h.2.2.1))
    have e2 : (aid == bid) = false := by simpa using h2
    clear HNO HYES
    go_wp2_with fail
    go_ret
    exact bool_ret HF.out HB.out
  have e2 : (aid == bid) = true := by simpa using h2
  by_cases h3 : atm = btm
  rotate_left
  · have HF := Lib.hid (HNO.out (fun h => h3 h.2.2.2.1))
    have e3 : (atm == btm) = false := by simpa using h3
    clear HNO HYES
    go_wp2_with fail
    go_ret
    exact bool_ret HF.out HB.out
  have e3 : (atm == btm) = true := by simpa using h3
  have D2 := Lib.hid (D.out _ HB.out)
  clear D
  go_wp2_with fail
  refine (D2.out).mono ?_
  rintro e w3 ⟨rfl, hb2⟩
  clear x0 x1 x2 x3 x4 x5 x6 x7 x8 x9 x10 x11 y0 y1 y2 y3 y4 y5 y6 y7 y8 y9 y10 y11
  obtain ⟨x0, x1, x2, x3, x4, x5, x6, x7, x8, x9, x10, x11⟩ := box_cm (HX.out.below hb2 G1.out)
  obtain ⟨y0, y1, y2, y3, y4, y5, y6, y7, y8, y9, y10, y11⟩ := box_cm (HY.out.below hb2 G2.out)
  replace HB := Lib.hid (HB.out.trans (hb2.mono HB.out.size))
  clear D2 hb2 HX HY G1 G2
  by_cases h4 : ams = bms
  rotate_left
  · have HF := Lib.hid (HNO.out (fun h => h4 h.2.2.2.2.1))
    have e4 : decide (ams = bms) = false := by simpa using h4
    rw [e4]
    clear HNO HYES
    go_wp2_with fail
    go_ret
    exact bool_ret HF.out HB.out
  rw [decide_eq_true h4]
  by_cases h5 : atp = btp
  rotate_left
  · have HF := Lib.hid (HNO.out (fun h => h5 h.2.2.2.2.2.1))
    have e5 : (atp == btp) = false := by simpa using h5
    clear HNO HYES
    go_wp2_with fail
    go_ret
    exact bool_ret HF.out HB.out
  have e5 : (atp == btp) = true := by simpa using h5
  by_cases h6 : awh = bwh
  rotate_left
  · have HF := Lib.hid (HNO.out (fun h => h6 h.2.2.2.2.2.2.1))
    have e6 : (awh == bwh) = false := by simpa using h6
    clear HNO HYES
    go_wp2_with fail
    go_ret
    exact bool_ret HF.out HB.out
  have e6 : (awh == bwh) = true := by simpa using h6
  by_cases h7 : an = bn
  rotate_left
  · have HF := Lib.hid (HNO.out (fun h => h7 h.2.2.2.2.2.2.2))
    have e7 : (an == bn) = false := by simpa using h7
    clear HNO HYES
    go_wp2_with fail
    go_ret
    exact bool_ret HF.out HB.out
  have e7 : (an == bn) = true := by simpa using h7
  have HF := Lib.hid (HYES.out ⟨h0, h1, h2, h3, h4, h5, h6, h7⟩)
  clear HNO HYES
  go_wp2_with fail
  go_ret
  exact bool_ret HF.out HB.out
end Go.Proofs.YteebeiaokfenmaaGreat.CP
