/-
  The document's own Same of two commands (towncrierref12). Conditions: as CmIs says.
  The document's own SameStamps and SameMessages of any two lists (towncrierref15). Conditions: slices that read as such.
  The document's own SameStamps and SameMessages of any two lists (towncrierref15). Conditions: slices that read as such.
  The document's own Same of two clocks (towncrierref15). Conditions: clocks that read as such.
  The document's own Great and TwinMessage (towncrierref15). Conditions: a clock that reads as one; at most 2^44 groups.
  The document's own Local (towncrierref15): a message's time, and whether it is final. Conditions: a clock that reads as one.
-/
import Derived.Test.YtnpgjcapekopnaaGreatCmSm
import Derived.Test.YtnpgjcapekopnaaGreatSkDef
import Derived.Test.YtnpgjcapekopnaaGreatQq
import Derived.Test.YtnpgjcapekopnaaGreatSkA
import Derived.Test.YtnpgjcapekopnaaGreatSkPut
import Derived.Lib.MinMax
import Derived.Test.YtnpgjcapekopnaaGreatSkI
namespace Go.Proofs.YtnpgjcapekopnaaGreat.CP
open Go.RowKit
open CM (Mg Cm)
set_option linter.unusedVariables false
set_option linter.unusedSimpArgs false
set_option maxRecDepth 100000

set_option maxHeartbeats 8000000 in
theorem same12_any (a b : Cm) (va vb : Value) (w : World) (ha : CmIs w va a) (hb : CmIs w vb b) :
    Calls Tryz.prog 19 #[va, vb] w (BoolIs (decide (a = b)) w) := by
  obtain ⟨A, c, P, q, rfl, r1, r3⟩ := ha
  obtain ⟨B, d, S, u, rfl, r2, r4⟩ := hb
  obtain ⟨ak, am, aid, atm, ams, atp, awh, an⟩ := a
  obtain ⟨bk, bm, bid, btm, bms, btp, bwh, bn⟩ := b
  simp only at r1 r2 r3 r4
  have hiff : ((⟨ak, am, aid, atm, ams, atp, awh, an⟩ : Cm) = ⟨bk, bm, bid, btm, bms, btp, bwh, bn⟩) ↔ (ak = bk ∧ am = bm ∧ aid = bid ∧ atm = btm ∧ ams = bms ∧ atp = btp ∧ awh = bwh ∧ an = bn) := by simp
  have hno : ¬ (ak = bk ∧ am = bm ∧ aid = bid ∧ atm = btm ∧ ams = bms ∧ atp = btp ∧ awh = bwh ∧ an = bn) → false = decide ((⟨ak, am, aid, atm, ams, atp, awh, an⟩ : Cm) = ⟨bk, bm, bid, btm, bms, btp, bwh, bn⟩) := fun h => by
    have : ¬ ((⟨ak, am, aid, atm, ams, atp, awh, an⟩ : Cm) = ⟨bk, bm, bid, btm, bms, btp, bwh, bn⟩) := fun e => h (hiff.1 e)
    rw [decide_eq_false this]
  have hyes : (ak = bk ∧ am = bm ∧ aid = bid ∧ atm = btm ∧ ams = bms ∧ atp = btp ∧ awh = bwh ∧ an = bn) → true = decide ((⟨ak, am, aid, atm, ams, atp, awh, an⟩ : Cm) = ⟨bk, bm, bid, btm, bms, btp, bwh, bn⟩) := fun h => by
    rw [decide_eq_true (hiff.2 h)]
  have HNO := Lib.hid hno
  have HYES := Lib.hid hyes
  clear hno hyes hiff
  generalize decide ((⟨ak, am, aid, atm, ams, atp, awh, an⟩ : Cm) = ⟨bk, bm, bid, btm, bms, btp, bwh, bn⟩) = r at HNO HYES ⊢
  show Calls _ _ #[.agg #[.int .u8 ak, .int .i64 am.id, .slice A am.gs.length c, .int .i64 am.tp, .string am.key, .string am.body, .int .i64 aid, .int .i64 atm, .slice P ams.length q, .int .i64 atp, .int .i64 awh, .int .i64 an], .agg #[.int .u8 bk, .int .i64 bm.id, .slice B bm.gs.length d, .int .i64 bm.tp, .string bm.key, .string bm.body, .int .i64 bid, .int .i64 btm, .slice S bms.length u, .int .i64 btp, .int .i64 bwh, .int .i64 bn]] _ _
  have hb0 : Below w.heap.size w ((w.alloc (.cells #[.int .u8 ak, .int .i64 am.id, .slice A am.gs.length c, .int .i64 am.tp, .string am.key, .string am.body, .int .i64 aid, .int .i64 atm, .slice P ams.length q, .int .i64 atp, .int .i64 awh, .int .i64 an] 30)).alloc (.cells #[.int .u8 bk, .int .i64 bm.id, .slice B bm.gs.length d, .int .i64 bm.tp, .string bm.key, .string bm.body, .int .i64 bid, .int .i64 btm, .slice S bms.length u, .int .i64 btp, .int .i64 bwh, .int .i64 bn] 30)) := ((Below.refl _ _).alloc (Nat.le_refl _) _).alloc (by simp) _
  have hX : Box ((w.alloc (.cells #[.int .u8 ak, .int .i64 am.id, .slice A am.gs.length c, .int .i64 am.tp, .string am.key, .string am.body, .int .i64 aid, .int .i64 atm, .slice P ams.length q, .int .i64 atp, .int .i64 awh, .int .i64 an] 30)).alloc (.cells #[.int .u8 bk, .int .i64 bm.id, .slice B bm.gs.length d, .int .i64 bm.tp, .string bm.key, .string bm.body, .int .i64 bid, .int .i64 btm, .slice S bms.length u, .int .i64 btp, .int .i64 bwh, .int .i64 bn] 30)) w.heap.size 30 #[.int .u8 ak, .int .i64 am.id, .slice A am.gs.length c, .int .i64 am.tp, .string am.key, .string am.body, .int .i64 aid, .int .i64 atm, .slice P ams.length q, .int .i64 atp, .int .i64 awh, .int .i64 an] := (Box.new _ _ _).alloc _
  have hY : Box ((w.alloc (.cells #[.int .u8 ak, .int .i64 am.id, .slice A am.gs.length c, .int .i64 am.tp, .string am.key, .string am.body, .int .i64 aid, .int .i64 atm, .slice P ams.length q, .int .i64 atp, .int .i64 awh, .int .i64 an] 30)).alloc (.cells #[.int .u8 bk, .int .i64 bm.id, .slice B bm.gs.length d, .int .i64 bm.tp, .string bm.key, .string bm.body, .int .i64 bid, .int .i64 btm, .slice S bms.length u, .int .i64 btp, .int .i64 bwh, .int .i64 bn] 30)) (w.heap.size + 1) 30 #[.int .u8 bk, .int .i64 bm.id, .slice B bm.gs.length d, .int .i64 bm.tp, .string bm.key, .string bm.body, .int .i64 bid, .int .i64 btm, .slice S bms.length u, .int .i64 btp, .int .i64 bwh, .int .i64 bn] := Box.new_at _ (by simp)
  have C := Lib.hid (sameMessage_any am bm (.agg (mcells A c am)) (.agg (mcells B d bm)) _ ⟨A, c, rfl, r1.below hb0⟩ ⟨B, d, rfl, r2.below hb0⟩)
  have D := Lib.hid (fun W2 (h : Below w.heap.size w W2) => same_ints_any P S q u ams bms W2 (r3.below h).1 (r4.below h).1 (Nat.le_trans r3.2.1 r3.2.2) (Nat.le_trans r4.2.1 r4.2.2))
  have HX := Lib.hid hX
  have HY := Lib.hid hY
  have HB := Lib.hid hb0
  unfold mcells at C
  clear hX hY hb0 r1 r2 r3 r4
  go_enter Tryz.func19, Tryz.ntmps19
  go_upto_region 1 with (fail)
  generalize (w.alloc (.cells #[.int .u8 ak, .int .i64 am.id, .slice A am.gs.length c, .int .i64 am.tp, .string am.key, .string am.body, .int .i64 aid, .int .i64 atm, .slice P ams.length q, .int .i64 atp, .int .i64 awh, .int .i64 an] 30)).alloc (.cells #[.int .u8 bk, .int .i64 bm.id, .slice B bm.gs.length d, .int .i64 bm.tp, .string bm.key, .string bm.body, .int .i64 bid, .int .i64 btm, .slice S bms.length u, .int .i64 btp, .int .i64 bwh, .int .i64 bn] 30) = w1 at HX HY HB C ⊢
  have G1 := Lib.hid HX.out.lt
  have G2 := Lib.hid HY.out.lt
  generalize hg1 : w.heap.size + 1 = g1 at HY G2 ⊢
  clear hg1
  generalize hg0 : w.heap.size = g0 at HX G1 ⊢
  clear hg0
  obtain ⟨x0, x1, x2, x3, x4, x5, x6, x7, x8, x9, x10, x11⟩ := box_cm HX.out
  obtain ⟨y0, y1, y2, y3, y4, y5, y6, y7, y8, y9, y10, y11⟩ := box_cm HY.out
  by_cases h0 : ak = bk
  rotate_left
  · have HF := Lib.hid (HNO.out (fun h => h0 h.1))
    have e0 : (ak == bk) = false := by simpa using h0
    clear HNO HYES
    go_wp2_with fail
    go_ret
    exact bool_ret HF.out HB.out
  have e0 : (ak == bk) = true := by simpa using h0
  go_wp2_with fail
  refine (C.out).mono ?_
  rintro e w2 ⟨rfl, hb2⟩
  clear x0 x1 x2 x3 x4 x5 x6 x7 x8 x9 x10 x11 y0 y1 y2 y3 y4 y5 y6 y7 y8 y9 y10 y11
  obtain ⟨x0, x1, x2, x3, x4, x5, x6, x7, x8, x9, x10, x11⟩ := box_cm (HX.out.below hb2 G1.out)
  obtain ⟨y0, y1, y2, y3, y4, y5, y6, y7, y8, y9, y10, y11⟩ := box_cm (HY.out.below hb2 G2.out)
  replace HB := Lib.hid (HB.out.trans (hb2.mono HB.out.size))
  replace HX := Lib.hid (HX.out.below hb2 G1.out)
  replace HY := Lib.hid (HY.out.below hb2 G2.out)
  replace G1 := Lib.hid (Nat.lt_of_lt_of_le G1.out hb2.size)
  replace G2 := Lib.hid (Nat.lt_of_lt_of_le G2.out hb2.size)
  clear C hb2
  by_cases h1 : am = bm
  rotate_left
  · have HF := Lib.hid (HNO.out (fun h => h1 h.2.1))
    have e1 : decide (am = bm) = false := by simpa using h1
    rw [e1]
    clear HNO HYES
    go_wp2_with fail
    go_ret
    exact bool_ret HF.out HB.out
  rw [decide_eq_true h1]
  by_cases h2 : aid = bid
  rotate_left
  · have HF := Lib.hid (HNO.out (fun h => h2 h.2.2.1))
    have e2 : (aid == bid) = false := by simpa using h2
    clear HNO HYES
    go_wp2_with fail
    go_ret
    exact bool_ret HF.out HB.out
  have e2 : (aid == bid) = true := by simpa using h2
  by_cases h3 : atm = btm
  rotate_left
  · have HF := Lib.hid (HNO.out (fun h => h3 h.2.2.2.1))
    have e3 : (atm == btm) = false := by simpa using h3
    clear HNO HYES
    go_wp2_with fail
    go_ret
    exact bool_ret HF.out HB.out
  have e3 : (atm == btm) = true := by simpa using h3
  have D2 := Lib.hid (D.out _ HB.out)
  clear D
  go_wp2_with fail
  refine (D2.out).mono ?_
  rintro e w3 ⟨rfl, hb2⟩
  clear x0 x1 x2 x3 x4 x5 x6 x7 x8 x9 x10 x11 y0 y1 y2 y3 y4 y5 y6 y7 y8 y9 y10 y11
  obtain ⟨x0, x1, x2, x3, x4, x5, x6, x7, x8, x9, x10, x11⟩ := box_cm (HX.out.below hb2 G1.out)
  obtain ⟨y0, y1, y2, y3, y4, y5, y6, y7, y8, y9, y10, y11⟩ := box_cm (HY.out.below hb2 G2.out)
  replace HB := Lib.hid (HB.out.trans (hb2.mono HB.out.size))
  clear D2 hb2 HX HY G1 G2
  by_cases h4 : ams = bms
  rotate_left
  · have HF := Lib.hid (HNO.out (fun h => h4 h.2.2.2.2.1))
    have e4 : decide (ams = bms) = false := by simpa using h4
    rw [e4]
    clear HNO HYES
    go_wp2_with fail
    go_ret
    exact bool_ret HF.out HB.out
  rw [decide_eq_true h4]
  by_cases h5 : atp = btp
  rotate_left
  · have HF := Lib.hid (HNO.out (fun h => h5 h.2.2.2.2.2.1))
    have e5 : (atp == btp) = false := by simpa using h5
    clear HNO HYES
    go_wp2_with fail
    go_ret
    exact bool_ret HF.out HB.out
  have e5 : (atp == btp) = true := by simpa using h5
  by_cases h6 : awh = bwh
  rotate_left
  · have HF := Lib.hid (HNO.out (fun h => h6 h.2.2.2.2.2.2.1))
    have e6 : (awh == bwh) = false := by simpa using h6
    clear HNO HYES
    go_wp2_with fail
    go_ret
    exact bool_ret HF.out HB.out
  have e6 : (awh == bwh) = true := by simpa using h6
  by_cases h7 : an = bn
  rotate_left
  · have HF := Lib.hid (HNO.out (fun h => h7 h.2.2.2.2.2.2.2))
    have e7 : (an == bn) = false := by simpa using h7
    clear HNO HYES
    go_wp2_with fail
    go_ret
    exact bool_ret HF.out HB.out
  have e7 : (an == bn) = true := by simpa using h7
  have HF := Lib.hid (HYES.out ⟨h0, h1, h2, h3, h4, h5, h6, h7⟩)
  clear HNO HYES
  go_wp2_with fail
  go_ret
  exact bool_ret HF.out HB.out
end Go.Proofs.YtnpgjcapekopnaaGreat.CP

namespace Go.Proofs.YtnpgjcapekopnaaGreat.KP
open Go.RowKit CP TP
open CM (Mg Cm)
open TM (Sp)
open KM (Wt Sk)
set_option linter.unusedVariables false
set_option linter.unusedSimpArgs false
set_option maxRecDepth 100000

set_option maxHeartbeats 4000000 in
theorem rsameStamps_any (A B : Option Addr) (n m ca cb : Nat) (x y : List Sp) (w : World) (h1 : SpsIs w A n ca x) (h2 : SpsIs w B m cb y) :
    Calls Tryz.prog 31 #[.slice A n ca, .slice B m cb] w (IsB (decide (x = y)) w) := by
  obtain ⟨r, hr⟩ : ∃ r, r = decide (x = y) := ⟨_, rfl⟩
  rw [← hr]
  have HR := Lib.hid hr
  have hn := h1.small
  have hm := h2.small
  have HX := Lib.hid h1.2.1
  have HY := Lib.hid h2.2.1
  have H1 := Lib.hid h1
  have H2 := Lib.hid h2
  clear h1 h2 hr
  by_cases hnm : n = m
  rotate_left
  · have HF := Lib.hid (show r = false by rw [HR.out]; exact decide_eq_false (fun e => hnm (by have := HX.out; have := HY.out; rw [e] at *; omega)))
    have hb : ((n : Int) != (m : Int)) = true := by simp; omega
    clear hnm
    go_enter Tryz.func31, Tryz.ntmps31
    go_wp2_with fail
    go_ret
    exact ⟨by rw [HF.out]; rfl, Below.refl _ _⟩
  subst hnm
  have hne : ((n : Int) != (n : Int)) = false := by simp
  go_enter Tryz.func31, Tryz.ntmps31
  go_wp2_with fail
  go_loopw [5] (fun i wr => ∃ k : Nat, k ≤ n ∧ i = .int .i64 k ∧ Below w.heap.size w wr ∧ Hid (x.take k = y.take k)) (fun i _ => n - (intOf i).toNat)
  case atStart => exact ⟨0, by omega, rfl, Below.refl _ _, Lib.hid rfl⟩
  case round =>
    obtain ⟨k, hk, rfl, hB, HT⟩ := hrel
    have HB := Lib.hid hB
    clear hB
    by_cases hlt : k < n
    · obtain ⟨a, ha⟩ : ∃ a, x[k]? = some a := ⟨_, List.getElem?_eq_getElem (by have := HX.out; omega)⟩
      obtain ⟨b, hb⟩ : ∃ b, y[k]? = some b := ⟨_, List.getElem?_eq_getElem (by have := HY.out; omega)⟩
      have HA := Lib.hid ha
      have HBb := Lib.hid hb
      obtain ⟨b1, o1, rfl, _, _, x0, x1⟩ := (H1.out.below HB.out).at_ ha
      obtain ⟨b2, o2, rfl, _, _, y0, y1⟩ := (H2.out.below HB.out).at_ hb
      clear ha hb
      have hk0 : (0 : Int) ≤ (k : Int) := by omega
      have hkn : (k : Int) < (n : Int) := by omega
      by_cases hab : a = b
      · subst hab
        have HN := Lib.hid (take_more HT.out HA.out HBb.out)
        obtain ⟨at_, ai⟩ := a
        simp only at x0 x1 y0 y1
        go_wp2_with fail
        go_region
        have HB2 := Lib.hid (below_drewN HB.out 1)
        go_wp2_with fail
        go_roundw
        case rel => exact ⟨k + 1, by omega, by go_num, HB2.out, HN⟩
        case measure => simp [intOf]; omega
      · have HF := Lib.hid (show r = false by rw [HR.out]; exact decide_eq_false (ne_at HA.out HBb.out hab))
        have hc : (a.t == b.t) = false ∨ ((a.t == b.t) = true ∧ (a.i == b.i) = false) := by
          by_cases e : a.t = b.t
          · right
            refine ⟨by simpa using e, ?_⟩
            have : a.i ≠ b.i := fun e2 => hab (by obtain ⟨p, q⟩ := a; obtain ⟨p', q'⟩ := b; simp only at e e2; rw [e, e2])
            simpa using this
          · left; simpa using e
        clear hab HA HBb
        obtain ⟨at_, ai⟩ := a
        obtain ⟨bt, bi⟩ := b
        simp only at x0 x1 y0 y1 hc
        rcases hc with c1 | ⟨c1, c2⟩
        all_goals
          go_wp2_with fail
          go_region
          have HB2 := Lib.hid (below_drewN HB.out 1)
          go_wp2_with fail
          go_ret
          exact ⟨by rw [HF.out]; rfl, HB2.out⟩
    · have HF := Lib.hid (show r = true by
        rw [HR.out]
        exact decide_eq_true (take_all HT.out (by have := HX.out; omega) (by have := HY.out; omega)))
      go_wp2_with fail
      go_ret
      exact ⟨by rw [HF.out]; rfl, HB.out⟩
end Go.Proofs.YtnpgjcapekopnaaGreat.KP

namespace Go.Proofs.YtnpgjcapekopnaaGreat.KP
open Go.RowKit CP TP
open CM (Mg Cm)
open TM (Sp)
open KM (Wt Sk)
set_option linter.unusedVariables false
set_option linter.unusedSimpArgs false
set_option maxRecDepth 100000

set_option maxHeartbeats 8000000 in
theorem rsameMessages_any (A B : Option Addr) (n m ca cb : Nat) (x y : List Mg) (w : World) (h1 : KR KM_ w A n ca x) (h2 : KR KM_ w B m cb y) :
    Calls Tryz.prog 13 #[.slice A n ca, .slice B m cb] w (IsB (decide (x = y)) w) := by
  obtain ⟨r, hr⟩ : ∃ r, r = decide (x = y) := ⟨_, rfl⟩
  rw [← hr]
  have HR := Lib.hid hr
  have hn := h1.small
  have hm := h2.small
  have HX := Lib.hid h1.len
  have HY := Lib.hid h2.len
  have H1 := Lib.hid h1
  have H2 := Lib.hid h2
  clear h1 h2 hr
  by_cases hnm : n = m
  rotate_left
  · have HF := Lib.hid (show r = false by rw [HR.out]; exact decide_eq_false (fun e => hnm (by have := HX.out; have := HY.out; rw [e] at *; omega)))
    have hb : ((n : Int) != (m : Int)) = true := by simp; omega
    clear hnm
    go_enter Tryz.func13, Tryz.ntmps13
    go_wp2_with fail
    go_ret
    exact ⟨by rw [HF.out]; rfl, Below.refl _ _⟩
  subst hnm
  have hne : ((n : Int) != (n : Int)) = false := by simp
  go_enter Tryz.func13, Tryz.ntmps13
  go_wp2_with fail
  go_loopw [5] (fun i wr => ∃ k : Nat, k ≤ n ∧ i = .int .i64 k ∧ Below w.heap.size w wr ∧ Hid (x.take k = y.take k)) (fun i _ => n - (intOf i).toNat)
  case atStart => exact ⟨0, by omega, rfl, Below.refl _ _, Lib.hid rfl⟩
  case round =>
    obtain ⟨k, hk, rfl, hB, HT⟩ := hrel
    have HB := Lib.hid hB
    clear hB
    by_cases hlt : k < n
    · obtain ⟨a, ha⟩ : ∃ a, x[k]? = some a := ⟨_, List.getElem?_eq_getElem (by have := HX.out; omega)⟩
      obtain ⟨b, hb⟩ : ∃ b, y[k]? = some b := ⟨_, List.getElem?_eq_getElem (by have := HY.out; omega)⟩
      have HA := Lib.hid ha
      have HBb := Lib.hid hb
      obtain ⟨b1, o1, P1, q1, rfl, _, _, hat1, hr1⟩ := mgs_at (H1.out.below HB.out) ha
      obtain ⟨b2, o2, P2, q2, rfl, _, _, hat2, hr2⟩ := mgs_at (H2.out.below HB.out) hb
      obtain ⟨x0, x1, x2, x3, x4⟩ := hat1
      obtain ⟨y0, y1, y2, y3, y4⟩ := hat2
      clear ha hb
      have hk0 : (0 : Int) ≤ (k : Int) := by omega
      have hkn : (k : Int) < (n : Int) := by omega
      obtain ⟨d, hd⟩ : ∃ d, d = decide (a = b) := ⟨_, rfl⟩
      have HD := Lib.hid hd
      have C := Lib.hid (fun W (hb : Below wr.heap.size wr W) => sameMessage_any a b _ _ W ⟨P1, q1, rfl, hr1.below hb⟩ ⟨P2, q2, rfl, hr2.below hb⟩)
      rw [← hd] at C
      clear hd hr1 hr2
      obtain ⟨ai, ag, at', ak, ab⟩ := a
      obtain ⟨bi, bg, bt, bk, bb⟩ := b
      unfold mcells at C
      simp only at x0 x1 x2 x3 x4 y0 y1 y2 y3 y4 C
      have HSS := Lib.hid (fun (w' : World) (h : Below wr.heap.size wr w') => show w'.cell? ⟨b1, o1 + k * 5, none⟩ = some (.int .i64 ai) ∧ w'.cell? ⟨b1, o1 + k * 5 + 1, none⟩ = some (.slice P1 ag.length q1) ∧ w'.cell? ⟨b1, o1 + k * 5 + 2, none⟩ = some (.int .i64 at') ∧ w'.cell? ⟨b1, o1 + k * 5 + 3, none⟩ = some (.string ak) ∧ w'.cell? ⟨b1, o1 + k * 5 + 4, none⟩ = some (.string ab) ∧ w'.cell? ⟨b2, o2 + k * 5, none⟩ = some (.int .i64 bi) ∧ w'.cell? ⟨b2, o2 + k * 5 + 1, none⟩ = some (.slice P2 bg.length q2) ∧ w'.cell? ⟨b2, o2 + k * 5 + 2, none⟩ = some (.int .i64 bt) ∧ w'.cell? ⟨b2, o2 + k * 5 + 3, none⟩ = some (.string bk) ∧ w'.cell? ⟨b2, o2 + k * 5 + 4, none⟩ = some (.string bb) from
        ⟨(h.cell (cell_block x0)).trans x0, (h.cell (cell_block x1)).trans x1, (h.cell (cell_block x2)).trans x2, (h.cell (cell_block x3)).trans x3, (h.cell (cell_block x4)).trans x4, (h.cell (cell_block y0)).trans y0, (h.cell (cell_block y1)).trans y1, (h.cell (cell_block y2)).trans y2, (h.cell (cell_block y3)).trans y3, (h.cell (cell_block y4)).trans y4⟩)
      have bb1 : Below wr.heap.size wr wr.drew := (Below.refl _ _).drew
      go_wp2_with fail
      obtain ⟨ud, hud⟩ : ∃ ud, ud = wr.drew := ⟨_, rfl⟩
      refine wp_region_held_drew (S := fun w' => w'.cell? ⟨b1, o1 + k * 5, none⟩ = some (.int .i64 ai) ∧ w'.cell? ⟨b1, o1 + k * 5 + 1, none⟩ = some (.slice P1 ag.length q1) ∧ w'.cell? ⟨b1, o1 + k * 5 + 2, none⟩ = some (.int .i64 at') ∧ w'.cell? ⟨b1, o1 + k * 5 + 3, none⟩ = some (.string ak) ∧ w'.cell? ⟨b1, o1 + k * 5 + 4, none⟩ = some (.string ab) ∧ w'.cell? ⟨b2, o2 + k * 5, none⟩ = some (.int .i64 bi) ∧ w'.cell? ⟨b2, o2 + k * 5 + 1, none⟩ = some (.slice P2 bg.length q2) ∧ w'.cell? ⟨b2, o2 + k * 5 + 2, none⟩ = some (.int .i64 bt) ∧ w'.cell? ⟨b2, o2 + k * 5 + 3, none⟩ = some (.string bk) ∧ w'.cell? ⟨b2, o2 + k * 5 + 4, none⟩ = some (.string bb)) (by kernel_rfl) (HSS.out _ bb1) (fun hHeld => ?_)
      rw [← hud] at bb1 hHeld ⊢
      clear hud
      refine qT 0 ?_; try simp only [Act.put, qq]
      refine qT 1 ?_; try simp only [Act.put, qq]
      refine qT 2 ?_; try simp only [Act.put, qq]
      refine qT 3 ?_; try simp only [Act.put, qq]
      refine qT 4 ?_; try simp only [Act.put, qq]
      refine qT 5 ?_; try simp only [Act.put, qq]
      refine qT 6 ?_; try simp only [Act.put, qq]
      refine qT 7 ?_; try simp only [Act.put, qq]
      refine wpAnyH_ready (rs := [8]) (by kernel_rfl) (by simp) ?_
      refine AllReadyH.cons rfl (fun K hK => ?_) AllReadyH.nil
      go_simp
      refine (C.out _ bb1).mono ?_
      rintro e w3 ⟨rfl, hb⟩
      have bb2 := bmore bb1 hb (Nat.le_refl _)
      clear hb
      refine hK.out _ _ (HSS.out _ bb2) (fun hHeld => ?_)
      clear hK
      try simp only [Act.put, qq]
      refine qT 9 ?_; try simp only [Act.put, qq]
      refine wpAnyH_done (by kernel_rfl) ?_ _
      clear hHeld HSS
      have HN := Lib.hid (bmore HB.out bb2 (Nat.le_refl _))
      clear x0 x1 x2 x3 x4 y0 y1 y2 y3 y4 C
      rcases d with _ | _
      · simp only [Bool.not_false]
        have HF := Lib.hid (show r = false by rw [HR.out]; exact decide_eq_false (ne_at HA.out HBb.out (of_decide_eq_false HD.out.symm)))
        go_wp2_with fail
        go_ret
        exact ⟨by rw [HF.out]; rfl, HN.out⟩
      · simp only [Bool.not_true]
        have HF := Lib.hid (take_more HT.out HA.out (by rw [of_decide_eq_true HD.out.symm]; exact HBb.out))
        go_wp2_with fail
        go_roundw
        case rel => exact ⟨k + 1, by omega, by go_num, HN.out, HF⟩
        case measure => simp [intOf]; omega
    · have HF := Lib.hid (show r = true by
        rw [HR.out]
        exact decide_eq_true (take_all HT.out (by have := HX.out; omega) (by have := HY.out; omega)))
      go_wp2_with fail
      go_ret
      exact ⟨by rw [HF.out]; rfl, HB.out⟩
end Go.Proofs.YtnpgjcapekopnaaGreat.KP

namespace Go.Proofs.YtnpgjcapekopnaaGreat.KP
open Go.RowKit CP TP
open CM (Mg Cm)
open TM (Sp)
open KM (Wt Sk)
set_option linter.unusedVariables false
set_option linter.unusedSimpArgs false
set_option maxRecDepth 100000

set_option maxHeartbeats 8000000 in
theorem rsame15_any (va vb : Value) (a b : Sk) (w : World) (h1 : SkIs w va a) (h2 : SkIs w vb b) : Calls Tryz.prog 12 #[va, vb] w (IsB (decide (a = b)) w) := by
  obtain ⟨A, c, D, e, rfl, r1, d1⟩ := h1
  obtain ⟨B, f, E, q, rfl, r2, d2⟩ := h2
  obtain ⟨ac, aw, ad⟩ := a
  obtain ⟨bc, bw, bd⟩ := b
  simp only at r1 d1 r2 d2
  obtain ⟨n, hna⟩ : ∃ n, n = aw.length := ⟨_, rfl⟩
  obtain ⟨m, hmb⟩ : ∃ m, m = bw.length := ⟨_, rfl⟩
  unfold vsk
  simp only
  rw [← hna] at r1 ⊢
  rw [← hmb] at r2 ⊢
  have HLA := Lib.hid hna
  have HLB := Lib.hid hmb
  clear hna hmb
  have hiff : ((⟨ac, aw, ad⟩ : Sk) = ⟨bc, bw, bd⟩) ↔ (ac = bc ∧ aw = bw ∧ ad = bd) := by simp
  obtain ⟨r, hr⟩ : ∃ r, r = decide ((⟨ac, aw, ad⟩ : Sk) = ⟨bc, bw, bd⟩) := ⟨_, rfl⟩
  rw [← hr]
  have HNO := Lib.hid (show ¬ (ac = bc ∧ aw = bw ∧ ad = bd) → r = false from fun h => by rw [hr]; exact decide_eq_false (fun k => h (hiff.1 k)))
  have HYES := Lib.hid (show (ac = bc ∧ aw = bw ∧ ad = bd) → r = true from fun h => by rw [hr]; exact decide_eq_true (hiff.2 h))
  clear hr hiff
  have hb0 : Below w.heap.size w ((w.alloc (.cells #[.int .i64 ac, .slice A n c, .slice D ad.length e] 25)).alloc (.cells #[.int .i64 bc, .slice B m f, .slice E bd.length q] 25)) := ((Below.refl _ _).alloc (Nat.le_refl _) _).alloc (by simp) _
  have HB := Lib.hid hb0
  have X := Lib.hid ((Box.new w 25 #[.int .i64 ac, .slice A n c, .slice D ad.length e]).alloc (.cells #[.int .i64 bc, .slice B m f, .slice E bd.length q] 25))
  have Y := Lib.hid (Box.new_at (w := w.alloc (.cells #[.int .i64 ac, .slice A n c, .slice D ad.length e] 25)) (t := 25) (cs := #[.int .i64 bc, .slice B m f, .slice E bd.length q]) (w.heap.size + 1) (by simp))
  have H1 := Lib.hid (fun W (hb : Below w.heap.size w W) => r1.below hb)
  have H2 := Lib.hid (fun W (hb : Below w.heap.size w W) => r2.below hb)
  have KS := Lib.hid (fun W (hb : Below w.heap.size w W) => rsameStamps_any D E ad.length bd.length e q ad bd W (d1.below hb) (d2.below hb))
  have n1 := r1.small
  have n2 := r2.small
  have n3 := d1.small
  have n4 := d2.small
  clear r1 d1 r2 d2 hb0
  go_enter Tryz.func12, Tryz.ntmps12
  go_upto_region 1 with (fail)
  generalize (w.alloc (.cells #[.int .i64 ac, .slice A n c, .slice D ad.length e] 25)).alloc (.cells #[.int .i64 bc, .slice B m f, .slice E bd.length q] 25) = w1 at HB X Y ⊢
  generalize hg1 : w.heap.size + 1 = g1 at Y ⊢
  clear hg1
  generalize hg0 : w.heap.size = g0 at X ⊢
  clear hg0
  obtain ⟨x0, x1, x2⟩ := box_sk X.out
  obtain ⟨y0, y1, y2⟩ := box_sk Y.out
  by_cases hc : ac = bc
  rotate_left
  · have HF := Lib.hid (HNO.out (fun h => hc h.1))
    have e1 : (ac != bc) = true := by simpa using hc
    clear hc
    go_wp2_with fail
    go_ret
    exact ⟨by rw [HF.out]; rfl, HB.out⟩
  have e1 : (ac != bc) = false := by simpa using hc
  have HC := Lib.hid hc
  clear hc
  by_cases hn : n = m
  rotate_left
  · have HF := Lib.hid (HNO.out (fun h => hn (by have := HLA.out; have := HLB.out; rw [h.2.1] at *; omega)))
    have e2 : ((n : Int) != (m : Int)) = true := by simp; omega
    clear hn
    go_wp2_with fail
    go_ret
    exact ⟨by rw [HF.out]; rfl, HB.out⟩
  subst hn
  have e2 : ((n : Int) != (n : Int)) = false := by simp
  obtain ⟨d, hd⟩ : ∃ d, d = decide (ad = bd) := ⟨_, rfl⟩
  rw [← hd] at KS
  have HD := Lib.hid hd
  clear hd
  go_wp2_with fail
  refine (KS.out _ HB.out).mono ?_
  rintro e w2 ⟨rfl, hb⟩
  replace HB := Lib.hid (bmore HB.out hb (Nat.le_refl _))
  replace X := Lib.hid (X.out.below hb X.out.lt)
  replace Y := Lib.hid (Y.out.below hb Y.out.lt)
  clear hb KS x0 x1 x2 y0 y1 y2
  rcases d with _ | _
  · have HF := Lib.hid (HNO.out (fun h => of_decide_eq_false HD.out.symm h.2.2))
    go_wp2_with fail
    go_ret
    exact ⟨by rw [HF.out]; rfl, HB.out⟩
  go_wp2_with fail
  go_loopw [5] (fun i wr => ∃ k : Nat, k ≤ n ∧ i = .int .i64 k ∧ Below w2.heap.size w2 wr ∧ Hid (aw.take k = bw.take k)) (fun i _ => n - (intOf i).toNat)
  case atStart => exact ⟨0, by omega, rfl, Below.refl _ _, Lib.hid rfl⟩
  case round =>
    obtain ⟨k, hk, rfl, hB, HT⟩ := hrel
    have HB2 := Lib.hid hB
    obtain ⟨x0, x1, x2⟩ := box_sk (X.out.below hB X.out.lt)
    obtain ⟨y0, y1, y2⟩ := box_sk (Y.out.below hB Y.out.lt)
    clear hB
    by_cases hlt : k < n
    · obtain ⟨x, hx⟩ : ∃ x, aw[k]? = some x := ⟨_, List.getElem?_eq_getElem (by have := HLA.out; omega)⟩
      obtain ⟨y, hy⟩ : ∃ y, bw[k]? = some y := ⟨_, List.getElem?_eq_getElem (by have := HLB.out; omega)⟩
      have HXx := Lib.hid hx
      have HYy := Lib.hid hy
      obtain ⟨b1, o1, P1, q1, rfl, _, _, hat1, hr1⟩ := wts_at (H1.out _ (bmore HB.out HB2.out (Nat.le_refl _))) hx
      obtain ⟨b2, o2, P2, q2, rfl, _, _, hat2, hr2⟩ := wts_at (H2.out _ (bmore HB.out HB2.out (Nat.le_refl _))) hy
      obtain ⟨u0, u1, u2, u3, u4, u5, u6⟩ := hat1
      obtain ⟨v0, v1, v2, v3, v4, v5, v6⟩ := hat2
      clear hx hy
      have hk0 : (0 : Int) ≤ (k : Int) := by omega
      have hkn : (k : Int) < (n : Int) := by omega
      have C := Lib.hid (fun W (hb : Below wr.heap.size wr W) => sameMessage_any x.m y.m _ _ W ⟨P1, q1, rfl, hr1.below hb⟩ ⟨P2, q2, rfl, hr2.below hb⟩)
      have HNE := Lib.hid (fun h : x ≠ y => wt_ne h)
      clear hr1 hr2
      obtain ⟨⟨xi, xg, xt, xk, xb⟩, xm, xf⟩ := x
      obtain ⟨⟨yi, yg, yt, yk, yb⟩, ym, yf⟩ := y
      unfold mcells at C
      simp only at u0 u1 u2 u3 u4 u5 u6 v0 v1 v2 v3 v4 v5 v6 C
      go_upto_region 6 with (fail)
      go_cut [6, 7] (fun u v wx => Two wr (wcs P1 q1 ⟨⟨xi, xg, xt, xk, xb⟩, xm, xf⟩) (wcs P2 q2 ⟨⟨yi, yg, yt, yk, yb⟩, ym, yf⟩) u v wx)
      case first =>
        have HSS := Lib.hid (fun (w' : World) (h : Below wr.heap.size wr w') => show w'.cell? ⟨g0, 1, none⟩ = some (.slice (some ⟨b1, o1, none⟩) n c) ∧ w'.cell? ⟨g1, 1, none⟩ = some (.slice (some ⟨b2, o2, none⟩) n f) ∧ w'.cell? ⟨b1, o1 + k * 7, none⟩ = some (.int .i64 xi) ∧ w'.cell? ⟨b1, o1 + k * 7 + 1, none⟩ = some (.slice P1 xg.length q1) ∧ w'.cell? ⟨b1, o1 + k * 7 + 2, none⟩ = some (.int .i64 xt) ∧ w'.cell? ⟨b1, o1 + k * 7 + 3, none⟩ = some (.string xk) ∧ w'.cell? ⟨b1, o1 + k * 7 + 4, none⟩ = some (.string xb) ∧ w'.cell? ⟨b1, o1 + k * 7 + 5, none⟩ = some (.int .i64 xm) ∧ w'.cell? ⟨b1, o1 + k * 7 + 6, none⟩ = some (.bool xf) ∧ w'.cell? ⟨b2, o2 + k * 7, none⟩ = some (.int .i64 yi) ∧ w'.cell? ⟨b2, o2 + k * 7 + 1, none⟩ = some (.slice P2 yg.length q2) ∧ w'.cell? ⟨b2, o2 + k * 7 + 2, none⟩ = some (.int .i64 yt) ∧ w'.cell? ⟨b2, o2 + k * 7 + 3, none⟩ = some (.string yk) ∧ w'.cell? ⟨b2, o2 + k * 7 + 4, none⟩ = some (.string yb) ∧ w'.cell? ⟨b2, o2 + k * 7 + 5, none⟩ = some (.int .i64 ym) ∧ w'.cell? ⟨b2, o2 + k * 7 + 6, none⟩ = some (.bool yf) from
          ⟨(h.cell (cell_block x1)).trans x1, (h.cell (cell_block y1)).trans y1, (h.cell (cell_block u0)).trans u0, (h.cell (cell_block u1)).trans u1, (h.cell (cell_block u2)).trans u2, (h.cell (cell_block u3)).trans u3, (h.cell (cell_block u4)).trans u4, (h.cell (cell_block u5)).trans u5, (h.cell (cell_block u6)).trans u6, (h.cell (cell_block v0)).trans v0, (h.cell (cell_block v1)).trans v1, (h.cell (cell_block v2)).trans v2, (h.cell (cell_block v3)).trans v3, (h.cell (cell_block v4)).trans v4, (h.cell (cell_block v5)).trans v5, (h.cell (cell_block v6)).trans v6⟩)
        have bb1 : Below wr.heap.size wr wr.drew := (Below.refl _ _).drew
        obtain ⟨ud, hud⟩ : ∃ ud, ud = wr.drew := ⟨_, rfl⟩
        have hsz : wr.heap.size = ud.heap.size := by rw [hud]; rfl
        refine wp_region_held_drew (S := fun w' => w'.cell? ⟨g0, 1, none⟩ = some (.slice (some ⟨b1, o1, none⟩) n c) ∧ w'.cell? ⟨g1, 1, none⟩ = some (.slice (some ⟨b2, o2, none⟩) n f) ∧ w'.cell? ⟨b1, o1 + k * 7, none⟩ = some (.int .i64 xi) ∧ w'.cell? ⟨b1, o1 + k * 7 + 1, none⟩ = some (.slice P1 xg.length q1) ∧ w'.cell? ⟨b1, o1 + k * 7 + 2, none⟩ = some (.int .i64 xt) ∧ w'.cell? ⟨b1, o1 + k * 7 + 3, none⟩ = some (.string xk) ∧ w'.cell? ⟨b1, o1 + k * 7 + 4, none⟩ = some (.string xb) ∧ w'.cell? ⟨b1, o1 + k * 7 + 5, none⟩ = some (.int .i64 xm) ∧ w'.cell? ⟨b1, o1 + k * 7 + 6, none⟩ = some (.bool xf) ∧ w'.cell? ⟨b2, o2 + k * 7, none⟩ = some (.int .i64 yi) ∧ w'.cell? ⟨b2, o2 + k * 7 + 1, none⟩ = some (.slice P2 yg.length q2) ∧ w'.cell? ⟨b2, o2 + k * 7 + 2, none⟩ = some (.int .i64 yt) ∧ w'.cell? ⟨b2, o2 + k * 7 + 3, none⟩ = some (.string yk) ∧ w'.cell? ⟨b2, o2 + k * 7 + 4, none⟩ = some (.string yb) ∧ w'.cell? ⟨b2, o2 + k * 7 + 5, none⟩ = some (.int .i64 ym) ∧ w'.cell? ⟨b2, o2 + k * 7 + 6, none⟩ = some (.bool yf)) (by kernel_rfl) (HSS.out _ bb1) (fun hHeld => ?_)
        rw [← hud] at bb1 hHeld ⊢
        clear hud
        refine qT 0 ?_; try simp only [Act.put, qq]
        refine qT 1 ?_; try simp only [Act.put, qq]
        refine qT 2 ?_; try simp only [Act.put, qq]
        refine qT 3 ?_; try simp only [Act.put, qq]
        refine qT 4 ?_; try simp only [Act.put, qq]
        refine qT 5 ?_; try simp only [Act.put, qq]
        refine qT 6 ?_; try simp only [Act.put, qq]
        refine qT 7 ?_; try simp only [Act.put, qq]
        refine qT 8 ?_; try simp only [Act.put, qq]
        refine qT 9 ?_; try simp only [Act.put, qq]
        refine wpAnyH_ready (rs := [10, 11]) (by kernel_rfl) (by simp) ?_
        refine AllReadyH.cons rfl (fun K hK => ?_) (AllReadyH.cons rfl (fun K hK => ?_) AllReadyH.nil)
        · go_simp
          have bb2 : Below wr.heap.size wr (ud.alloc (.cells #[.int .i64 0, .slice none 0 0, .int .i64 0, .string ⟨#[]⟩, .string ⟨#[]⟩, .int .i64 0, .bool false] 52)) := bb1.alloc bb1.size _
          refine hK.out _ _ (HSS.out _ bb2) (fun hHeld => ?_)
          clear hK
          try simp only [Act.put, qq]
          refine wpAnyH_ready (rs := [11]) (by kernel_rfl) (by simp) ?_
          refine AllReadyH.cons rfl (fun K hK => ?_) AllReadyH.nil
          go_simp
          have bb3 : Below wr.heap.size wr ((ud.alloc (.cells #[.int .i64 0, .slice none 0 0, .int .i64 0, .string ⟨#[]⟩, .string ⟨#[]⟩, .int .i64 0, .bool false] 52)).alloc (.cells #[.int .i64 0, .slice none 0 0, .int .i64 0, .string ⟨#[]⟩, .string ⟨#[]⟩, .int .i64 0, .bool false] 52)) := bb2.alloc bb2.size _
          refine hK.out _ _ (HSS.out _ bb3) (fun hHeld => ?_)
          clear hK
          try simp only [Act.put, qq]
          have BP := Lib.hid (show Box ((ud.alloc (.cells #[.int .i64 0, .slice none 0 0, .int .i64 0, .string ⟨#[]⟩, .string ⟨#[]⟩, .int .i64 0, .bool false] 52)).alloc (.cells #[.int .i64 0, .slice none 0 0, .int .i64 0, .string ⟨#[]⟩, .string ⟨#[]⟩, .int .i64 0, .bool false] 52)) ud.heap.size 52 #[.int .i64 0, .slice none 0 0, .int .i64 0, .string ⟨#[]⟩, .string ⟨#[]⟩, .int .i64 0, .bool false] from (Box.new _ _ _).alloc _)
          have BQ := Lib.hid (show Box ((ud.alloc (.cells #[.int .i64 0, .slice none 0 0, .int .i64 0, .string ⟨#[]⟩, .string ⟨#[]⟩, .int .i64 0, .bool false] 52)).alloc (.cells #[.int .i64 0, .slice none 0 0, .int .i64 0, .string ⟨#[]⟩, .string ⟨#[]⟩, .int .i64 0, .bool false] 52)) (ud.heap.size + 1) 52 #[.int .i64 0, .slice none 0 0, .int .i64 0, .string ⟨#[]⟩, .string ⟨#[]⟩, .int .i64 0, .bool false] from Box.new_at _ (by simp))
          have bb4 := bb3
          clear bb2 bb3
          try simp only [World.size_alloc]
          generalize (ud.alloc (.cells #[.int .i64 0, .slice none 0 0, .int .i64 0, .string ⟨#[]⟩, .string ⟨#[]⟩, .int .i64 0, .bool false] 52)).alloc (.cells #[.int .i64 0, .slice none 0 0, .int .i64 0, .string ⟨#[]⟩, .string ⟨#[]⟩, .int .i64 0, .bool false] 52) = W2 at BP BQ bb4 hHeld ⊢
          have hp : wr.heap.size ≤ ud.heap.size := by omega
          have hq : wr.heap.size ≤ ud.heap.size + 1 := by omega
          have hpq : ud.heap.size ≠ ud.heap.size + 1 := by omega
          generalize ud.heap.size + 1 = q9 at BQ hq hpq ⊢
          generalize ud.heap.size = p9 at BP hp hpq ⊢
          obtain ⟨⟨z0, z1, z2, z3, z4, z5, z6⟩, f0, f1, f2, f3, f4, f5, f6⟩ := box_wtf BP.out
          refine wpAnyH_ready (rs := [12]) (by kernel_rfl) (by simp) ?_
          refine AllReadyH.cons rfl (fun K hK => ?_) AllReadyH.nil
          go_simp
          have bb5 : Below wr.heap.size wr (pt7 W2 p9 (.int .i64 xi) (.slice P1 xg.length q1) (.int .i64 xt) (.string xk) (.string xb) (.int .i64 xm) (.bool xf)) := pt7_below bb4 hp (.int .i64 xi) (.slice P1 xg.length q1) (.int .i64 xt) (.string xk) (.string xb) (.int .i64 xm) (.bool xf)
          refine hK.out _ _ (HSS.out _ bb5) (fun hHeld => ?_)
          clear hK z0 z1 z2 z3 z4 z5 z6 f0 f1 f2 f3 f4 f5 f6
          try simp only [Act.put, qq]
          have BA := Lib.hid (pt7_box BP.out (.int .i64 xi) (.slice P1 xg.length q1) (.int .i64 xt) (.string xk) (.string xb) (.int .i64 xm) (.bool xf))
          have BB := Lib.hid (pt7_far BQ.out hpq.symm (.int .i64 xi) (.slice P1 xg.length q1) (.int .i64 xt) (.string xk) (.string xb) (.int .i64 xm) (.bool xf))
          unfold pt7 at bb5 BA BB
          generalize ((((((W2.setCell ⟨p9, 0, none⟩ (.int .i64 xi)).setCell ⟨p9, 1, none⟩ (.slice P1 xg.length q1)).setCell ⟨p9, 2, none⟩ (.int .i64 xt)).setCell ⟨p9, 3, none⟩ (.string xk)).setCell ⟨p9, 4, none⟩ (.string xb)).setCell ⟨p9, 5, none⟩ (.int .i64 xm)).setCell ⟨p9, 6, none⟩ (.bool xf) = W3 at bb5 BA BB hHeld ⊢
          obtain ⟨⟨z0, z1, z2, z3, z4, z5, z6⟩, f0, f1, f2, f3, f4, f5, f6⟩ := box_wtf BB.out
          refine wpAnyH_ready (rs := [13]) (by kernel_rfl) (by simp) ?_
          refine AllReadyH.cons rfl (fun K hK => ?_) AllReadyH.nil
          go_simp
          have bb6 : Below wr.heap.size wr (pt7 W3 q9 (.int .i64 yi) (.slice P2 yg.length q2) (.int .i64 yt) (.string yk) (.string yb) (.int .i64 ym) (.bool yf)) := pt7_below bb5 hq (.int .i64 yi) (.slice P2 yg.length q2) (.int .i64 yt) (.string yk) (.string yb) (.int .i64 ym) (.bool yf)
          refine hK.out _ _ (HSS.out _ bb6) (fun hHeld => ?_)
          try simp only [Act.put, qq]
          refine wpAnyH_done (by kernel_rfl) ?_ _
          go_wp2_with fail
          go_meet
          case rel => exact ⟨p9, q9, rfl, rfl, pt7_far BA.out hpq (.int .i64 yi) (.slice P2 yg.length q2) (.int .i64 yt) (.string yk) (.string yb) (.int .i64 ym) (.bool yf), pt7_box BB.out (.int .i64 yi) (.slice P2 yg.length q2) (.int .i64 yt) (.string yk) (.string yb) (.int .i64 ym) (.bool yf), bb6⟩
        · go_simp
          have bb2 : Below wr.heap.size wr (ud.alloc (.cells #[.int .i64 0, .slice none 0 0, .int .i64 0, .string ⟨#[]⟩, .string ⟨#[]⟩, .int .i64 0, .bool false] 52)) := bb1.alloc bb1.size _
          refine hK.out _ _ (HSS.out _ bb2) (fun hHeld => ?_)
          clear hK
          try simp only [Act.put, qq]
          refine wpAnyH_ready (rs := [10]) (by kernel_rfl) (by simp) ?_
          refine AllReadyH.cons rfl (fun K hK => ?_) AllReadyH.nil
          go_simp
          have bb3 : Below wr.heap.size wr ((ud.alloc (.cells #[.int .i64 0, .slice none 0 0, .int .i64 0, .string ⟨#[]⟩, .string ⟨#[]⟩, .int .i64 0, .bool false] 52)).alloc (.cells #[.int .i64 0, .slice none 0 0, .int .i64 0, .string ⟨#[]⟩, .string ⟨#[]⟩, .int .i64 0, .bool false] 52)) := bb2.alloc bb2.size _
          refine hK.out _ _ (HSS.out _ bb3) (fun hHeld => ?_)
          clear hK
          try simp only [Act.put, qq]
          have BP := Lib.hid (show Box ((ud.alloc (.cells #[.int .i64 0, .slice none 0 0, .int .i64 0, .string ⟨#[]⟩, .string ⟨#[]⟩, .int .i64 0, .bool false] 52)).alloc (.cells #[.int .i64 0, .slice none 0 0, .int .i64 0, .string ⟨#[]⟩, .string ⟨#[]⟩, .int .i64 0, .bool false] 52)) ud.heap.size 52 #[.int .i64 0, .slice none 0 0, .int .i64 0, .string ⟨#[]⟩, .string ⟨#[]⟩, .int .i64 0, .bool false] from (Box.new _ _ _).alloc _)
          have BQ := Lib.hid (show Box ((ud.alloc (.cells #[.int .i64 0, .slice none 0 0, .int .i64 0, .string ⟨#[]⟩, .string ⟨#[]⟩, .int .i64 0, .bool false] 52)).alloc (.cells #[.int .i64 0, .slice none 0 0, .int .i64 0, .string ⟨#[]⟩, .string ⟨#[]⟩, .int .i64 0, .bool false] 52)) (ud.heap.size + 1) 52 #[.int .i64 0, .slice none 0 0, .int .i64 0, .string ⟨#[]⟩, .string ⟨#[]⟩, .int .i64 0, .bool false] from Box.new_at _ (by simp))
          have bb4 := bb3
          clear bb2 bb3
          try simp only [World.size_alloc]
          generalize (ud.alloc (.cells #[.int .i64 0, .slice none 0 0, .int .i64 0, .string ⟨#[]⟩, .string ⟨#[]⟩, .int .i64 0, .bool false] 52)).alloc (.cells #[.int .i64 0, .slice none 0 0, .int .i64 0, .string ⟨#[]⟩, .string ⟨#[]⟩, .int .i64 0, .bool false] 52) = W2 at BP BQ bb4 hHeld ⊢
          have hp : wr.heap.size ≤ ud.heap.size := by omega
          have hq : wr.heap.size ≤ ud.heap.size + 1 := by omega
          have hpq : ud.heap.size ≠ ud.heap.size + 1 := by omega
          generalize ud.heap.size + 1 = q9 at BQ hq hpq ⊢
          generalize ud.heap.size = p9 at BP hp hpq ⊢
          obtain ⟨⟨z0, z1, z2, z3, z4, z5, z6⟩, f0, f1, f2, f3, f4, f5, f6⟩ := box_wtf BQ.out
          refine wpAnyH_ready (rs := [12]) (by kernel_rfl) (by simp) ?_
          refine AllReadyH.cons rfl (fun K hK => ?_) AllReadyH.nil
          go_simp
          have bb5 : Below wr.heap.size wr (pt7 W2 q9 (.int .i64 xi) (.slice P1 xg.length q1) (.int .i64 xt) (.string xk) (.string xb) (.int .i64 xm) (.bool xf)) := pt7_below bb4 hq (.int .i64 xi) (.slice P1 xg.length q1) (.int .i64 xt) (.string xk) (.string xb) (.int .i64 xm) (.bool xf)
          refine hK.out _ _ (HSS.out _ bb5) (fun hHeld => ?_)
          clear hK z0 z1 z2 z3 z4 z5 z6 f0 f1 f2 f3 f4 f5 f6
          try simp only [Act.put, qq]
          have BA := Lib.hid (pt7_box BQ.out (.int .i64 xi) (.slice P1 xg.length q1) (.int .i64 xt) (.string xk) (.string xb) (.int .i64 xm) (.bool xf))
          have BB := Lib.hid (pt7_far BP.out hpq (.int .i64 xi) (.slice P1 xg.length q1) (.int .i64 xt) (.string xk) (.string xb) (.int .i64 xm) (.bool xf))
          unfold pt7 at bb5 BA BB
          generalize ((((((W2.setCell ⟨q9, 0, none⟩ (.int .i64 xi)).setCell ⟨q9, 1, none⟩ (.slice P1 xg.length q1)).setCell ⟨q9, 2, none⟩ (.int .i64 xt)).setCell ⟨q9, 3, none⟩ (.string xk)).setCell ⟨q9, 4, none⟩ (.string xb)).setCell ⟨q9, 5, none⟩ (.int .i64 xm)).setCell ⟨q9, 6, none⟩ (.bool xf) = W3 at bb5 BA BB hHeld ⊢
          obtain ⟨⟨z0, z1, z2, z3, z4, z5, z6⟩, f0, f1, f2, f3, f4, f5, f6⟩ := box_wtf BB.out
          refine wpAnyH_ready (rs := [13]) (by kernel_rfl) (by simp) ?_
          refine AllReadyH.cons rfl (fun K hK => ?_) AllReadyH.nil
          go_simp
          have bb6 : Below wr.heap.size wr (pt7 W3 p9 (.int .i64 yi) (.slice P2 yg.length q2) (.int .i64 yt) (.string yk) (.string yb) (.int .i64 ym) (.bool yf)) := pt7_below bb5 hp (.int .i64 yi) (.slice P2 yg.length q2) (.int .i64 yt) (.string yk) (.string yb) (.int .i64 ym) (.bool yf)
          refine hK.out _ _ (HSS.out _ bb6) (fun hHeld => ?_)
          try simp only [Act.put, qq]
          refine wpAnyH_done (by kernel_rfl) ?_ _
          go_wp2_with fail
          go_meet
          case rel => exact ⟨q9, p9, rfl, rfl, pt7_far BA.out hpq.symm (.int .i64 yi) (.slice P2 yg.length q2) (.int .i64 yt) (.string yk) (.string yb) (.int .i64 ym) (.bool yf), pt7_box BB.out (.int .i64 yi) (.slice P2 yg.length q2) (.int .i64 yt) (.string yk) (.string yb) (.int .i64 ym) (.bool yf), bb6⟩

      case rest =>
        obtain ⟨p9, q9, rfl, rfl, hx9, hy9, hb9⟩ := hcut
        clear x0 x1 x2 y0 y1 y2 u0 u1 u2 u3 u4 u5 u6 v0 v1 v2 v3 v4 v5 v6
        unfold wcs at hx9 hy9
        have X9 := Lib.hid hx9
        have Y9 := Lib.hid hy9
        have HB9 := Lib.hid hb9
        clear hx9 hy9 hb9
        simp only at X9 Y9
        obtain ⟨u0, u1, u2, u3, u4, u5, u6⟩ := box_wt X9.out
        obtain ⟨v0, v1, v2, v3, v4, v5, v6⟩ := box_wt Y9.out
        obtain ⟨d, hd⟩ : ∃ d, d = decide ((⟨xi, xg, xt, xk, xb⟩ : Mg) = ⟨yi, yg, yt, yk, yb⟩) := ⟨_, rfl⟩
        rw [← hd] at C
        have HD2 := Lib.hid hd
        clear hd
        go_wp2_with fail
        refine (C.out _ HB9.out).mono ?_
        rintro e w3 ⟨rfl, hb⟩
        have HB3 := Lib.hid (bmore HB9.out hb (Nat.le_refl _))
        replace X9 := Lib.hid (X9.out.below hb X9.out.lt)
        replace Y9 := Lib.hid (Y9.out.below hb Y9.out.lt)
        clear hb C u0 u1 u2 u3 u4 u5 u6 v0 v1 v2 v3 v4 v5 v6
        obtain ⟨u0, u1, u2, u3, u4, u5, u6⟩ := box_wt X9.out
        obtain ⟨v0, v1, v2, v3, v4, v5, v6⟩ := box_wt Y9.out
        rcases d with _ | _
        · have HF := Lib.hid (HNO.out (fun h => ne_at HXx.out HYy.out (fun e => of_decide_eq_false HD2.out.symm (by injection e)) h.2.1))
          go_wp2_with fail
          go_ret
          exact ⟨by rw [HF.out]; rfl, bmore HB.out (bmore HB2.out HB3.out (Nat.le_refl _)) (Nat.le_refl _)⟩
        by_cases ht : xm = ym
        rotate_left
        · have HF := Lib.hid (HNO.out (fun h => ne_at HXx.out HYy.out (fun e => ht (by injection e)) h.2.1))
          have e3 : (xm != ym) = true := by simpa using ht
          clear ht
          go_wp2_with fail
          go_ret
          exact ⟨by rw [HF.out]; rfl, bmore HB.out (bmore HB2.out HB3.out (Nat.le_refl _)) (Nat.le_refl _)⟩
        have e3 : (xm != ym) = false := by simpa using ht
        have HTT := Lib.hid ht
        clear ht
        by_cases hf : xf = yf
        rotate_left
        · have HF := Lib.hid (HNO.out (fun h => ne_at HXx.out HYy.out (fun e => hf (by injection e)) h.2.1))
          rcases xf with _ | _ <;> rcases yf with _ | _
          · exact absurd rfl hf
          · go_wp2_with fail
            go_ret
            exact ⟨by rw [HF.out]; rfl, bmore HB.out (bmore HB2.out HB3.out (Nat.le_refl _)) (Nat.le_refl _)⟩
          · go_wp2_with fail
            go_ret
            exact ⟨by rw [HF.out]; rfl, bmore HB.out (bmore HB2.out HB3.out (Nat.le_refl _)) (Nat.le_refl _)⟩
          · exact absurd rfl hf
        have HF := Lib.hid (take_more HT.out HXx.out (by rw [HYy.out, of_decide_eq_true HD2.out.symm, HTT.out, hf]))
        have HN := Lib.hid (bmore HB2.out HB3.out (Nat.le_refl _))
        subst hf
        rcases xf with _ | _
        all_goals
          go_wp2_with fail
          go_roundw
          case rel => exact ⟨k + 1, by omega, by go_num, HN.out, HF⟩
          case measure => simp [intOf]; omega
    · have HF := Lib.hid (HYES.out ⟨HC.out, take_all HT.out (by have := HLA.out; omega) (by have := HLB.out; omega), of_decide_eq_true HD.out.symm⟩)
      go_wp2_with fail
      go_ret
      exact ⟨by rw [HF.out]; rfl, bmore HB.out HB2.out (Nat.le_refl _)⟩
end Go.Proofs.YtnpgjcapekopnaaGreat.KP

namespace Go.Proofs.YtnpgjcapekopnaaGreat.KP
open Go.RowKit CP TP
open CM (Mg Cm)
open TM (Sp)
open KM (Wt Sk)
set_option linter.unusedVariables false
set_option linter.unusedSimpArgs false
set_option maxRecDepth 100000

set_option maxHeartbeats 8000000 in
theorem rgreat15_any (v : Value) (s : Sk) (w : World) (h : SkIs w v s) (hf : SkFit s) : Calls Tryz.prog 4 #[v] w (GrPost s w) := by
  obtain ⟨A, c, B, d, rfl, r1, d1⟩ := h
  obtain ⟨sc, ws, ds⟩ := s
  simp only at r1 d1
  obtain ⟨n, hna⟩ : ∃ n, n = ws.length := ⟨_, rfl⟩
  obtain ⟨m, hmb⟩ : ∃ m, m = ds.length := ⟨_, rfl⟩
  unfold vsk
  simp only
  rw [← hna] at r1 ⊢
  rw [← hmb] at d1 ⊢
  have HFW := Lib.hid (show n ≤ 300 → m ≤ 300 → Few ⟨sc, ws, ds⟩ from fun h1 h2 => ⟨by show ws.length ≤ 300; omega, by show ds.length ≤ 300; omega⟩)
  have HLA := Lib.hid hna
  have HFT := Lib.hid hf.2.1
  clear hna hmb hf
  have hn63 := r1.small
  have hm63 := d1.small
  have H := Lib.hid (fun W (hb : Below w.heap.size w W) => r1.below hb)
  have HB := Lib.hid (show Below w.heap.size w (w.alloc (.cells #[.int .i64 sc, .slice A n c, .slice B m d] 25)) from (Below.refl _ _).alloc (Nat.le_refl _) _)
  have X := Lib.hid (Box.new w 25 #[.int .i64 sc, .slice A n c, .slice B m d])
  clear r1 d1
  go_enter Tryz.func4, Tryz.ntmps4
  go_upto_region 1 with (fail)
  generalize w.alloc (.cells #[.int .i64 sc, .slice A n c, .slice B m d] 25) = w1 at HB X ⊢
  generalize hg : w.heap.size = g at X ⊢
  clear hg
  go_wp2_with fail
  go_loopw [3, 4] (fun s i wr => ∃ k y : Nat, k ≤ n ∧ k ≤ 400 ∧ y ≤ 30000 * k ∧ s = .int .i64 y ∧ i = .int .i64 k ∧ Below w1.heap.size w1 wr) (fun _ i _ => n - (intOf i).toNat)
  case atStart => exact ⟨0, 0, by omega, by omega, by omega, rfl, rfl, Below.refl _ _⟩
  case round =>
    obtain ⟨k, y, hk, hk4, hy, rfl, rfl, hB⟩ := hrel
    have HB2 := Lib.hid (bmore HB.out hB (Nat.le_refl _))
    obtain ⟨x0, x1, x2⟩ := box_sk (X.out.below hB X.out.lt)
    have HBr := Lib.hid hB
    clear hB
    by_cases hlt : k < n ∧ k < 400
    · obtain ⟨h1, h2⟩ := hlt
      obtain ⟨a, ha⟩ : ∃ a, ws[k]? = some a := ⟨_, List.getElem?_eq_getElem (by have := HLA.out; omega)⟩
      have hft := (HFT.out a (List.mem_of_getElem? ha)).1.1
      have hk1 := hft.2.2.1
      have hk2 := hft.2.2.2
      unfold maxLen at hk1 hk2
      obtain ⟨bl, o, P, q, rfl, _, hbl, hat, hrr⟩ := wts_at (H.out _ HB2.out) ha
      have hgl : a.m.gs.length ≤ 9223372036854775807 := by have := hrr.2.1; have := hrr.2.2; unfold maxLen at this; omega
      obtain ⟨a0, a1, a2, a3, a4, a5, a6⟩ := hat
      clear ha hft hrr
      have hk0 : (0 : Int) ≤ (k : Int) := by omega
      have hkn : (k : Int) < (n : Int) := by omega
      obtain ⟨⟨ai, ag, at', ak, ab⟩, am, af⟩ := a
      simp only at a0 a1 a2 a3 a4 a5 a6 hk1 hk2 hgl
      have hb3 : Below wr.heap.size wr (wr.alloc (.cells #[.int .i64 ai, .slice P ag.length q, .int .i64 at', .string ak, .string ab] 28)) := (Below.refl _ _).alloc (Nat.le_refl _) _
      have M := Lib.hid (Box.new wr 28 #[.int .i64 ai, .slice P ag.length q, .int .i64 at', .string ak, .string ab])
      have HB3 := Lib.hid (bmore HBr.out hb3 (Nat.le_refl _))
      go_upto_region 6 with (fail)
      clear hb3 x0 x1 x2 a0 a1 a2 a3 a4 a5 a6
      generalize wr.alloc (.cells #[.int .i64 ai, .slice P ag.length q, .int .i64 at', .string ak, .string ab] 28) = w3 at M HB3 ⊢
      generalize wr.heap.size = p at M ⊢
      obtain ⟨m0, m1, m2, m3, m4⟩ := box_mg M.out
      go_wp2_with fail
      go_roundw
      case rel => exact ⟨k + 1, y + min ag.length 10000 + min ak.size 10000 + min ab.size 10000, by omega, by omega, by omega, by congr 1; omega, by go_num, HB3.out⟩
      case measure => simp [intOf]; omega
    · rcases (show ¬ k < n ∨ (k < n ∧ ¬ k < 400) by omega) with q1 | ⟨q1, q2⟩
      · clear hlt
        by_cases p1 : 300 < n
        · go_wp2_with fail
          go_ret
          exact ⟨true, by first | rfl | simp, fun h => (by cases h), HB2.out⟩
        by_cases p2 : 300 < m
        · go_wp2_with fail
          go_ret
          exact ⟨true, by first | rfl | simp, fun h => (by cases h), HB2.out⟩
        go_wp2_with fail
        go_ret
        exact ⟨_, rfl, fun _ => HFW.out (by omega) (by omega), HB2.out⟩
      · clear hlt
        have p1 : 300 < n := by omega
        go_wp2_with fail
        go_ret
        exact ⟨true, by first | rfl | simp, fun h => (by cases h), HB2.out⟩
end Go.Proofs.YtnpgjcapekopnaaGreat.KP

namespace Go.Proofs.YtnpgjcapekopnaaGreat.KP
open Go.RowKit CP TP
open CM (Mg Cm)
open TM (Sp)
open KM (Wt Sk)
set_option linter.unusedVariables false
set_option linter.unusedSimpArgs false
set_option maxRecDepth 100000

/-- what Local answers -/
def LocIs (x : Int × Bool × Int) (w : World) (e : Ending) (w' : World) : Prop := e = .returned (.tuple #[.int .i64 x.1, .bool x.2.1, .int .i64 x.2.2]) ∧ Below w.heap.size w w'
set_option maxHeartbeats 8000000 in
theorem rlocal15_any (v : Value) (s : Sk) (id : Int) (w : World) (h : SkIs w v s) (hf : SkFit s) : Calls Tryz.prog 10 #[v, .int .i64 id] w (LocIs (KM.localF s id) w) := by
  have KM1 := Lib.hid (fun W (hb : Below w.heap.size w W) => rmay15_any v s W (h.below hb) hf)
  have KW1 := Lib.hid (fun W (hb : Below w.heap.size w W) => rwaits_any v s id W (h.below hb))
  obtain ⟨y, hy⟩ : ∃ y, y = KM.localF s id := ⟨_, rfl⟩
  rw [← hy]
  have HY := Lib.hid hy
  obtain ⟨ok, hok⟩ : ∃ q, q = decide (KM.may s) := ⟨_, rfl⟩
  rw [← hok] at KM1
  have HOK := Lib.hid hok
  clear hy hok hf
  obtain ⟨A, c, B, d, rfl, r1, d1⟩ := h
  obtain ⟨n, hna⟩ : ∃ n, n = s.ws.length := ⟨_, rfl⟩
  have HLA := Lib.hid hna
  have H := Lib.hid (fun W (hb : Below w.heap.size w W) => r1.below hb)
  unfold vsk at KM1 KW1 ⊢
  rw [← hna] at KM1 KW1 H ⊢
  clear hna r1 d1
  obtain ⟨m, hmb⟩ : ∃ m, m = s.ds.length := ⟨_, rfl⟩
  rw [← hmb] at KM1 KW1 ⊢
  clear hmb
  obtain ⟨sc, ws, ds⟩ := s
  simp only at KM1 KW1 HLA H ⊢
  have HB := Lib.hid (show Below w.heap.size w (w.alloc (.cells #[.int .i64 sc, .slice A n c, .slice B m d] 25)) from (Below.refl _ _).alloc (Nat.le_refl _) _)
  have X := Lib.hid (Box.new w 25 #[.int .i64 sc, .slice A n c, .slice B m d])
  go_enter Tryz.func10, Tryz.ntmps10
  go_upto_region 1 with (fail)
  generalize w.alloc (.cells #[.int .i64 sc, .slice A n c, .slice B m d] 25) = w1 at HB X ⊢
  generalize hg : w.heap.size = g at X ⊢
  clear hg
  obtain ⟨x0, x1, x2⟩ := box_sk X.out
  go_wp2_with fail
  refine (KM1.out _ HB.out).mono ?_
  rintro e w2 ⟨rfl, hb⟩
  replace HB := Lib.hid (bmore HB.out hb (Nat.le_refl _))
  replace X := Lib.hid (X.out.below hb X.out.lt)
  clear hb x0 x1 x2 KM1
  rcases ok with _ | _
  · have HF := Lib.hid (show y = (0, false, 8) by rw [HY.out, KM.localF, if_pos (of_decide_eq_false HOK.out.symm)])
    go_wp2_with fail
    go_ret3
    exact ⟨by rw [HF.out]; rfl, HB.out⟩
  have HM := Lib.hid (of_decide_eq_true HOK.out.symm)
  obtain ⟨x0, x1, x2⟩ := box_sk X.out
  go_wp2_with fail
  refine (KW1.out _ HB.out).mono ?_
  rintro e w3 ⟨rfl, hb⟩
  replace HB := Lib.hid (bmore HB.out hb (Nat.le_refl _))
  replace X := Lib.hid (X.out.below hb X.out.lt)
  clear hb x0 x1 x2 KW1
  obtain ⟨x0, x1, x2⟩ := box_sk X.out
  by_cases hk : KM.wat ws id < ws.length
  · obtain ⟨k, hkk⟩ : ∃ k, k = KM.wat ws id := ⟨_, rfl⟩
    have hwi : watI ws id = (k : Int) := by unfold watI; rw [if_pos hk, hkk]
    rw [hwi]
    obtain ⟨x, hx⟩ : ∃ x, ws[k]? = some x := ⟨_, List.getElem?_eq_getElem (by omega)⟩
    have HF := Lib.hid (show y = (x.t, x.f, 0) by rw [HY.out, KM.localF, if_neg (fun h => h HM.out), ← hkk, show (⟨sc, ws, ds⟩ : Sk).ws[k]? = some x from hx])
    obtain ⟨bl, o, P, q, rfl, hkn, _, hat, _⟩ := wts_at (H.out _ HB.out) hx
    obtain ⟨a0, a1, a2, a3, a4, a5, a6⟩ := hat
    have hk0 : (0 : Int) ≤ (k : Int) := by omega
    have hk1 : (k : Int) < (n : Int) := by omega
    have hk2 : ¬ (k : Int) < 0 := by omega
    clear hx hkk hwi hk hkn
    obtain ⟨⟨xi, xg, xt, xk, xb⟩, xm, xf⟩ := x
    simp only at a0 a1 a2 a3 a4 a5 a6 HF
    go_wp2_with fail
    go_region
    have HB2 := Lib.hid (below_drewN HB.out 1)
    go_wp2_with fail
    go_ret3
    exact ⟨by rw [HF.out]; rfl, HB2.out⟩
  · have hwi : watI ws id = -1 := by unfold watI; rw [if_neg hk]
    rw [hwi]
    have HF := Lib.hid (show y = (0, false, 6) by rw [HY.out, KM.localF, if_neg (fun h => h HM.out), show (⟨sc, ws, ds⟩ : Sk).ws[KM.wat ws id]? = none from List.getElem?_eq_none (by show ws.length ≤ _; omega)])
    clear hwi hk
    go_wp2_with fail
    go_ret3
    exact ⟨by rw [HF.out]; rfl, HB.out⟩
end Go.Proofs.YtnpgjcapekopnaaGreat.KP
