/-
  The laws' own long, over commands that came in (towncrierlaw15): where it is false, they are few, and their lists short. Conditions: they read as such.
  The document's own Great and TwinMessage (towncrierref15). Conditions: a clock that reads as one; at most 2^44 groups.
  The document's own SameStamps and SameMessages of any two lists (towncrierref15). Conditions: slices that read as such.
-/
import Derived.Test.YtnpgjcapekopnaaK20
import Derived.Test.YtnpgjcapekopnaaK01
import Derived.Lib.MinMax
namespace Go.Proofs.Ytnpgjcapekopnaa.KP
open Go.RowKit CP TP
open CM (Mg Cm)
open TM (Sp)
open KM (Wt Sk)
set_option linter.unusedVariables false
set_option linter.unusedSimpArgs false
set_option maxRecDepth 100000

/-- where commands are not long -/
def Short (es : List LP.El) : Prop := es.length ≤ 60 ∧ ∀ e ∈ es, e.x.m.gs.length ≤ 1000 ∧ e.x.ms.length ≤ 1000
def LoPost (es : List LP.El) (W : World) (e : Ending) (w' : World) : Prop := ∃ b : Bool, e = .returned (.bool b) ∧ (b = false → Short es) ∧ Below W.heap.size W w'
set_option maxHeartbeats 8000000 in
theorem long15_any (A : Option Addr) (n c : Nat) (es : List LP.El) (w : World) (h : CmsArg w A n c es) :
    Calls Try.prog 14 #[.slice A n c] w (LoPost es w) := by
  have HL := Lib.hid h.2.1
  have HFT := Lib.hid h.2.2.2.2
  have hn63 := h.small
  have H := Lib.hid (fun W (hb : Below w.heap.size w W) => h.below hb)
  have HSH := Lib.hid (show (∀ j y, j < n → es[j]? = some y → y.x.m.gs.length ≤ 1000 ∧ y.x.ms.length ≤ 1000) → n ≤ 60 → Short es from fun h1 h2 => ⟨by rw [h.2.1]; exact h2, fun e he => by
    obtain ⟨j, hj⟩ := List.getElem?_of_mem he
    exact h1 j e (by have := (List.getElem?_eq_some_iff.1 hj).1; have := h.2.1; omega) hj⟩)
  clear h
  go_enter Try.func14, Try.ntmps14
  go_wp2_with fail
  go_loopw [3] (fun i wr => ∃ k : Nat, k ≤ n ∧ k ≤ 100 ∧ i = .int .i64 k ∧ Below w.heap.size w wr ∧ Hid (∀ j y, j < k → es[j]? = some y → y.x.m.gs.length ≤ 1000 ∧ y.x.ms.length ≤ 1000)) (fun i _ => n - (intOf i).toNat)
  case atStart => exact ⟨0, by omega, by omega, rfl, Below.refl _ _, Lib.hid fun j y hj => absurd hj (by omega)⟩
  case round =>
    obtain ⟨k, hk, hk4, rfl, hB, HN⟩ := hrel
    have HB2 := Lib.hid hB
    clear hB
    by_cases hlt : k < n ∧ k < 100
    · obtain ⟨h1, h2⟩ := hlt
      obtain ⟨a, ha⟩ : ∃ a, es[k]? = some a := ⟨_, List.getElem?_eq_getElem (by have := HL.out; omega)⟩
      have HF := Lib.hid (show a.x.m.gs.length ≤ 1000 ∧ a.x.ms.length ≤ 1000 → ∀ j y, j < k + 1 → es[j]? = some y → y.x.m.gs.length ≤ 1000 ∧ y.x.ms.length ≤ 1000 from fun hne j y hj hy => by
        rcases (show j < k ∨ j = k by omega) with h | rfl
        · exact HN.out j y h hy
        · rw [ha] at hy; injection hy with hy; subst hy; exact hne)
      obtain ⟨bl, o, rfl, _, hbl, hat, hr1, hr2⟩ := (H.out _ HB2.out).at_ ha
      have hgl : a.x.m.gs.length ≤ 9223372036854775807 := by have := hr1.2.1; have := hr1.2.2; unfold maxLen at this; omega
      have hsl : a.x.ms.length ≤ 9223372036854775807 := by have := hr2.2.1; have := hr2.2.2; unfold maxLen at this; omega
      clear ha hr1 hr2
      have hk0 : (0 : Int) ≤ (k : Int) := by omega
      have hkn : (k : Int) < (n : Int) := by omega
      obtain ⟨P, q, Q, u, ⟨bk, ⟨ai, ag, at_, ak, ab⟩, bid, btm, bms, btp, bwh, bn⟩⟩ := a
      simp only at HF hgl hsl
      have HAT := Lib.hid (fun W (hb : Below wr.heap.size wr W) => show W.cell? ⟨bl, o + k * 12 + 8, none⟩ = some (.slice Q bms.length u) from (hb.cell (p := ⟨bl, o + k * 12 + 8, none⟩) hbl).trans hat.2.2.2.2.2.2.2.2.1)
      obtain ⟨a0, a1, a2, a3, a4, a5, a6, a7, a8, a9, a10, a11⟩ := hat
      simp only at a0 a1 a2 a3 a4 a5 a6 a7 a8 a9 a10 a11
      have hb3 : Below wr.heap.size wr (wr.alloc (.cells #[.int .i64 ai, .slice P ag.length q, .int .i64 at_, .string ak, .string ab] 31)) := (Below.refl _ _).alloc (Nat.le_refl _) _
      have M := Lib.hid (Box.new wr 31 #[.int .i64 ai, .slice P ag.length q, .int .i64 at_, .string ak, .string ab])
      have HB3 := Lib.hid (bmore HB2.out hb3 (Nat.le_refl _))
      have z8 := HAT.out _ hb3
      go_upto_region 5 with (fail)
      clear hb3 a0 a1 a2 a3 a4 a5 a6 a7 a8 a9 a10 a11 HAT
      generalize wr.alloc (.cells #[.int .i64 ai, .slice P ag.length q, .int .i64 at_, .string ak, .string ab] 31) = w3 at M HB3 z8 ⊢
      generalize wr.heap.size = p at M ⊢
      obtain ⟨m0, m1, m2, m3, m4⟩ := box_mg M.out
      by_cases g1 : 1000 < ag.length
      · have b1 : decide ((1000 : Int) < (ag.length : Int)) = true := by simp; omega
        clear g1
        go_wp2_with fail
        go_ret
        exact ⟨true, by first | rfl | simp, fun h => (by cases h), HB3.out⟩
      have b1 : decide ((1000 : Int) < (ag.length : Int)) = false := by simp; omega
      obtain ⟨y, hy⟩ : ∃ y, y = IntKind.i64.wrap ((ak.size : Int) + (ab.size : Int)) := ⟨_, rfl⟩
      have hy' := hy.symm
      clear hy
      rcases hb5 : decide ((5000 : Int) < y) with _ | _
      rotate_left
      · go_wp2_with fail
        go_ret
        exact ⟨true, by first | rfl | simp, fun h => (by cases h), HB3.out⟩
      by_cases g3 : 1000 < bms.length
      · have b3 : decide ((1000 : Int) < (bms.length : Int)) = true := by simp; omega
        clear g3
        go_wp2_with fail
        go_ret
        exact ⟨true, by first | rfl | simp, fun h => (by cases h), HB3.out⟩
      have b3 : decide ((1000 : Int) < (bms.length : Int)) = false := by simp; omega
      have HF2 := Lib.hid (HF.out ⟨by omega, by omega⟩)
      clear g1 g3
      go_wp2_with fail
      go_roundw
      case rel => exact ⟨k + 1, by omega, by omega, by go_num, HB3.out, HF2⟩
      case measure => simp [intOf]; omega
    · rcases (show ¬ k < n ∨ (k < n ∧ ¬ k < 100) by omega) with q1 | ⟨q1, q2⟩
      · clear hlt
        have HE := Lib.hid (fun h2 : n ≤ 60 => HSH.out (fun j y hj hy => HN.out j y (by omega) hy) h2)
        by_cases p1 : 60 < n
        · have b6 : decide ((60 : Int) < (n : Int)) = true := by simp; omega
          go_wp2_with fail
          go_ret
          exact ⟨true, by first | rfl | simp, fun h => (by cases h), HB2.out⟩
        have b6 : decide ((60 : Int) < (n : Int)) = false := by simp; omega
        have HE2 := Lib.hid (HE.out (by omega))
        clear HE
        go_wp2_with fail
        go_ret
        exact ⟨false, by first | rfl | simp, fun _ => HE2.out, HB2.out⟩
      · clear hlt
        have p1 : 60 < n := by omega
        have b6 : decide ((60 : Int) < (n : Int)) = true := by simp; omega
        go_wp2_with fail
        go_ret
        exact ⟨true, by first | rfl | simp, fun h => (by cases h), HB2.out⟩
end Go.Proofs.Ytnpgjcapekopnaa.KP

namespace Go.Proofs.Ytnpgjcapekopnaa.KP
open Go.RowKit CP TP
open CM (Mg Cm)
open TM (Sp)
open KM (Wt Sk)
set_option linter.unusedVariables false
set_option linter.unusedSimpArgs false
set_option maxRecDepth 100000

set_option maxHeartbeats 8000000 in
theorem rgreat15_any (v : Value) (s : Sk) (w : World) (h : SkIs w v s) (hf : SkFit s) : Calls Try.prog 13 #[v] w (GrPost s w) := by
  obtain ⟨A, c, B, d, rfl, r1, d1⟩ := h
  obtain ⟨sc, ws, ds⟩ := s
  simp only at r1 d1
  obtain ⟨n, hna⟩ : ∃ n, n = ws.length := ⟨_, rfl⟩
  obtain ⟨m, hmb⟩ : ∃ m, m = ds.length := ⟨_, rfl⟩
  unfold vsk
  simp only
  rw [← hna] at r1 ⊢
  rw [← hmb] at d1 ⊢
  have HFW := Lib.hid (show n ≤ 300 → m ≤ 300 → Few ⟨sc, ws, ds⟩ from fun h1 h2 => ⟨by show ws.length ≤ 300; omega, by show ds.length ≤ 300; omega⟩)
  have HLA := Lib.hid hna
  have HFT := Lib.hid hf.2.1
  clear hna hmb hf
  have hn63 := r1.small
  have hm63 := d1.small
  have H := Lib.hid (fun W (hb : Below w.heap.size w W) => r1.below hb)
  have HB := Lib.hid (show Below w.heap.size w (w.alloc (.cells #[.int .i64 sc, .slice A n c, .slice B m d] 25)) from (Below.refl _ _).alloc (Nat.le_refl _) _)
  have X := Lib.hid (Box.new w 25 #[.int .i64 sc, .slice A n c, .slice B m d])
  clear r1 d1
  go_enter Try.func13, Try.ntmps13
  go_upto_region 1 with (fail)
  generalize w.alloc (.cells #[.int .i64 sc, .slice A n c, .slice B m d] 25) = w1 at HB X ⊢
  generalize hg : w.heap.size = g at X ⊢
  clear hg
  go_wp2_with fail
  go_loopw [3, 4] (fun s i wr => ∃ k y : Nat, k ≤ n ∧ k ≤ 400 ∧ y ≤ 30000 * k ∧ s = .int .i64 y ∧ i = .int .i64 k ∧ Below w1.heap.size w1 wr) (fun _ i _ => n - (intOf i).toNat)
  case atStart => exact ⟨0, 0, by omega, by omega, by omega, rfl, rfl, Below.refl _ _⟩
  case round =>
    obtain ⟨k, y, hk, hk4, hy, rfl, rfl, hB⟩ := hrel
    have HB2 := Lib.hid (bmore HB.out hB (Nat.le_refl _))
    obtain ⟨x0, x1, x2⟩ := box_sk (X.out.below hB X.out.lt)
    have HBr := Lib.hid hB
    clear hB
    by_cases hlt : k < n ∧ k < 400
    · obtain ⟨h1, h2⟩ := hlt
      obtain ⟨a, ha⟩ : ∃ a, ws[k]? = some a := ⟨_, List.getElem?_eq_getElem (by have := HLA.out; omega)⟩
      have hft := (HFT.out a (List.mem_of_getElem? ha)).1.1
      have hk1 := hft.2.2.1
      have hk2 := hft.2.2.2
      unfold maxLen at hk1 hk2
      obtain ⟨bl, o, P, q, rfl, _, hbl, hat, hrr⟩ := wts_at (H.out _ HB2.out) ha
      have hgl : a.m.gs.length ≤ 9223372036854775807 := by have := hrr.2.1; have := hrr.2.2; unfold maxLen at this; omega
      obtain ⟨a0, a1, a2, a3, a4, a5, a6⟩ := hat
      clear ha hft hrr
      have hk0 : (0 : Int) ≤ (k : Int) := by omega
      have hkn : (k : Int) < (n : Int) := by omega
      obtain ⟨⟨ai, ag, at', ak, ab⟩, am, af⟩ := a
      simp only at a0 a1 a2 a3 a4 a5 a6 hk1 hk2 hgl
      have hb3 : Below wr.heap.size wr (wr.alloc (.cells #[.int .i64 ai, .slice P ag.length q, .int .i64 at', .string ak, .string ab] 31)) := (Below.refl _ _).alloc (Nat.le_refl _) _
      have M := Lib.hid (Box.new wr 31 #[.int .i64 ai, .slice P ag.length q, .int .i64 at', .string ak, .string ab])
      have HB3 := Lib.hid (bmore HBr.out hb3 (Nat.le_refl _))
      go_upto_region 6 with (fail)
      clear hb3 x0 x1 x2 a0 a1 a2 a3 a4 a5 a6
      generalize wr.alloc (.cells #[.int .i64 ai, .slice P ag.length q, .int .i64 at', .string ak, .string ab] 31) = w3 at M HB3 ⊢
      generalize wr.heap.size = p at M ⊢
      obtain ⟨m0, m1, m2, m3, m4⟩ := box_mg M.out
      go_wp2_with fail
      go_roundw
      case rel => exact ⟨k + 1, y + min ag.length 10000 + min ak.size 10000 + min ab.size 10000, by omega, by omega, by omega, by congr 1; omega, by go_num, HB3.out⟩
      case measure => simp [intOf]; omega
    · rcases (show ¬ k < n ∨ (k < n ∧ ¬ k < 400) by omega) with q1 | ⟨q1, q2⟩
      · clear hlt
        by_cases p1 : 300 < n
        · go_wp2_with fail
          go_ret
          exact ⟨true, by first | rfl | simp, fun h => (by cases h), HB2.out⟩
        by_cases p2 : 300 < m
        · go_wp2_with fail
          go_ret
          exact ⟨true, by first | rfl | simp, fun h => (by cases h), HB2.out⟩
        go_wp2_with fail
        go_ret
        exact ⟨_, rfl, fun _ => HFW.out (by omega) (by omega), HB2.out⟩
      · clear hlt
        have p1 : 300 < n := by omega
        go_wp2_with fail
        go_ret
        exact ⟨true, by first | rfl | simp, fun h => (by cases h), HB2.out⟩
end Go.Proofs.Ytnpgjcapekopnaa.KP

namespace Go.Proofs.Ytnpgjcapekopnaa.KP
open Go.RowKit CP TP
open CM (Mg Cm)
open TM (Sp)
open KM (Wt Sk)
set_option linter.unusedVariables false
set_option linter.unusedSimpArgs false
set_option maxRecDepth 100000

set_option maxHeartbeats 4000000 in
theorem rsameStamps_any (A B : Option Addr) (n m ca cb : Nat) (x y : List Sp) (w : World) (h1 : SpsIs w A n ca x) (h2 : SpsIs w B m cb y) :
    Calls Try.prog 16 #[.slice A n ca, .slice B m cb] w (IsB (decide (x = y)) w) := by
  obtain ⟨r, hr⟩ : ∃ r, r = decide (x = y) := ⟨_, rfl⟩
  rw [← hr]
  have HR := Lib.hid hr
  have hn := h1.small
  have hm := h2.small
  have HX := Lib.hid h1.2.1
  have HY := Lib.hid h2.2.1
  have H1 := Lib.hid h1
  have H2 := Lib.hid h2
  clear h1 h2 hr
  by_cases hnm : n = m
  rotate_left
  · have HF := Lib.hid (show r = false by rw [HR.out]; exact decide_eq_false (fun e => hnm (by have := HX.out; have := HY.out; rw [e] at *; omega)))
    have hb : ((n : Int) != (m : Int)) = true := by simp; omega
    clear hnm
    go_enter Try.func16, Try.ntmps16
    go_wp2_with fail
    go_ret
    exact ⟨by rw [HF.out]; rfl, Below.refl _ _⟩
  subst hnm
  have hne : ((n : Int) != (n : Int)) = false := by simp
  go_enter Try.func16, Try.ntmps16
  go_wp2_with fail
  go_loopw [5] (fun i wr => ∃ k : Nat, k ≤ n ∧ i = .int .i64 k ∧ Below w.heap.size w wr ∧ Hid (x.take k = y.take k)) (fun i _ => n - (intOf i).toNat)
  case atStart => exact ⟨0, by omega, rfl, Below.refl _ _, Lib.hid rfl⟩
  case round =>
    obtain ⟨k, hk, rfl, hB, HT⟩ := hrel
    have HB := Lib.hid hB
    clear hB
    by_cases hlt : k < n
    · obtain ⟨a, ha⟩ : ∃ a, x[k]? = some a := ⟨_, List.getElem?_eq_getElem (by have := HX.out; omega)⟩
      obtain ⟨b, hb⟩ : ∃ b, y[k]? = some b := ⟨_, List.getElem?_eq_getElem (by have := HY.out; omega)⟩
      have HA := Lib.hid ha
      have HBb := Lib.hid hb
      obtain ⟨b1, o1, rfl, _, _, x0, x1⟩ := (H1.out.below HB.out).at_ ha
      obtain ⟨b2, o2, rfl, _, _, y0, y1⟩ := (H2.out.below HB.out).at_ hb
      clear ha hb
      have hk0 : (0 : Int) ≤ (k : Int) := by omega
      have hkn : (k : Int) < (n : Int) := by omega
      by_cases hab : a = b
      · subst hab
        have HN := Lib.hid (take_more HT.out HA.out HBb.out)
        obtain ⟨at_, ai⟩ := a
        simp only at x0 x1 y0 y1
        go_wp2_with fail
        go_region
        have HB2 := Lib.hid (below_drewN HB.out 1)
        go_wp2_with fail
        go_roundw
        case rel => exact ⟨k + 1, by omega, by go_num, HB2.out, HN⟩
        case measure => simp [intOf]; omega
      · have HF := Lib.hid (show r = false by rw [HR.out]; exact decide_eq_false (ne_at HA.out HBb.out hab))
        have hc : (a.t == b.t) = false ∨ ((a.t == b.t) = true ∧ (a.i == b.i) = false) := by
          by_cases e : a.t = b.t
          · right
            refine ⟨by simpa using e, ?_⟩
            have : a.i ≠ b.i := fun e2 => hab (by obtain ⟨p, q⟩ := a; obtain ⟨p', q'⟩ := b; simp only at e e2; rw [e, e2])
            simpa using this
          · left; simpa using e
        clear hab HA HBb
        obtain ⟨at_, ai⟩ := a
        obtain ⟨bt, bi⟩ := b
        simp only at x0 x1 y0 y1 hc
        rcases hc with c1 | ⟨c1, c2⟩
        all_goals
          go_wp2_with fail
          go_region
          have HB2 := Lib.hid (below_drewN HB.out 1)
          go_wp2_with fail
          go_ret
          exact ⟨by rw [HF.out]; rfl, HB2.out⟩
    · have HF := Lib.hid (show r = true by
        rw [HR.out]
        exact decide_eq_true (take_all HT.out (by have := HX.out; omega) (by have := HY.out; omega)))
      go_wp2_with fail
      go_ret
      exact ⟨by rw [HF.out]; rfl, HB.out⟩
end Go.Proofs.Ytnpgjcapekopnaa.KP
