/-
  The walk of DecreeVotes: no move lets a vote fall, and one node's vote alone is turned. Conditions: none beyond the arguments' own.
-/
import Derived.Test.YtiiobafcgdelmaaK40
import Derived.Test.YtiiobafcgdelmaaK41
import Derived.Test.YtiiobafcgdelmaaKWArg
import Derived.Deep.LoopGhost
import Derived.Deep.CutRange
import Derived.BigRegion
namespace Go.Proofs.Ytiiobafcgdelmaa
open Go.RowKit Go.Shelf PD
set_option linter.unusedVariables false
set_option linter.unusedSimpArgs false

/-- two votes in variables of their own -/
def TwoV (u : World) (a b : DC.Vt) (x y : Value) (wx : World) : Prop :=
  ∃ g h, x = .pointer (some ⟨g, 0, none⟩) ∧ y = .pointer (some ⟨h, 0, none⟩) ∧ Below u.heap.size u wx ∧ Box wx g 53 #[.int .i64 a.p, .int .i64 a.b, .string a.v] ∧ Box wx h 53 #[.int .i64 b.p, .int .i64 b.b, .string b.v]
theorem twoV_1 (wr : World) (a b : DC.Vt) : TwoV wr a b (.pointer (some ⟨wr.heap.size, 0, none⟩)) (.pointer (some ⟨wr.heap.size + 1, 0, none⟩)) ((wr.alloc (.cells #[.int .i64 a.p, .int .i64 a.b, .string a.v] 53)).alloc (.cells #[.int .i64 b.p, .int .i64 b.b, .string b.v] 53)).drew := by
  refine ⟨_, _, rfl, rfl, (below2 _ _).drew, ((Box.new _ _ _).below ((Below.refl _ _).alloc (Nat.le_refl _) _) (by simp)).drew, ?_⟩
  have := (Box.new (wr.alloc (.cells #[.int .i64 a.p, .int .i64 a.b, .string a.v] 53)) 53 #[.int .i64 b.p, .int .i64 b.b, .string b.v]).drew
  rwa [show (wr.alloc (.cells #[.int .i64 a.p, .int .i64 a.b, .string a.v] 53)).heap.size = wr.heap.size + 1 by simp] at this
theorem twoV_2 (wr : World) (a b : DC.Vt) : TwoV wr a b (.pointer (some ⟨wr.heap.size + 1, 0, none⟩)) (.pointer (some ⟨wr.heap.size, 0, none⟩)) ((wr.alloc (.cells #[.int .i64 b.p, .int .i64 b.b, .string b.v] 53)).alloc (.cells #[.int .i64 a.p, .int .i64 a.b, .string a.v] 53)).drew := by
  obtain ⟨g, h, e1, e2, hb, x1, x2⟩ := twoV_1 wr b a
  exact ⟨h, g, e2, e1, hb, x2, x1⟩
/-- how many of the first k votes were turned -/
def cntT (w w' : DC.Wd) (k : Nat) : Nat := ((List.range k).filter (fun i => decide (w.vs[i]? ≠ w'.vs[i]?))).length
theorem cntT_succ (w w' : DC.Wd) (k : Nat) : cntT w w' (k + 1) = cntT w w' k + (if w.vs[k]? ≠ w'.vs[k]? then 1 else 0) := by
  unfold cntT
  rw [List.range_succ, List.filter_append, List.length_append]
  congr 1
  rw [List.filter_cons]
  split
  · rename_i h; rw [if_pos (by simpa using h)]; rfl
  · rename_i h; rw [if_neg (by simpa using h)]; rfl
theorem cntT_le {w w' : DC.Wd} {n : Nat} (h : DC.Turned w w' n) : ∀ k, cntT w w' k ≤ (if n < k then 1 else 0)
  | 0 => by simp [cntT]
  | k + 1 => by
    have ih := cntT_le h k
    rw [cntT_succ]
    by_cases e : k = n
    · subst e
      rw [if_neg (Nat.lt_irrefl _)] at ih
      rw [if_pos (Nat.lt_succ_self _)]
      split <;> omega
    · rw [if_neg (show ¬ (w.vs[k]? ≠ w'.vs[k]?) from fun h2 => h2 (h.1 k e).symm)]
      split at ih <;> split <;> omega
theorem vt_eq {a b : DC.Vt} : a = b ↔ a.p = b.p ∧ a.b = b.b ∧ a.v = b.v := by
  obtain ⟨_, _, _⟩ := a
  obtain ⟨_, _, _⟩ := b
  simp
set_option maxRecDepth 100000 in
set_option maxHeartbeats 8000000 in
theorem decreeVotes_walk (v : Value) (w : DC.Wd) (v1 : Value) (m : DC.Mv) (W : World) (h1 : WArg W v w) (h2 : MvArg v1 m) :
    Calls Try.prog 6 #[v, v1] W (BoolIs true W) := by
  obtain ⟨hw, hwl⟩ := h1
  obtain ⟨rfl, hk0, hk255, hvs⟩ := h2
  have hv63 : m.v.size ≤ 9223372036854775807 := by unfold maxLen at hvs; omega
  have b1 : w.vs.length ≤ 9223372036854775807 := by have := hwl.l1; unfold maxLen at this; omega
  have HW := Lib.hid hw
  have HWL := Lib.hid hwl
  obtain ⟨A0, c0, A1, c1, A2, c2, A3, c3, A4, c4, xs, rfl, R⟩ := hw
  obtain ⟨W0, hW0⟩ : ∃ W0, W0 = (W.alloc (.cells #[.slice A0 w.ms.length c0, .slice A1 w.vs.length c1, .slice A2 w.ts.length c2, .slice A3 w.ml.length c3, .slice A4 w.ch.length c4] 28)).alloc (.cells #[.int .u8 m.k, .int .i64 m.n, .int .i64 m.at_, .string m.v] 34) := ⟨_, rfl⟩
  have HB0 := Lib.hid (show Below W.heap.size W W0 by rw [hW0]; exact below2 _ _)
  have HX0 := Lib.hid (show Box W0 W.heap.size 28 #[.slice A0 w.ms.length c0, .slice A1 w.vs.length c1, .slice A2 w.ts.length c2, .slice A3 w.ml.length c3, .slice A4 w.ch.length c4] by rw [hW0]; exact (Box.new _ _ _).below ((Below.refl _ _).alloc (Nat.le_refl _) _) (by simp))
  have HM0 := Lib.hid (show Box W0 (W.heap.size + 1) 34 #[.int .u8 m.k, .int .i64 m.n, .int .i64 m.at_, .string m.v] by
    rw [hW0]
    have := Box.new (W.alloc (.cells #[.slice A0 w.ms.length c0, .slice A1 w.vs.length c1, .slice A2 w.ts.length c2, .slice A3 w.ml.length c3, .slice A4 w.ch.length c4] 28)) 34 #[.int .u8 m.k, .int .i64 m.n, .int .i64 m.at_, .string m.v]
    rwa [show (W.alloc (.cells #[.slice A0 w.ms.length c0, .slice A1 w.vs.length c1, .slice A2 w.ts.length c2, .slice A3 w.ml.length c3, .slice A4 w.ch.length c4] 28)).heap.size = W.heap.size + 1 by simp] at this)
  have H1 := Lib.hid R.h1
  clear hwl R hvs
  go_enter Try.func6, Try.ntmps6
  go_wp2_with fail
  rw [← hW0]
  clear hW0
  refine (alive_any W0).mono ?_
  rintro e w1 ⟨rfl, hb1⟩
  have HB1 := Lib.hid (bmore HB0.out hb1 (Nat.le_refl _))
  have HX1 := Lib.hid (HX0.out.below hb1 HX0.out.lt)
  have HM1 := Lib.hid (HM0.out.below hb1 HM0.out.lt)
  clear hb1 HX0 HM0 HB0
  generalize W.heap.size + 1 = gm at HM1 ⊢
  generalize hgb : W.heap.size = gb at HX1 ⊢
  obtain ⟨⟨x0, x1, x2, x3, x4⟩, _⟩ := HX1.out.five
  obtain ⟨m0, m1, m2, m3⟩ := box4 HM1.out
  have HG := Lib.hid (wgreat_any _ w w1 (HW.out.below HB1.out) HWL.out)
  subst hgb
  go_wp2_with fail
  refine HG.out.mono ?_
  rintro e w2 ⟨b, rfl, hsm, hb2⟩
  have HB2 := Lib.hid (bmore HB1.out hb2 (Nat.le_refl _))
  have HX2 := Lib.hid (HX1.out.below hb2 HX1.out.lt)
  have HM2 := Lib.hid (HM1.out.below hb2 HM1.out.lt)
  have HSM := Lib.hid hsm
  clear hb2 hsm HG HX1 HM1 HB1 x0 x1 x2 x3 x4 m0 m1 m2 m3
  obtain ⟨⟨x0, x1, x2, x3, x4⟩, _⟩ := HX2.out.five
  obtain ⟨m0, m1, m2, m3⟩ := box4 HM2.out
  rcases b with _ | _
  rotate_left
  · go_wp2_with fail
    go_ret
    exact ⟨rfl, HB2.out⟩
  by_cases h5000 : 5000 < m.v.size
  · have e1 : decide ((5000 : Int) < (m.v.size : Int)) = true := by simp; omega
    go_wp2_with fail
    go_ret
    exact ⟨rfl, HB2.out⟩
  have HF := Lib.hid ((HSM.out rfl).fit HWL.out)
  have HDO := Lib.hid (wdo_any _ w m.k m.n m.at_ m.v w2 (HW.out.below HB2.out) HF.out hk0 hk255 (by unfold maxLen; omega))
  clear HWL HSM
  go_wp2_with fail
  refine HDO.out.mono ?_
  rintro e w3 ⟨v3, y3, rfl, hdo, hb3, hv3⟩
  clear HDO x0 x1 x2 x3 x4 m0 m1 m2 m3 HM2
  have HSZ := Lib.hid HB2.out.size
  have HB3 := Lib.hid (bmore HB2.out hb3 (Nat.le_refl _))
  have HX3 := Lib.hid (HX2.out.below hb3 HX2.out.lt)
  rcases hv3 with ⟨hne, rfl⟩ | ⟨rfl, hown⟩
  · have e0 : (y3 != 0) = true := by simpa using hne
    have HBF := Lib.hid (bmore HB3.out ((Below.refl w3.heap.size w3).alloc (Nat.le_refl _) (.cells #[.slice none 0 0, .slice none 0 0, .slice none 0 0, .slice none 0 0, .slice none 0 0] 28)) (Nat.le_refl _))
    clear hne hb3 HX2 HX3 HB3 HB2 hdo
    unfold zeroW
    go_wp2_with fail
    go_ret
    exact ⟨rfl, HBF.out⟩
  obtain ⟨hmay, hE⟩ : DC.May w ∧ DC.errD w m = 0 := by
    rcases hdo with ⟨h1, h2⟩ | ⟨_, h2⟩
    · exact ⟨h1, h2.symm⟩
    · exact absurd h2 (by decide)
  obtain ⟨nt, hturn⟩ := DC.turned_aft hmay.zero (DC.errD_zero hE).1
  have hmay2 := DC.may_step hmay hE
  have hpm2 := DC.pm_step (fun m' hm' => (HF.out.ml m' hm').2.2.2.2.1) hmay hE
  have hchl := (DC.aft_ch w m).1
  have hcnt := cntT_le hturn
  generalize DC.aft w ⟨m.k, m.n, m.at_, m.v⟩ = x at hown hturn hmay2 hpm2 hchl hcnt
  have hown2 := hown
  obtain ⟨B0, d0, B1, d1, B2, d2, B3, d3, B4, d4, ys, rfl, _, o1, _, _, _, _⟩ := hown
  have hal : Below w3.heap.size w3 (w3.alloc (.cells #[.slice B0 x.ms.length d0, .slice B1 x.vs.length d1, .slice B2 x.ts.length d2, .slice B3 x.ml.length d3, .slice B4 x.ch.length d4] 28)) := (Below.refl _ _).alloc (Nat.le_refl _) _
  have HB4 := Lib.hid (bmore HB3.out hal (Nat.le_refl _))
  have HX4 := Lib.hid (HX3.out.below hal HX3.out.lt)
  have HY4 := Lib.hid (Box.new w3 28 #[.slice B0 x.ms.length d0, .slice B1 x.vs.length d1, .slice B2 x.ts.length d2, .slice B3 x.ml.length d3, .slice B4 x.ch.length d4])
  have HO4 := Lib.hid (hown2.below hal)
  have O14 := Lib.hid (rdG_own (own_below3 o1 hal))
  have HT := Lib.hid hturn
  have HM2 := Lib.hid hmay2
  have HP2 := Lib.hid hpm2
  have HCN := Lib.hid hcnt
  have hvl := hmay.vl
  have hvl2 := hmay2.vl
  have HVL := Lib.hid hvl
  have HVL2 := Lib.hid hvl2
  have e1 : ((x.vs.length : Int) != 6) = false := by rw [hvl2]; rfl
  have e2 : ((w.vs.length : Int) != 6) = false := by rw [hvl]; rfl
  have e3 : decide ((x.ch.length : Int) < (w.ch.length : Int)) = false := by simp; omega
  have e4 : decide (x.ch.length < w.ch.length) = false := by simp; omega
  have mixed : Try.prog.follows Departure.mixedOrders = true := by kernel_rfl
  clear hal hown2 o1 hturn hmay2 hpm2 hcnt hmay hE hdo hchl hb3 HX3 HX2 HB3 HB2 HSZ HF HW hvl hvl2
  go_upto_region 7 with (fail)
  generalize w3.alloc (.cells #[.slice B0 x.ms.length d0, .slice B1 x.vs.length d1, .slice B2 x.ts.length d2, .slice B3 x.ml.length d3, .slice B4 x.ch.length d4] 28) = w4 at HB4 HX4 HY4 HO4 O14 ⊢
  generalize w3.heap.size = g6 at HY4 ⊢
  obtain ⟨⟨x0, x1, x2, x3, x4⟩, _⟩ := HX4.out.five
  obtain ⟨⟨y0, y1, y2, y3, y4⟩, _⟩ := HY4.out.five
  have HCK := Lib.hid (wcheck_any _ x 0 w4 HO4.out.is (fit_may HM2.out HP2.out) (.inl ⟨HM2.out, rfl⟩))
  go_wp2_with fail
  refine HCK.out.mono ?_
  rintro e w5 ⟨rfl, hb5⟩
  have HB5 := Lib.hid (bmore HB4.out hb5 (Nat.le_refl _))
  have HX5 := Lib.hid (HX4.out.below hb5 HX4.out.lt)
  have HY5 := Lib.hid (HY4.out.below hb5 HY4.out.lt)
  have O15 := Lib.hid (RdG.below O14.out hb5)
  clear HCK x0 x1 x2 x3 x4 y0 y1 y2 y3 y4 e1 e2 e3 e4 hb5 HO4 HX4 HY4 HB4 O14
  go_wp2_with fail
  go_loopg [8, 9] 6 (fun gk t i wr => ∃ k : Nat, k ≤ 6 ∧ 6 - k ≤ gk ∧ i = .int .i64 k ∧ t = .int .i64 (cntT w x k : Nat) ∧ Hid (Below w5.heap.size w5 wr))
  case atStart => exact ⟨0, by omega, by omega, rfl, by simp [cntT], Lib.hid (Below.refl _ _)⟩
  case round =>
    obtain ⟨k, hk, hgk, rfl, rfl, HR⟩ := hrel
    have HG := Lib.hid hgk
    clear hgk
    by_cases hlt : k < 6
    · have hka : w.vs[k]? = some (w.vs[k]'(by have := HVL.out; omega)) := List.getElem?_eq_getElem _
      have hkb : x.vs[k]? = some (x.vs[k]'(by have := HVL2.out; omega)) := List.getElem?_eq_getElem _
      have hcs := cntT_succ w x k
      obtain ⟨a, ha⟩ : ∃ a, a = w.vs[k]'(by have := HVL.out; omega) := ⟨_, rfl⟩
      obtain ⟨b, hb⟩ : ∃ b, b = x.vs[k]'(by have := HVL2.out; omega) := ⟨_, rfl⟩
      rw [← ha] at hka
      rw [← hb] at hkb
      rw [hka, hkb] at hcs
      have hle : DC.VLe a b := by
        by_cases e : k = nt
        · subst e; exact HT.out.2 a b hka hkb
        · have := HT.out.1 k e
          rw [hka, hkb] at this
          injection this with this
          subst this
          exact ⟨Int.le_refl _, Int.le_refl _⟩
      obtain ⟨bl, o, rfl, hbl, a0, a1, a2⟩ := RdG.vote (RdG.below H1.out (bmore HB5.out HR.out (Nat.le_refl _))) (show k < w.vs.length by have := HVL.out; omega) hka
      obtain ⟨bm, oo, rfl, hbm, b0, b1', b2⟩ := RdG.vote (RdG.below O15.out HR.out) (show k < x.vs.length by have := HVL2.out; omega) hkb
      have x1 := (HX5.out.below HR.out HX5.out.lt).five.1.2.1
      have y1 := (HY5.out.below HR.out HY5.out.lt).five.1.2.1
      have i0 : (0 : Int) ≤ (k : Int) := by omega
      have i1 : (k : Int) < (w.vs.length : Int) := by have := HVL.out; omega
      have i2 : (k : Int) < (x.vs.length : Int) := by have := HVL2.out; omega
      have i3 : IntKind.i64.wrap ((k : Int) + 1) = (k : Int) + 1 := by rw [IntKind.wrap_i64]; omega
      have HCS := Lib.hid hcs
      have hcn := HCN.out k
      have hcn6 : cntT w x k ≤ 1 := by split at hcn <;> omega
      have HLE := Lib.hid hle
      have HBR := Lib.hid (bmore HB5.out HR.out (Nat.le_refl _))
      clear ha hb hka hkb hcs hle hcn
      go_upto_region 15 with (fail)
      go_cut [10, 11] (fun p q wx => TwoV wr a b p q wx)
      case first =>
        have hg6 : g6 < wr.heap.size := (HY5.out.below HR.out HY5.out.lt).lt
        have hgb : W.heap.size < wr.heap.size := (HX5.out.below HR.out HX5.out.lt).lt
        go_region
        all_goals
          go_wp2_with fail
          go_meet
          case rel => first | exact twoV_1 _ _ _ | exact twoV_2 _ _ _
      case rest =>
        clear a0 a1 a2 b0 b1' b2 x1 y1
        obtain ⟨g, h, rfl, rfl, hb7, ga, gh⟩ := hcut
        obtain ⟨p0, p1, p2, _⟩ := ga.three
        obtain ⟨q0, q1, q2, _⟩ := gh.three
        have HRF := Lib.hid (bmore HR.out hb7 (Nat.le_refl _))
        have e5 : decide (b.p < a.p) = false := by have := HLE.out.1; simp; omega
        have e6 : decide (b.b < a.b) = false := by have := HLE.out.2; simp; omega
        have i4 : IntKind.i64.wrap ((cntT w x k : Int) + 1) = (cntT w x k : Int) + 1 := by rw [IntKind.wrap_i64]; omega
        have HKM := Lib.hid (show 6 - (k + 1) < gk by have := HG.out; omega)
        clear hb7 ga gh HR
        by_cases hab : a = b
        · subst hab
          have hc2 : cntT w x (k + 1) = cntT w x k := by have := HCS.out; simpa using this
          have HC2 := Lib.hid hc2
          clear hc2 HCS HLE
          go_wp2_with fail
          go_roundg (6 - (k + 1))
          case measure => exact HKM.out
          case rel => exact ⟨k + 1, by omega, Nat.le_refl _, by go_num, by rw [HC2.out], HRF⟩
        · have hne : a.p = b.p → a.b = b.b → a.v.toList = b.v.toList → False := fun h1 h2 h3 => hab (vt_eq.2 ⟨h1, h2, by rw [ByteArray.toList_eq, ByteArray.toList_eq] at h3; cases hx : a.v with | mk d => cases hy : b.v with | mk d' => rw [hx, hy] at h3; exact congrArg ByteArray.mk (Array.ext' h3)⟩)
          have HNE := Lib.hid hne
          have hc2 : cntT w x (k + 1) = cntT w x k + 1 := by
            have := HCS.out
            rw [if_pos (show some a ≠ some b from fun h => hab (by injection h))] at this
            exact this
          have HC2 := Lib.hid hc2
          clear hc2 HCS HLE hab hne
          go_wp2_with fail
          all_goals first
            | exact absurd (HNE.out (by assumption) (by assumption) (by assumption)) id
            | (go_roundg (6 - (k + 1))
               case measure => exact HKM.out
               case rel => exact ⟨k + 1, by omega, Nat.le_refl _, by go_num, by rw [HC2.out]; rfl, HRF⟩)
    · obtain rfl : k = 6 := by omega
      have hcn := HCN.out 6
      have hcn6 : cntT w x 6 ≤ 1 := by split at hcn <;> omega
      have e7 : decide ((cntT w x 6 : Int) ≤ 1) = true := by simp; omega
      have HBF := Lib.hid (bmore HB5.out HR.out (Nat.le_refl _))
      clear hcn HR HG
      go_wp2_with fail
      go_ret
      exact ⟨by first | rfl | simp_all, HBF.out⟩
end Go.Proofs.Ytiiobafcgdelmaa
