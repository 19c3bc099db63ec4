/-
  What the document's own May (towncrierref06) answers of a list that reads as ints. Conditions: the slice reads as ints.
  The document's own Check of members (towncrierref06). Conditions: the slices read as ints.
  The document's own May of a command of kind 0 (towncrierref12). Conditions: as RowIs and MgFit say.
  The document's own May of a command of kind 1 (towncrierref12). Conditions: as RowIs and MgFit say.
  The document's own May of a command of kind 2 (towncrierref12). Conditions: as RowIs and MgFit say.
  The document's own May of a command of kind 3 (towncrierref12). Conditions: as RowIs and MgFit say.
-/
import Derived.Test.YteebeiaokfenmaaGreatK01
import Derived.Deep.QuietTactic
import Derived.BigQuiet
import Derived.Below
import Derived.Lib.Strings
import Derived.Lib.Slices
import Derived.Lib.Small
import Derived.Lib.Walk
import Derived.Test.YteebeiaokfenmaaGreatK12
import Derived.Test.YteebeiaokfenmaaGreatK19
import Derived.Test.YteebeiaokfenmaaGreatK29
import Derived.Deep.DeepCutAuto
namespace Go.Proofs.YteebeiaokfenmaaGreat
open Go.RowKit
set_option linter.unusedVariables false
set_option maxRecDepth 100000

/-- what May leaves: its answer, some draws -/
def MayPost (b : Bool) (w : World) (e : Ending) (w' : World) : Prop := e = .returned (.bool b) ∧ ∃ q, w' = w.drewN q

set_option maxHeartbeats 2000000 in
theorem rMay_any (A : Option Addr) (n c : Nat) (zs : List Int) (w : World) (hr : Rd w A n (ic zs)) (hm : n ≤ 9223372036854775807) :
    Calls Tryz.prog 161 #[.slice A n c] w (MayPost (QM.may zs) w) := by
  have hl : zs.length = n := by have := hr.1; rwa [ic_length] at this
  obtain ⟨r, hrr⟩ : ∃ r, r = QM.rise (-1) zs := ⟨_, rfl⟩
  have hmay : QM.may zs = (decide (1 ≤ n) && (decide (n ≤ 6) && r)) := by unfold QM.may; rw [hl, hrr]
  have hst : QM.rise (-1) (zs.drop 0) = r := hrr.symm
  generalize QM.may zs = o at hmay
  have HO := Lib.hid hmay; clear hmay
  have HL := Lib.hid hl; clear hl
  have HS := Lib.hid hst; clear hst hrr
  go_enter Tryz.func161, Tryz.ntmps161
  go_wp2
  go_loopw [3] (fun i wr => ∃ (k q : Nat) (p : Int), k ≤ n ∧ i = .int .i64 k ∧ wr = w.drewN q ∧ Hid (QM.rise p (zs.drop k) = r) ∧ Hid (k = 0 ∧ p = -1 ∨ 0 < k ∧ -1 ≤ p ∧ zs[k - 1]? = some p)) (fun i _ => n - (intOf i).toNat)
  case atStart => exact ⟨0, 0, -1, by omega, rfl, rfl, HS, Lib.hid (.inl ⟨rfl, rfl⟩)⟩
  case round =>
    clear HS
    obtain ⟨k, q, p, hk, rfl, rfl, HR, HP⟩ := hrel
    by_cases hlt : k < n
    · have hkz : k < zs.length := by have := HL.out; omega
      obtain ⟨ad, u, rfl, _, hu, hcell⟩ := hr.at_ hlt
      rw [ic_get zs k hkz] at hu
      injection hu with hu
      subst hu
      have hd := HR.out
      rw [List.drop_eq_getElem_cons hkz] at hd
      have hzg : zs[k + 1 - 1]? = some zs[k] := by rw [Nat.add_sub_cancel]; exact List.getElem?_eq_getElem hkz
      obtain ⟨z, hz⟩ : ∃ z, z = zs[k] := ⟨_, rfl⟩
      rw [← hz] at hcell hd hzg
      clear hz HR
      simp only [QM.rise] at hd
      have HG := Lib.hid hzg; clear hzg
      by_cases h0 : z < 0
      · have hd' : false = r := by
          rw [← hd]
          have : ¬ p < z := by
            rcases HP.out with ⟨_, rfl⟩ | ⟨_, h, _⟩ <;> omega
          simp [this]
        have ho : false = o := by have := HO.out; rw [← hd'] at this; simpa using this.symm
        clear hd hd'
        have HD := Lib.hid ho; clear ho
        have b0 : decide (z < 0) = true := by simp; omega
        go_wp2_with fail
        go_quiet (fail)
        go_wp2
        go_ret
        exact ⟨ret_eq HD.out, _, World.drewN_drewN _ _ _⟩
      · by_cases h6 : 6 ≤ z
        · have hd' : false = r := by
            rw [← hd]
            have : ¬ z < 6 := by omega
            simp [this]
          have ho : false = o := by have := HO.out; rw [← hd'] at this; simpa using this.symm
          clear hd hd'
          have HD := Lib.hid ho; clear ho
          have b0 : decide (z < 0) = false := by simp; omega
          have b1 : decide (6 ≤ z) = true := by simp; omega
          clear h0 h6
          go_wp2_with fail
          go_quiet (fail)
          go_wp2
          go_ret
          exact ⟨ret_eq HD.out, _, World.drewN_drewN _ _ _⟩
        · have h0' : 0 ≤ z := by omega
          have h6' : z < 6 := by omega
          have b0 : decide (z < 0) = false := by simp; omega
          have b1 : decide (6 ≤ z) = false := by simp; omega
          clear h0 h6
          rcases HP.out with ⟨hk0, hp⟩ | ⟨hk0, hp, hpz⟩
          · have hd' : QM.rise z (zs.drop (k + 1)) = r := by
              rw [← hd]
              have : p < z := by omega
              simp [this, h6']
            clear hd HP hp
            have HD := Lib.hid hd'; clear hd'
            have hq1 : decide (0 < k) = false := by simp; omega
            have hq2 : decide ((0 : Int) < (k : Int)) = false := by simp; omega
            clear hk0
            go_wp2_with fail
            go_quiet (fail)
            go_wp2
            go_roundw
            case rel => exact ⟨k + 1, q + nq, z, by omega, by go_num, rfl, HD, Lib.hid (.inr ⟨by omega, by omega, HG.out⟩)⟩
            case measure => simp [intOf]; omega
          · have hkz1 : k - 1 < n := by omega
            obtain ⟨ad2, u2, hA2, _, hu2, hcell2⟩ := hr.at_ hkz1
            injection hA2 with hA2
            subst hA2
            have hu3 : u2 = .int .i64 p := by
              have : (ic zs)[k - 1]? = some (.int .i64 p) := by unfold ic; rw [List.getElem?_map, hpz]; rfl
              rw [this] at hu2
              injection hu2 with hu2
              exact hu2.symm
            subst hu3
            clear hu2 hkz1
            have hq1 : decide (0 < k) = true := by simp; omega
            have hq2 : decide ((0 : Int) < (k : Int)) = true := by simp; omega
            have s1 : IntKind.i64.wrap ((k : Int) - 1) = (k : Int) - 1 := IntWalk.i64_in _ ⟨by omega, by omega⟩
            have s2 : (0 : Int) ≤ (k : Int) - 1 := by omega
            have s3 : ((k : Int) - 1).toNat = k - 1 := by omega
            have s4 : (k : Int) - 1 < (n : Int) := by omega
            by_cases hpl : p < z
            · have hd' : QM.rise z (zs.drop (k + 1)) = r := by
                rw [← hd]
                simp [hpl, h6']
              have b2 : decide (z ≤ p) = false := by simp; omega
              clear hd HP hpz
              have HD := Lib.hid hd'; clear hd'
              go_wp2_with fail
              go_quiet (fail)
              clear s1 s3
              go_wp2
              go_roundw
              case rel => exact ⟨k + 1, q + nq, z, by omega, by go_num, rfl, HD, Lib.hid (.inr ⟨by omega, by omega, HG.out⟩)⟩
              case measure => simp [intOf]; omega
            · have hd' : false = r := by
                rw [← hd]
                simp [hpl]
              have ho : false = o := by have := HO.out; rw [← hd'] at this; simpa using this.symm
              have b2 : decide (z ≤ p) = true := by simp; omega
              clear hd hd' HP hpz
              have HD := Lib.hid ho; clear ho
              go_wp2_with fail
              go_quiet (fail)
              clear s1 s3
              go_wp2
              go_ret
              exact ⟨ret_eq HD.out, _, World.drewN_drewN _ _ _⟩
    · have hd := HR.out
      rw [List.drop_of_length_le (by have := HL.out; omega)] at hd
      have ho : (decide (1 ≤ n) && decide (n ≤ 6)) = o := by have := HO.out; rw [← hd] at this; rw [this]; simp [QM.rise]
      have HD := Lib.hid ho; clear ho hd
      by_cases h1 : 1 ≤ n
      · by_cases h6 : n ≤ 6
        · have ht : true = o := by rw [← HD.out]; simp [h1, h6]
          clear HD
          have HD := Lib.hid ht; clear ht
          go_wp2
          go_ret
          exact ⟨ret_eq (by rw [← HD.out]; simp; omega), _, rfl⟩
        · have ht : false = o := by rw [← HD.out]; simp [h6]
          clear HD
          have HD := Lib.hid ht; clear ht
          go_wp2
          go_ret
          exact ⟨ret_eq (by rw [← HD.out]; simp; omega), _, rfl⟩
      · have ht : false = o := by rw [← HD.out]; simp [h1]
        clear HD
        have HD := Lib.hid ht; clear ht
        go_wp2
        go_ret
        exact ⟨ret_eq HD.out, _, rfl⟩
end Go.Proofs.YteebeiaokfenmaaGreat

namespace Go.Proofs.YteebeiaokfenmaaGreat
open Go.RowKit
set_option linter.unusedVariables false
set_option maxRecDepth 100000

/-- one number, some draws -/
def NumPost (y : Int) (w : World) (e : Ending) (w' : World) : Prop := e = .returned (.int .i64 y) ∧ ∃ q, w' = w.drewN q

theorem rqCheck_any (A : Option Addr) (n c : Nat) (zs : List Int) (y : Int) (w : World) (hr : Rd w A n (ic zs)) (hm : n ≤ 9223372036854775807) (hy : QM.ChkIs zs y) :
    Calls Tryz.prog 145 #[.slice A n c] w (NumPost y w) := by
  have hl : zs.length = n := by have := hr.1; rwa [ic_length] at this
  have h := rMay_any A n c zs w hr hm
  rcases hy with ⟨h6, rfl⟩ | ⟨h6, hf, rfl⟩ | ⟨ht, rfl⟩
  · rw [hl] at h6
    clear h hl
    go_enter Tryz.func145, Tryz.ntmps145
    go_wp2
    go_ret
    exact ⟨rfl, 0, rfl⟩
  · rw [hl] at h6
    rw [hf] at h
    have H := Lib.hid h
    clear h hl hf
    go_enter Tryz.func145, Tryz.ntmps145
    go_wp2_with fail
    refine H.out.mono ?_
    rintro e w1 ⟨rfl, q, rfl⟩
    go_wp2
    go_ret
    exact ⟨rfl, q, rfl⟩
  · obtain ⟨_, h2, _⟩ := QM.may_len ht
    rw [hl] at h2
    rw [ht] at h
    have H := Lib.hid h
    clear h hl ht
    go_enter Tryz.func145, Tryz.ntmps145
    go_wp2_with fail
    refine H.out.mono ?_
    rintro e w1 ⟨rfl, q, rfl⟩
    go_wp2
    go_ret
    exact ⟨rfl, q, rfl⟩
end Go.Proofs.YteebeiaokfenmaaGreat

namespace Go.Proofs.YteebeiaokfenmaaGreat.CP
open Go.RowKit
open CM (Mg Cm)
set_option linter.unusedVariables false
set_option linter.unusedSimpArgs false
set_option maxRecDepth 100000

set_option maxHeartbeats 8000000 in
theorem may12_0 (am : Mg) (aid atm : Int) (ams : List Int) (atp awh an : Int) (A : Option Addr) (c : Nat) (P : Option Addr) (q : Nat) (w : World) (r1 : RowIs w A c am.gs) (r3 : RowIs w P q ams) (hf : MgFit am) :
    Calls Tryz.prog 114 #[.agg #[.int .u8 0, .int .i64 am.id, .slice A am.gs.length c, .int .i64 am.tp, .string am.key, .string am.body, .int .i64 aid, .int .i64 atm, .slice P ams.length q, .int .i64 atp, .int .i64 awh, .int .i64 an]] w (BoolIs (decide (CM.may ⟨0, am, aid, atm, ams, atp, awh, an⟩)) w) := by
  have HA : Hid (decide (⟨0, am, aid, atm, ams, atp, awh, an⟩ = CM.zero) = decide (CM.may ⟨0, am, aid, atm, ams, atp, awh, an⟩)) := Lib.hid (decide_eq_decide.2 may_iff0.symm)
  have hz : ∀ W, CmIs W (.agg #[.int .u8 0, .int .i64 0, .slice none 0 0, .int .i64 0, .string .empty, .string .empty, .int .i64 0, .int .i64 0, .slice none 0 0, .int .i64 0, .int .i64 0, .int .i64 0]) CM.zero := zero_is
  have D := Lib.hid (fun W2 (h : Below w.heap.size w W2) => same12_any ⟨0, am, aid, atm, ams, atp, awh, an⟩ CM.zero (.agg #[.int .u8 0, .int .i64 am.id, .slice A am.gs.length c, .int .i64 am.tp, .string am.key, .string am.body, .int .i64 aid, .int .i64 atm, .slice P ams.length q, .int .i64 atp, .int .i64 awh, .int .i64 an]) _ W2 ⟨A, c, P, q, rfl, r1.below h, r3.below h⟩ (hz W2))
  generalize decide (CM.may ⟨0, am, aid, atm, ams, atp, awh, an⟩) = r at HA ⊢
  have hb0 : Below w.heap.size w (w.alloc (.cells #[.int .u8 0, .int .i64 am.id, .slice A am.gs.length c, .int .i64 am.tp, .string am.key, .string am.body, .int .i64 aid, .int .i64 atm, .slice P ams.length q, .int .i64 atp, .int .i64 awh, .int .i64 an] 91)) := (Below.refl _ _).alloc (Nat.le_refl _) _
  have S := Lib.hid (sameMessage_any am CM.mz (.agg (mcells A c am)) _ _ ⟨A, c, rfl, r1.below hb0⟩ (mz_is _))
  unfold mcells at S
  have HX := Lib.hid (Box.new w 91 #[.int .u8 0, .int .i64 am.id, .slice A am.gs.length c, .int .i64 am.tp, .string am.key, .string am.body, .int .i64 aid, .int .i64 atm, .slice P ams.length q, .int .i64 atp, .int .i64 awh, .int .i64 an])
  have HB := Lib.hid hb0
  have HL : Hid (ams = [] ↔ ams.length = 0) := Lib.hid List.length_eq_zero_iff.symm
  have HM := Lib.hid (Nat.le_trans r3.2.1 r3.2.2)
  clear hb0 r1 r3 hf
  go_enter Tryz.func114, Tryz.ntmps114
  go_upto_region 1 with (fail)
  generalize w.alloc (.cells #[.int .u8 0, .int .i64 am.id, .slice A am.gs.length c, .int .i64 am.tp, .string am.key, .string am.body, .int .i64 aid, .int .i64 atm, .slice P ams.length q, .int .i64 atp, .int .i64 awh, .int .i64 an] 91) = w1 at HX HB S ⊢
  have G1 := Lib.hid HX.out.lt
  generalize hg0 : w.heap.size = g0 at HX G1 ⊢
  clear hg0
  obtain ⟨x0, x1, x2, x3, x4, x5, x6, x7, x8, x9, x10, x11⟩ := box_cm HX.out
  go_wp2_with fail
  refine (S.out).mono ?_
  rintro e w2 ⟨rfl, hb2⟩
  clear S
  replace HB := Lib.hid (HB.out.trans (hb2.mono HB.out.size))
  replace HX := Lib.hid (HX.out.below hb2 G1.out)
  replace G1 := Lib.hid (Nat.lt_of_lt_of_le G1.out hb2.size)
  clear hb2
  clear x0 x1 x2 x3 x4 x5 x6 x7 x8 x9 x10 x11
  obtain ⟨x0, x1, x2, x3, x4, x5, x6, x7, x8, x9, x10, x11⟩ := box_cm HX.out
  have D2 := Lib.hid (D.out _ HB.out)
  clear D
  generalize decide (am = CM.mz) = bz
  go_wp2_with fail
  refine (D2.out).mono ?_
  rintro e w3 ⟨rfl, hb2⟩
  replace HB := Lib.hid (HB.out.trans (hb2.mono HB.out.size))
  replace HX := Lib.hid (HX.out.below hb2 G1.out)
  replace G1 := Lib.hid (Nat.lt_of_lt_of_le G1.out hb2.size)
  clear hb2
  clear x0 x1 x2 x3 x4 x5 x6 x7 x8 x9 x10 x11
  obtain ⟨x0, x1, x2, x3, x4, x5, x6, x7, x8, x9, x10, x11⟩ := box_cm HX.out
  go_wp2_with fail
  go_ret
  exact bool_ret HA.out HB.out
end Go.Proofs.YteebeiaokfenmaaGreat.CP

namespace Go.Proofs.YteebeiaokfenmaaGreat.CP
open Go.RowKit
open CM (Mg Cm)
set_option linter.unusedVariables false
set_option linter.unusedSimpArgs false
set_option maxRecDepth 100000

set_option maxHeartbeats 8000000 in
theorem may12_1 (am : Mg) (aid atm : Int) (ams : List Int) (atp awh an : Int) (A : Option Addr) (c : Nat) (P : Option Addr) (q : Nat) (w : World) (r1 : RowIs w A c am.gs) (r3 : RowIs w P q ams) (hf : MgFit am) :
    Calls Tryz.prog 114 #[.agg #[.int .u8 1, .int .i64 am.id, .slice A am.gs.length c, .int .i64 am.tp, .string am.key, .string am.body, .int .i64 aid, .int .i64 atm, .slice P ams.length q, .int .i64 atp, .int .i64 awh, .int .i64 an]] w (BoolIs (decide (CM.may ⟨1, am, aid, atm, ams, atp, awh, an⟩)) w) := by
  have HNO : Hid (¬ ((CM.mgOk am) ∧ (aid = 0) ∧ (atm = 0) ∧ (ams = []) ∧ (atp = 0) ∧ (awh = 0) ∧ (an = 0)) → false = decide (CM.may ⟨1, am, aid, atm, ams, atp, awh, an⟩)) := Lib.hid (fun h => by rw [decide_eq_false (fun e => h (may_iff1.1 e))])
  have HYES : Hid (((CM.mgOk am) ∧ (aid = 0) ∧ (atm = 0) ∧ (ams = []) ∧ (atp = 0) ∧ (awh = 0) ∧ (an = 0)) → true = decide (CM.may ⟨1, am, aid, atm, ams, atp, awh, an⟩)) := Lib.hid (fun h => by rw [decide_eq_true (may_iff1.2 h)])
  generalize decide (CM.may ⟨1, am, aid, atm, ams, atp, awh, an⟩) = r at HNO HYES ⊢
  have D := Lib.hid (fun W2 (h : Below w.heap.size w W2) => mayMessage_any am (.agg (mcells A c am)) W2 ⟨A, c, rfl, r1.below h⟩ hf)
  unfold mcells at D
  have hb0 : Below w.heap.size w (w.alloc (.cells #[.int .u8 1, .int .i64 am.id, .slice A am.gs.length c, .int .i64 am.tp, .string am.key, .string am.body, .int .i64 aid, .int .i64 atm, .slice P ams.length q, .int .i64 atp, .int .i64 awh, .int .i64 an] 91)) := (Below.refl _ _).alloc (Nat.le_refl _) _
  have S := Lib.hid (sameMessage_any am CM.mz (.agg (mcells A c am)) _ _ ⟨A, c, rfl, r1.below hb0⟩ (mz_is _))
  unfold mcells at S
  have HX := Lib.hid (Box.new w 91 #[.int .u8 1, .int .i64 am.id, .slice A am.gs.length c, .int .i64 am.tp, .string am.key, .string am.body, .int .i64 aid, .int .i64 atm, .slice P ams.length q, .int .i64 atp, .int .i64 awh, .int .i64 an])
  have HB := Lib.hid hb0
  have HL : Hid (ams = [] ↔ ams.length = 0) := Lib.hid List.length_eq_zero_iff.symm
  have HM := Lib.hid (Nat.le_trans r3.2.1 r3.2.2)
  clear hb0 r1 r3 hf
  go_enter Tryz.func114, Tryz.ntmps114
  go_upto_region 1 with (fail)
  generalize w.alloc (.cells #[.int .u8 1, .int .i64 am.id, .slice A am.gs.length c, .int .i64 am.tp, .string am.key, .string am.body, .int .i64 aid, .int .i64 atm, .slice P ams.length q, .int .i64 atp, .int .i64 awh, .int .i64 an] 91) = w1 at HX HB S ⊢
  have G1 := Lib.hid HX.out.lt
  generalize hg0 : w.heap.size = g0 at HX G1 ⊢
  clear hg0
  obtain ⟨x0, x1, x2, x3, x4, x5, x6, x7, x8, x9, x10, x11⟩ := box_cm HX.out
  go_wp2_with fail
  refine (S.out).mono ?_
  rintro e w2 ⟨rfl, hb2⟩
  clear S
  replace HB := Lib.hid (HB.out.trans (hb2.mono HB.out.size))
  replace HX := Lib.hid (HX.out.below hb2 G1.out)
  replace G1 := Lib.hid (Nat.lt_of_lt_of_le G1.out hb2.size)
  clear hb2
  clear x0 x1 x2 x3 x4 x5 x6 x7 x8 x9 x10 x11
  obtain ⟨x0, x1, x2, x3, x4, x5, x6, x7, x8, x9, x10, x11⟩ := box_cm HX.out
  generalize decide (am = CM.mz) = bz
  have D2 := Lib.hid (D.out _ HB.out)
  clear D
  go_wp2_with fail
  refine (D2.out).mono ?_
  rintro e w3 ⟨rfl, hb2⟩
  replace HB := Lib.hid (HB.out.trans (hb2.mono HB.out.size))
  replace HX := Lib.hid (HX.out.below hb2 G1.out)
  replace G1 := Lib.hid (Nat.lt_of_lt_of_le G1.out hb2.size)
  clear hb2
  clear x0 x1 x2 x3 x4 x5 x6 x7 x8 x9 x10 x11
  obtain ⟨x0, x1, x2, x3, x4, x5, x6, x7, x8, x9, x10, x11⟩ := box_cm HX.out
  by_cases h0 : CM.mgOk am
  rotate_left
  · have HF := Lib.hid (HNO.out (fun h => h0 h.1))
    rw [decide_eq_false h0]
    clear HNO HYES
    go_wp2_with fail
    go_ret
    exact bool_ret HF.out HB.out
  rw [decide_eq_true h0]
  by_cases h1 : aid = 0
  rotate_left
  · have HF := Lib.hid (HNO.out (fun h => h1 h.2.1))
    have e1 : (aid == 0) = false := by simpa using h1
    clear HNO HYES
    go_wp2_with fail
    go_ret
    exact bool_ret HF.out HB.out
  have e1 : (aid == 0) = true := by simpa using h1
  by_cases h2 : atm = 0
  rotate_left
  · have HF := Lib.hid (HNO.out (fun h => h2 h.2.2.1))
    have e2 : (atm == 0) = false := by simpa using h2
    clear HNO HYES
    go_wp2_with fail
    go_ret
    exact bool_ret HF.out HB.out
  have e2 : (atm == 0) = true := by simpa using h2
  by_cases h3 : ams = []
  rotate_left
  · have HF := Lib.hid (HNO.out (fun h => h3 h.2.2.2.1))
    have e3 : ((ams.length : Int) == 0) = false := by have := fun e => h3 (HL.out.2 e); simpa using this
    clear HNO HYES
    go_wp2_with fail
    go_ret
    exact bool_ret HF.out HB.out
  have e3 : ((ams.length : Int) == 0) = true := by simpa using h3
  by_cases h4 : atp = 0
  rotate_left
  · have HF := Lib.hid (HNO.out (fun h => h4 h.2.2.2.2.1))
    have e4 : (atp == 0) = false := by simpa using h4
    clear HNO HYES
    go_wp2_with fail
    go_ret
    exact bool_ret HF.out HB.out
  have e4 : (atp == 0) = true := by simpa using h4
  by_cases h5 : awh = 0
  rotate_left
  · have HF := Lib.hid (HNO.out (fun h => h5 h.2.2.2.2.2.1))
    have e5 : (awh == 0) = false := by simpa using h5
    clear HNO HYES
    go_wp2_with fail
    go_ret
    exact bool_ret HF.out HB.out
  have e5 : (awh == 0) = true := by simpa using h5
  by_cases h6 : an = 0
  rotate_left
  · have HF := Lib.hid (HNO.out (fun h => h6 h.2.2.2.2.2.2))
    have e6 : (an == 0) = false := by simpa using h6
    clear HNO HYES
    go_wp2_with fail
    go_ret
    exact bool_ret HF.out HB.out
  have e6 : (an == 0) = true := by simpa using h6
  have HF := Lib.hid (HYES.out ⟨h0, h1, h2, h3, h4, h5, h6⟩)
  clear HNO HYES
  go_wp2_with fail
  go_ret
  exact bool_ret HF.out HB.out
end Go.Proofs.YteebeiaokfenmaaGreat.CP

namespace Go.Proofs.YteebeiaokfenmaaGreat.CP
open Go.RowKit
open CM (Mg Cm)
set_option linter.unusedVariables false
set_option linter.unusedSimpArgs false
set_option maxRecDepth 100000

set_option maxHeartbeats 8000000 in
theorem may12_2 (am : Mg) (aid atm : Int) (ams : List Int) (atp awh an : Int) (A : Option Addr) (c : Nat) (P : Option Addr) (q : Nat) (w : World) (r1 : RowIs w A c am.gs) (r3 : RowIs w P q ams) (hf : MgFit am) :
    Calls Tryz.prog 114 #[.agg #[.int .u8 2, .int .i64 am.id, .slice A am.gs.length c, .int .i64 am.tp, .string am.key, .string am.body, .int .i64 aid, .int .i64 atm, .slice P ams.length q, .int .i64 atp, .int .i64 awh, .int .i64 an]] w (BoolIs (decide (CM.may ⟨2, am, aid, atm, ams, atp, awh, an⟩)) w) := by
  have HNO : Hid (¬ ((am = CM.mz) ∧ (CM.idOk aid) ∧ (1 ≤ atm ∧ atm < 1073741825) ∧ (ams = []) ∧ (atp = 0) ∧ (awh = 0) ∧ (an = 0)) → false = decide (CM.may ⟨2, am, aid, atm, ams, atp, awh, an⟩)) := Lib.hid (fun h => by rw [decide_eq_false (fun e => h (may_iff2.1 e))])
  have HYES : Hid (((am = CM.mz) ∧ (CM.idOk aid) ∧ (1 ≤ atm ∧ atm < 1073741825) ∧ (ams = []) ∧ (atp = 0) ∧ (awh = 0) ∧ (an = 0)) → true = decide (CM.may ⟨2, am, aid, atm, ams, atp, awh, an⟩)) := Lib.hid (fun h => by rw [decide_eq_true (may_iff2.2 h)])
  generalize decide (CM.may ⟨2, am, aid, atm, ams, atp, awh, an⟩) = r at HNO HYES ⊢
  have hb0 : Below w.heap.size w (w.alloc (.cells #[.int .u8 2, .int .i64 am.id, .slice A am.gs.length c, .int .i64 am.tp, .string am.key, .string am.body, .int .i64 aid, .int .i64 atm, .slice P ams.length q, .int .i64 atp, .int .i64 awh, .int .i64 an] 91)) := (Below.refl _ _).alloc (Nat.le_refl _) _
  have S := Lib.hid (sameMessage_any am CM.mz (.agg (mcells A c am)) _ _ ⟨A, c, rfl, r1.below hb0⟩ (mz_is _))
  unfold mcells at S
  have HX := Lib.hid (Box.new w 91 #[.int .u8 2, .int .i64 am.id, .slice A am.gs.length c, .int .i64 am.tp, .string am.key, .string am.body, .int .i64 aid, .int .i64 atm, .slice P ams.length q, .int .i64 atp, .int .i64 awh, .int .i64 an])
  have HB := Lib.hid hb0
  have HL : Hid (ams = [] ↔ ams.length = 0) := Lib.hid List.length_eq_zero_iff.symm
  have HM := Lib.hid (Nat.le_trans r3.2.1 r3.2.2)
  clear hb0 r1 r3 hf
  go_enter Tryz.func114, Tryz.ntmps114
  go_upto_region 1 with (fail)
  generalize w.alloc (.cells #[.int .u8 2, .int .i64 am.id, .slice A am.gs.length c, .int .i64 am.tp, .string am.key, .string am.body, .int .i64 aid, .int .i64 atm, .slice P ams.length q, .int .i64 atp, .int .i64 awh, .int .i64 an] 91) = w1 at HX HB S ⊢
  have G1 := Lib.hid HX.out.lt
  generalize hg0 : w.heap.size = g0 at HX G1 ⊢
  clear hg0
  obtain ⟨x0, x1, x2, x3, x4, x5, x6, x7, x8, x9, x10, x11⟩ := box_cm HX.out
  go_wp2_with fail
  refine (S.out).mono ?_
  rintro e w2 ⟨rfl, hb2⟩
  clear S
  replace HB := Lib.hid (HB.out.trans (hb2.mono HB.out.size))
  replace HX := Lib.hid (HX.out.below hb2 G1.out)
  replace G1 := Lib.hid (Nat.lt_of_lt_of_le G1.out hb2.size)
  clear hb2
  clear x0 x1 x2 x3 x4 x5 x6 x7 x8 x9 x10 x11
  obtain ⟨x0, x1, x2, x3, x4, x5, x6, x7, x8, x9, x10, x11⟩ := box_cm HX.out
  by_cases h0 : am = CM.mz
  rotate_left
  · have HF := Lib.hid (HNO.out (fun h => h0 h.1))
    rw [decide_eq_false h0]
    clear HNO HYES
    go_wp2_with fail
    go_ret
    exact bool_ret HF.out HB.out
  rw [decide_eq_true h0]
  have CI := Lib.hid (Id_any aid)
  go_wp2_with fail
  refine (CI.out _).mono ?_
  rintro e wx ⟨rfl, rfl⟩
  clear CI
  by_cases h1 : CM.idOk aid
  rotate_left
  · have HF := Lib.hid (HNO.out (fun h => h1 h.2.1))
    rw [decide_eq_false h1]
    clear HNO HYES
    go_wp2_with fail
    go_ret
    exact bool_ret HF.out HB.out
  rw [decide_eq_true h1]
  have CI := Lib.hid (In_any atm 1 1073741825)
  go_wp2_with fail
  refine (CI.out _).mono ?_
  rintro e wx ⟨rfl, rfl⟩
  clear CI
  by_cases h2 : 1 ≤ atm ∧ atm < 1073741825
  rotate_left
  · have HF := Lib.hid (HNO.out (fun h => h2 h.2.2.1))
    rw [decide_eq_false h2]
    clear HNO HYES
    go_wp2_with fail
    go_ret
    exact bool_ret HF.out HB.out
  rw [decide_eq_true h2]
  by_cases h3 : ams = []
  rotate_left
  · have HF := Lib.hid (HNO.out (fun h => h3 h.2.2.2.1))
    have e3 : ((ams.length : Int) == 0) = false := by have := fun e => h3 (HL.out.2 e); simpa using this
    clear HNO HYES
    go_wp2_with fail
    go_ret
    exact bool_ret HF.out HB.out
  have e3 : ((ams.length : Int) == 0) = true := by simpa using h3
  by_cases h4 : atp = 0
  rotate_left
  · have HF := Lib.hid (HNO.out (fun h => h4 h.2.2.2.2.1))
    have e4 : (atp == 0) = false := by simpa using h4
    clear HNO HYES
    go_wp2_with fail
    go_ret
    exact bool_ret HF.out HB.out
  have e4 : (atp == 0) = true := by simpa using h4
  by_cases h5 : awh = 0
  rotate_left
  · have HF := Lib.hid (HNO.out (fun h => h5 h.2.2.2.2.2.1))
    have e5 : (awh == 0) = false := by simpa using h5
    clear HNO HYES
    go_wp2_with fail
    go_ret
    exact bool_ret HF.out HB.out
  have e5 : (awh == 0) = true := by simpa using h5
  by_cases h6 : an = 0
  rotate_left
  · have HF := Lib.hid (HNO.out (fun h => h6 h.2.2.2.2.2.2))
    have e6 : (an == 0) = false := by simpa using h6
    clear HNO HYES
    go_wp2_with fail
    go_ret
    exact bool_ret HF.out HB.out
  have e6 : (an == 0) = true := by simpa using h6
  have HF := Lib.hid (HYES.out ⟨h0, h1, h2, h3, h4, h5, h6⟩)
  clear HNO HYES
  go_wp2_with fail
  go_ret
  exact bool_ret HF.out HB.out
end Go.Proofs.YteebeiaokfenmaaGreat.CP

namespace Go.Proofs.YteebeiaokfenmaaGreat.CP
open Go.RowKit
open CM (Mg Cm)
set_option linter.unusedVariables false
set_option linter.unusedSimpArgs false
set_option maxRecDepth 100000

set_option maxHeartbeats 8000000 in
theorem may12_3 (am : Mg) (aid atm : Int) (ams : List Int) (atp awh an : Int) (A : Option Addr) (c : Nat) (P : Option Addr) (q : Nat) (w : World) (r1 : RowIs w A c am.gs) (r3 : RowIs w P q ams) (hf : MgFit am) :
    Calls Tryz.prog 114 #[.agg #[.int .u8 3, .int .i64 am.id, .slice A am.gs.length c, .int .i64 am.tp, .string am.key, .string am.body, .int .i64 aid, .int .i64 atm, .slice P ams.length q, .int .i64 atp, .int .i64 awh, .int .i64 an]] w (BoolIs (decide (CM.may ⟨3, am, aid, atm, ams, atp, awh, an⟩)) w) := by
  have HNO : Hid (¬ ((am = CM.mz) ∧ (aid = 0) ∧ (atm = 0) ∧ (QM.may ams = true) ∧ (atp = 0) ∧ (awh = 0) ∧ (an = 0)) → false = decide (CM.may ⟨3, am, aid, atm, ams, atp, awh, an⟩)) := Lib.hid (fun h => by rw [decide_eq_false (fun e => h (may_iff3.1 e))])
  have HYES : Hid (((am = CM.mz) ∧ (aid = 0) ∧ (atm = 0) ∧ (QM.may ams = true) ∧ (atp = 0) ∧ (awh = 0) ∧ (an = 0)) → true = decide (CM.may ⟨3, am, aid, atm, ams, atp, awh, an⟩)) := Lib.hid (fun h => by rw [decide_eq_true (may_iff3.2 h)])
  generalize decide (CM.may ⟨3, am, aid, atm, ams, atp, awh, an⟩) = r at HNO HYES ⊢
  obtain ⟨yc, hyc⟩ := QM.chkIs_ex ams
  have D := Lib.hid (fun W2 (h : Below w.heap.size w W2) => rqCheck_any P ams.length q ams yc W2 (r3.below h).1 (Nat.le_trans r3.2.1 (Nat.le_trans r3.2.2 (by decide))) hyc)
  have HC := Lib.hid hyc
  clear hyc
  have hb0 : Below w.heap.size w (w.alloc (.cells #[.int .u8 3, .int .i64 am.id, .slice A am.gs.length c, .int .i64 am.tp, .string am.key, .string am.body, .int .i64 aid, .int .i64 atm, .slice P ams.length q, .int .i64 atp, .int .i64 awh, .int .i64 an] 91)) := (Below.refl _ _).alloc (Nat.le_refl _) _
  have S := Lib.hid (sameMessage_any am CM.mz (.agg (mcells A c am)) _ _ ⟨A, c, rfl, r1.below hb0⟩ (mz_is _))
  unfold mcells at S
  have HX := Lib.hid (Box.new w 91 #[.int .u8 3, .int .i64 am.id, .slice A am.gs.length c, .int .i64 am.tp, .string am.key, .string am.body, .int .i64 aid, .int .i64 atm, .slice P ams.length q, .int .i64 atp, .int .i64 awh, .int .i64 an])
  have HB := Lib.hid hb0
  have HL : Hid (ams = [] ↔ ams.length = 0) := Lib.hid List.length_eq_zero_iff.symm
  have HM := Lib.hid (Nat.le_trans r3.2.1 r3.2.2)
  clear hb0 r1 r3 hf
  go_enter Tryz.func114, Tryz.ntmps114
  go_upto_region 1 with (fail)
  generalize w.alloc (.cells #[.int .u8 3, .int .i64 am.id, .slice A am.gs.length c, .int .i64 am.tp, .string am.key, .string am.body, .int .i64 aid, .int .i64 atm, .slice P ams.length q, .int .i64 atp, .int .i64 awh, .int .i64 an] 91) = w1 at HX HB S ⊢
  have G1 := Lib.hid HX.out.lt
  generalize hg0 : w.heap.size = g0 at HX G1 ⊢
  clear hg0
  obtain ⟨x0, x1, x2, x3, x4, x5, x6, x7, x8, x9, x10, x11⟩ := box_cm HX.out
  go_wp2_with fail
  refine (S.out).mono ?_
  rintro e w2 ⟨rfl, hb2⟩
  clear S
  replace HB := Lib.hid (HB.out.trans (hb2.mono HB.out.size))
  replace HX := Lib.hid (HX.out.below hb2 G1.out)
  replace G1 := Lib.hid (Nat.lt_of_lt_of_le G1.out hb2.size)
  clear hb2
  clear x0 x1 x2 x3 x4 x5 x6 x7 x8 x9 x10 x11
  obtain ⟨x0, x1, x2, x3, x4, x5, x6, x7, x8, x9, x10, x11⟩ := box_cm HX.out
  by_cases h0 : am = CM.mz
  rotate_left
  · have HF := Lib.hid (HNO.out (fun h => h0 h.1))
    rw [decide_eq_false h0]
    clear HNO HYES
    go_wp2_with fail
    go_ret
    exact bool_ret HF.out HB.out
  rw [decide_eq_true h0]
  by_cases h1 : aid = 0
  rotate_left
  · have HF := Lib.hid (HNO.out (fun h => h1 h.2.1))
    have e1 : (aid == 0) = false := by simpa using h1
    clear HNO HYES
    go_wp2_with fail
    go_ret
    exact bool_ret HF.out HB.out
  have e1 : (aid == 0) = true := by simpa using h1
  by_cases h2 : atm = 0
  rotate_left
  · have HF := Lib.hid (HNO.out (fun h => h2 h.2.2.1))
    have e2 : (atm == 0) = false := by simpa using h2
    clear HNO HYES
    go_wp2_with fail
    go_ret
    exact bool_ret HF.out HB.out
  have e2 : (atm == 0) = true := by simpa using h2
  have D2 := Lib.hid (D.out _ HB.out)
  clear D
  go_wp2_with fail
  refine (D2.out).mono ?_
  rintro e w3 ⟨rfl, qx, rfl⟩
  have hb2 := below_drewN (Below.refl w2.heap.size w2) qx
  replace HB := Lib.hid (HB.out.trans (hb2.mono HB.out.size))
  replace HX := Lib.hid (HX.out.below hb2 G1.out)
  replace G1 := Lib.hid (Nat.lt_of_lt_of_le G1.out hb2.size)
  clear hb2
  clear x0 x1 x2 x3 x4 x5 x6 x7 x8 x9 x10 x11
  obtain ⟨x0, x1, x2, x3, x4, x5, x6, x7, x8, x9, x10, x11⟩ := box_cm HX.out
  by_cases h3 : QM.may ams = true
  rotate_left
  · have HF := Lib.hid (HNO.out (fun h => h3 h.2.2.2.1))
    have e3 : (yc == 0) = false := by
      rcases QM.chkIs_cases HC.out with ⟨_, hy⟩ | ⟨_, rfl | rfl⟩
      · exact absurd hy h3
      · rfl
      · rfl
    clear HNO HYES
    go_wp2_with fail
    go_ret
    exact bool_ret HF.out HB.out
  have e3 : (yc == 0) = true := by
    rcases QM.chkIs_cases HC.out with ⟨rfl, _⟩ | ⟨hy, _⟩
    · rfl
    · rw [h3] at hy; cases hy
  by_cases h4 : atp = 0
  rotate_left
  · have HF := Lib.hid (HNO.out (fun h => h4 h.2.2.2.2.1))
    have e4 : (atp == 0) = false := by simpa using h4
    clear HNO HYES
    go_wp2_with fail
    go_ret
    exact bool_ret HF.out HB.out
  have e4 : (atp == 0) = true := by simpa using h4
  by_cases h5 : awh = 0
  rotate_left
  · have HF := Lib.hid (HNO.out (fun h => h5 h.2.2.2.2.2.1))
    have e5 : (awh == 0) = false := by simpa using h5
    clear HNO HYES
    go_wp2_with fail
    go_ret
    exact bool_ret HF.out HB.out
  have e5 : (awh == 0) = true := by simpa using h5
  by_cases h6 : an = 0
  rotate_left
  · have HF := Lib.hid (HNO.out (fun h => h6 h.2.2.2.2.2.2))
    have e6 : (an == 0) = false := by simpa using h6
    clear HNO HYES
    go_wp2_with fail
    go_ret
    exact bool_ret HF.out HB.out
  have e6 : (an == 0) = true := by simpa using h6
  have HF := Lib.hid (HYES.out ⟨h0, h1, h2, h3, h4, h5, h6⟩)
  clear HNO HYES
  go_wp2_with fail
  go_ret
  exact bool_ret HF.out HB.out
end Go.Proofs.YteebeiaokfenmaaGreat.CP
