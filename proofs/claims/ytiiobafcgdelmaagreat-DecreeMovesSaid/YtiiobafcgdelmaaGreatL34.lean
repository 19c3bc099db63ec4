/- Contracts of functions of towncrier, layers 5 to 9, and of the document's own ones, part 34; each as its theorem says. -/
import Derived.Test.YtiiobafcgdelmaaGreatL01
import Derived.Test.YtiiobafcgdelmaaGreatL22
import Derived.Test.YtiiobafcgdelmaaGreatL25
import Derived.Test.YtiiobafcgdelmaaGreatL33
import Derived.Test.YtiiobafcgdelmaaGreatL30
import Derived.Test.YtiiobafcgdelmaaGreatL27
import Derived.Deep.LoopGhost
import Derived.Deep.CutBlock
set_option linter.unusedVariables false
set_option linter.unusedSimpArgs false
namespace Go.Proofs.YtiiobafcgdelmaaGreat.PD
open Go.RowKit Go.Shelf
def MyRel (W : World) (w : DC.Wd) (b : Bool) (k : Nat) (wr : World) : Prop :=
 Below W.heap.size W wr ∧ ((List.range' k (6 - k)).all (okN w) && (w.ml.all (fun m => decide (DC.MayM m)) && w.ch.all (fun m => decide (DC.MayC m)))) = b
def MyRelM (W : World) (w : DC.Wd) (b : Bool) (k : Nat) (wr : World) : Prop :=
 Below W.heap.size W wr ∧ ((w.ml.drop k).all (fun m => decide (DC.MayM m)) && w.ch.all (fun m => decide (DC.MayC m))) = b
def MyRelC (W : World) (w : DC.Wd) (b : Bool) (k : Nat) (wr : World) : Prop :=
 Below W.heap.size W wr ∧ (w.ch.drop k).all (fun m => decide (DC.MayC m)) = b
theorem my_next {w : DC.Wd} {k : Nat} {x b : Bool} (hk : k < 6) (h : ((List.range' k (6 - k)).all (okN w) && x) = b) : (okN w k && ((List.range' (k + 1) (6 - (k + 1))).all (okN w) && x)) = b := by
 rw [show 6 - k = 6 - (k + 1) + 1 by omega, List.range'_succ, List.all_cons, Bool.and_assoc] at h
 exact h
theorem mayT_iff {ms : List Int} {i : Int} {t : AM.At} (h : AM.may t = true) (h0 : ¬ t.ph = 0) : DC.MayT ms i t ↔ t.ba % 8 = i ∧ t.ms = ms := by
 unfold DC.MayT
 exact ⟨fun h1 => h1.2.resolve_left h0, fun h1 => ⟨h, .inr h1⟩⟩
set_option maxRecDepth 100000 in
set_option maxHeartbeats 8000000 in
theorem rwmay_any (v : Value) (w : DC.Wd) (b : Bool) (W : World) (H : WIs W v w) (F : WFit w) (hb : b = true ↔ DC.May w) :
  Calls Tryz.prog 12 #[v] W (BoolIs b W) := by
 obtain ⟨A0, c0, A1, c1, A2, c2, A3, c3, A4, c4, xs, rfl, R⟩ := H
 obtain ⟨f0, f1, f2, f3, f4, fv, ft, fm, fc⟩ := F
 rw [may_iff] at hb
 obtain ⟨W0, hW0⟩ : ∃ W0, W0 = W.alloc (.cells #[.slice A0 w.ms.length c0, .slice A1 w.vs.length c1, .slice A2 w.ts.length c2, .slice A3 w.ml.length c3, .slice A4 w.ch.length c4] 28) := ⟨_, rfl⟩
 have HB0 := h! (show Below W.heap.size W W0 by rw [hW0]; exact (Below.refl _ _).alloc n! _)
 have HX0 := h! (show Box W0 W.heap.size 28 #[.slice A0 w.ms.length c0, .slice A1 w.vs.length c1, .slice A2 w.ts.length c2, .slice A3 w.ml.length c3, .slice A4 w.ch.length c4] by rw [hW0]; exact Box.new _ _ _)
 have HQ := h! (fun (U : World) (hU : Below W.heap.size W U) => may_bool (rMay_any A0 w.ms.length c0 w.ms U (R.h0.below hU) (by omega)))
 have HR := h! R
 have HFV := h! fv
 have HFT := h! ft
 have HFM := h! fm
 have HFC := h! fc
 have F0 := h! f0
 have F3 := h! f3
 have F4 := h! f4
 have HBB := h! hb
 clear R fv ft fm fc f0 hb
 go_enter Tryz.func12, Tryz.ntmps12
 go_wp2_with fail
 rw [← hW0]
 refine (HQ.out _ HB0.out).mono ?_
 rintro e w1 ⟨rfl, hb1⟩
 have HB1 := h! (bmore HB0.out hb1 n!)
 have HX1 := h! (HX0.out.below hb1 HX0.out.lt)
 clear hb1 HB0 HX0 HQ hW0
 rcases hq : QM.may w.ms with _ | _
 ·have hbf : false = b := by rcases b with _ | _; rfl; have := (HBB.out.1 rfl).1; rw [hq] at this; exact absurd this (by decide)
  have HBF := h! hbf
  clear hbf hq
  go_wp2_with fail
  go_ret
  exact bool_ret HBF.out HB1.out
 obtain ⟨⟨x0, x1, x2, x3, x4⟩, _⟩ := HX1.out.five
 by_cases hv : w.vs.length = 6
 rotate_left
 ·have hbf : false = b := by rcases b with _ | _; rfl; exact absurd (HBB.out.1 rfl).2.2.1.1 hv
  have e1 : ((w.vs.length : Int) != 6) = true := by simp; omega
  have HBF := h! hbf
  clear hbf hq
  go_wp2_with fail
  go_ret
  exact bool_ret HBF.out HB1.out
 have e1 : ((w.vs.length : Int) != 6) = false := by rw [hv]; rfl
 by_cases ht : w.ts.length = 6
 rotate_left
 ·have hbf : false = b := by rcases b with _ | _; rfl; exact absurd (HBB.out.1 rfl).2.2.1.2.1 ht
  have e2 : ((w.ts.length : Int) != 6) = true := by simp; omega
  have HBF := h! hbf
  clear hbf hq hv
  go_wp2_with fail
  go_ret
  exact bool_ret HBF.out HB1.out
 have e2 : ((w.ts.length : Int) != 6) = false := by rw [ht]; rfl
 by_cases hm : w.ml.length ≤ 1000
 rotate_left
 ·have hbf : false = b := by rcases b with _ | _; rfl; exact absurd (HBB.out.1 rfl).2.1.1 hm
  have e3 : decide ((1000 : Int) < (w.ml.length : Int)) = true := by simp; omega
  have HBF := h! hbf
  clear hbf hq hv ht
  go_wp2_with fail
  go_ret
  exact bool_ret HBF.out HB1.out
 have e3 : decide ((1000 : Int) < (w.ml.length : Int)) = false := by simp; omega
 by_cases hc : w.ch.length ≤ 1000
 rotate_left
 ·have hbf : false = b := by rcases b with _ | _; rfl; exact absurd (HBB.out.1 rfl).2.1.2 hc
  have e4 : decide ((1000 : Int) < (w.ch.length : Int)) = true := by simp; omega
  have HBF := h! hbf
  clear hbf hq hv ht
  go_wp2_with fail
  go_ret
  exact bool_ret HBF.out HB1.out
 have e4 : decide ((1000 : Int) < (w.ch.length : Int)) = false := by simp; omega
 have hrel : ((List.range' 0 (6 - 0)).all (okN w) && (w.ml.all (fun m => decide (DC.MayM m)) && w.ch.all (fun m => decide (DC.MayC m)))) = b := by
  rw [Bool.eq_iff_iff, HBB.out, Bool.and_eq_true, Bool.and_eq_true]
  exact ⟨fun h => ⟨hq, ⟨hm, hc⟩, ⟨hv, ht, h.1⟩, h.2.1, h.2.2⟩, fun h => ⟨h.2.2.1.2.2, h.2.2.2.1, h.2.2.2.2⟩⟩
 have HS := h! (show MyRel W w b 0 w1 from ⟨HB1.out, hrel⟩)
 have HV := h! hv
 have HT := h! ht
 have HMC := h! (And.intro hm hc)
 clear hrel hq hv ht hm hc
 go_upto_block 0 with (fail)
 have HBX : Hid (∀ wr, Below w1.heap.size w1 wr → Box wr W.heap.size 28 #[.slice A0 w.ms.length c0, .slice A1 w.vs.length c1, .slice A2 w.ts.length c2, .slice A3 w.ml.length c3, .slice A4 w.ch.length c4]) := h! (fun wr hb => HX1.out.below hb HX1.out.lt)
 clear x0 x1 x2 x3 x4 e1 e2 e3 e4 HX1 HBB
 generalize W.heap.size = gb at HBX ⊢
 go_cut [] (fun wx => Hid (MyRelM W w b 0 wx) ∧ Hid (Below w1.heap.size w1 wx))
 case first =>
  go_wp2_with fail
  go_loopw [3] (fun i wr => ∃ k : Nat, k ≤ 6 ∧ i = .int .i64 k ∧ Hid (MyRel W w b k wr) ∧ Hid (Below w1.heap.size w1 wr)) (fun i _ => 6 - (intOf i).toNat)
  case atStart => exact ⟨0, by omega, rfl, HS, h! (Below.refl _ _)⟩
  case round =>
   clear HS
   obtain ⟨k, hk, rfl, HRL, HR1⟩ := hrel
   by_cases hlt : k < 6
   ·have hn : DC.isNode (k : Int) := by unfold DC.isNode; omega
    have hV : w.vs[k]? = some (DC.getV w (k : Int)) := by have := DC.getV_at HV.out hn; rwa [Int.toNat_natCast] at this
    have hT : w.ts[k]? = some (DC.getT w (k : Int)) := by have := DC.getT_at HT.out hn; rwa [Int.toNat_natCast] at this
    have hre := my_next hlt HRL.out.2
    have hvf := HFV.out _ (List.mem_of_getElem? hV)
    have htf := HFT.out _ (List.mem_of_getElem? hT)
    unfold okN at hre
    rw [Bool.and_assoc] at hre
    generalize DC.getV w (k : Int) = v at hV hre hvf
    generalize DC.getT w (k : Int) = t at hT hre htf
    obtain ⟨b1, o1, rfl, hb1, v0, v1, v2⟩ := RdG.vote (RdG.below HR.out.h1 HRL.out.1) (by rw [HV.out]; exact hlt) hV
    obtain ⟨b2, o2, B, n, c, C, m, d, D, q, f, rfl, hb2, r1, r2, r3, t0, t1, t2, t3, t4, t5, t6⟩ := RdG.try_ (RdG.below HR.out.h2 HRL.out.1) rfl (HR.out.ht.below HRL.out.1) hT
    obtain ⟨q1, q2, q3, q4, q5⟩ := hvf
    have hat : AtIs wr (.agg #[.int .u8 t.ph, .int .i64 t.ba, .slice B n c, .string t.wi, .string t.va, .slice C m d, .slice D q f]) t := ⟨B, n, c, C, m, d, D, q, f, rfl, r1, r2, r3⟩
    have hnl : n ≤ 2000 := (AtIs.fit_n r1 r2 r3 htf).1
    have hpp := (And.intro htf.p1 htf.p2)
    have i0 : (0 : Int) ≤ (k : Int) := by omega
    have i1 : (k : Int) < (w.vs.length : Int) := by have := HV.out; omega
    have i2 : (k : Int) < (w.ts.length : Int) := by have := HT.out; omega
    obtain ⟨⟨x0, x1, x2, x3, x4⟩, _⟩ := (HBX.out wr HR1.out).five
    obtain ⟨u, hu⟩ : ∃ u, u = wr.alloc (.cells #[.int .u8 t.ph, .int .i64 t.ba, .slice B n c, .string t.wi, .string t.va, .slice C m d, .slice D q f] 57) := ⟨_, rfl⟩
    have hbu : Below wr.heap.size wr u := by rw [hu]; exact (Below.refl _ _).alloc n! _
    have HTX := h! (show Box u wr.heap.size 57 #[.int .u8 t.ph, .int .i64 t.ba, .slice B n c, .string t.wi, .string t.va, .slice C m d, .slice D q f] by rw [hu]; exact Box.new _ _ _)
    have HBU := h! (bmore HRL.out.1 hbu n!)
    have HBU1 := h! (bmore HR1.out hbu n!)
    have v0' := (hbu.cell hb1).trans v0
    have v1' := (hbu.cell hb1).trans v1
    have v2' := (hbu.cell hb1).trans v2
    have HU := h! hu
    have HAT := h! (fun (U : World) (hU : Below u.heap.size u U) => rmay_any _ t U ((hat.below hbu).below hU) htf)
    have HSI := h! (fun (U : World) (hU : Below u.heap.size u U) => sameInts_any B n c t.ms A0 w.ms.length c0 w.ms U ((r1.below hbu).below hU) (HR.out.h0.below (bmore HBU.out hU n!)) (by omega) (by have := F0.out; omega))
    have HPP := h! hpp
    clear hat r1 r2 r3 hbu hu hV hT htf hn hb1 hb2 HRL HR1 hpp hnl
    go_upto_region 7 with (fail)
    rw [← HU.out]
    clear v0 v1 v2 t0 t1 t2 t3 t4 t5 t6 x0 x1 x2 x3 x4 HU
    generalize wr.heap.size = gt at HTX ⊢
    obtain ⟨⟨x0, x1, x2, x3, x4⟩, _⟩ := (HBX.out u HBU1.out).five
    go_wp2_with fail
    refine (VP.rVMay_any v.p v.b v.v _ q5).mono ?_
    rintro e u1 ⟨z, hz, rfl, hbz⟩
    have hzd : decide (VM.may v.p v.b v.v) = z := by rw [Bool.eq_iff_iff, decide_eq_true_iff, hz]
    rw [hzd] at hre
    have HC1 := h! hbz
    have HB2 := h! (bmore HBU.out hbz n!)
    have HD2 := h! (bmore HBU1.out hbz n!)
    have HTX2 := h! (HTX.out.below hbz HTX.out.lt)
    clear hbz hz hzd x0 x1 x2 x3 x4 v0' v1' v2' HTX HBU HBU1 q1 q2 q3 q4 q5
    rcases z with _ | _
    ·rw [Bool.false_and] at hre
     have HRE := h! hre
     clear hre
     go_wp2_with fail
     go_ret
     exact bool_ret HRE.out HB2.out
    rw [Bool.true_and] at hre
    obtain ⟨⟨t0, t1, t2, t3, t4, t5, t6⟩, _⟩ := HTX2.out.seven
    have HRE0 := h! hre
    clear hre
    go_wp2_with fail
    refine (HAT.out _ HC1.out).mono ?_
    rintro e u2 ⟨rfl, hbz⟩
    have HC2 := h! (bmore HC1.out hbz n!)
    have HB3 := h! (bmore HB2.out hbz n!)
    have HD3 := h! (bmore HD2.out hbz n!)
    have HTX3 := h! (HTX2.out.below hbz HTX2.out.lt)
    have hre := HRE0.out
    clear hbz HC1 HB2 HD2 HTX2 HAT t0 t1 t2 t3 t4 t5 t6
    rcases hm : AM.may t with _ | _
    ·rw [decide_eq_false (show ¬ DC.MayT w.ms k t from fun h => by have := h.1; rw [hm] at this; exact absurd this (by decide)), Bool.false_and] at hre
     have HRE := h! hre
     clear hre hm
     go_wp2_with fail
     go_ret
     exact bool_ret HRE.out HB3.out
    obtain ⟨⟨t0, t1, t2, t3, t4, t5, t6⟩, _⟩ := HTX3.out.seven
    by_cases h0 : t.ph = 0
    ·rw [decide_eq_true (show DC.MayT w.ms k t from ⟨hm, .inl h0⟩), Bool.true_and] at hre
     have e0 : (t.ph != 0) = false := by rw [h0]; rfl
     have HRE := h! hre
     clear hre hm h0
     go_wp2_with fail
     go_roundw
     case rel => exact ⟨k + 1, by omega, by go_num, h! ⟨HB3.out, HRE.out⟩, HD3⟩
     case measure => simp [intOf]; omega
    have hg := (DC.may_good hm h0).1
    have hge : 0 ≤ t.ba := by unfold BM.good at hg; omega
    have hle : t.ba ≤ 9223372036854775807 := by unfold BM.good at hg; omega
    have e0 : (t.ph != 0) = true := by simpa using h0
    have hmt := mayT_iff (ms := w.ms) (i := (k : Int)) hm h0
    have e8 : t.ba.tmod 8 = t.ba % 8 := Int.tmod_eq_emod_of_nonneg hge
    by_cases h8 : t.ba % 8 = (k : Int)
    rotate_left
    ·rw [decide_eq_false (fun h => h8 (hmt.1 h).1), Bool.false_and] at hre
     have e9 : (t.ba % 8 != (k : Int)) = true := by simpa using h8
     have HRE := h! hre
     clear hre hm h0 hg hmt e8
     go_wp2_with fail
     go_ret
     exact bool_ret HRE.out HB3.out
    have e9 : (t.ba % 8 != (k : Int)) = false := by rw [h8]; simp
    have hdt : decide (DC.MayT w.ms k t) = decide (t.ms = w.ms) := by rw [decide_eq_decide, hmt]; exact ⟨fun h => h.2, fun h => ⟨h8, h⟩⟩
    rw [hdt] at hre
    generalize decide (t.ms = w.ms) = r at hre HSI
    have HRE0 := h! hre
    obtain ⟨⟨x0, x1, x2, x3, x4⟩, _⟩ := (HBX.out u2 HD3.out).five
    clear hre hm h0 hg hmt e8 hdt
    go_wp2_with fail
    refine (HSI.out _ HC2.out).mono ?_
    rintro e u3 ⟨rfl, q3, rfl⟩
    have hre := HRE0.out
    clear HRE0
    rcases r with _ | _
    ·rw [Bool.false_and] at hre
     have HRE := h! hre
     clear hre
     go_wp2_with fail
     go_ret
     exact bool_ret HRE.out (below_drewN HB3.out _)
    ·rw [Bool.true_and] at hre
     have HRE := h! hre
     clear hre
     go_wp2_with fail
     go_roundw
     case rel => exact ⟨k + 1, by omega, by go_num, h! ⟨below_drewN HB3.out _, HRE.out⟩, h! (below_drewN HD3.out _)⟩
     case measure => simp [intOf]; omega
   ·obtain rfl : k = 6 := by omega
    have HS := h! (show MyRelM W w b 0 wr from ⟨HRL.out.1, by have := HRL.out.2; simpa using this⟩)
    clear HRL
    go_wp2_with fail
    go_meet
    case rel => exact ⟨HS, HR1⟩
 case rest =>
  clear HS
  obtain ⟨HS, HR1⟩ := hcut
  go_upto_block 2 with (fail)
  go_cut [] (fun wx => Hid (MyRelC W w b 0 wx) ∧ Hid (Below w1.heap.size w1 wx))
  case first =>
   go_wp2_with fail
   go_loopw [5] (fun i wr => ∃ k : Nat, k ≤ w.ml.length ∧ i = .int .i64 k ∧ Hid (MyRelM W w b k wr) ∧ Hid (Below w1.heap.size w1 wr)) (fun i _ => w.ml.length - (intOf i).toNat)
   case atStart => exact ⟨0, by omega, rfl, HS, HR1⟩
   case round =>
    clear HS HR1
    obtain ⟨k, hk, rfl, HRL, HR1⟩ := hrel
    obtain ⟨⟨x0, x1, x2, x3, x4⟩, _⟩ := (HBX.out _ HR1.out).five
    have h3 := F3.out
    by_cases hlt : k < w.ml.length
    ·have hM := List.getElem?_eq_getElem hlt
     have hre := HRL.out.2
     rw [List.drop_eq_getElem_cons hlt, List.all_cons, Bool.and_assoc] at hre
     have hmf := HFM.out _ (List.getElem_mem hlt)
     generalize w.ml[k] = m at hM hre hmf
     obtain ⟨bl, o, rfl, hbl, d0, d1, d2, d3, d4, d5, d6, d7, d8, d9⟩ := RdG.mail (RdG.below HR.out.h3 HRL.out.1) hlt hM
     have i0 : (0 : Int) ≤ (k : Int) := by omega
     have i1 : (k : Int) < (w.ml.length : Int) := by omega
     have HMM := h! (fun (U : World) => mayMail_any m U ⟨hmf.1, hmf.2.1⟩ hmf.2.2.2.2.2)
     have hdd : @decide (DC.MayM m) (instDecidableMayM m) = @decide (DC.MayM m) (PD.instDecidableMayM m) := by congr
     rw [← hdd] at hre
     generalize @decide (DC.MayM m) (instDecidableMayM m) = r at hre HMM
     have HB2 := h! HRL.out.1
     have HRE0 := h! hre
     clear hre hmf hM HRL hdd
     go_wp2_with fail
     refine (HMM.out _).mono ?_
     rintro e w2 ⟨rfl, hb⟩
     have HB3 := h! (bmore HB2.out hb n!)
     have HD3 := h! (bmore HR1.out hb n!)
     have hre := HRE0.out
     clear HRE0 hb HMM x0 x1 x2 x3 x4 d0 d1 d2 d3 d4 d5 d6 d7 d8 d9
     rcases r with _ | _
     ·rw [Bool.false_and] at hre
      have HRE := h! hre
      clear hre
      go_wp2_with fail
      go_ret
      exact bool_ret HRE.out HB3.out
     ·rw [Bool.true_and] at hre
      have HRE := h! hre
      clear hre
      go_wp2_with fail
      go_roundw
      case rel => exact ⟨k + 1, by omega, by go_num, h! ⟨HB3.out, HRE.out⟩, HD3⟩
      case measure => simp [intOf]; omega
    ·obtain rfl : w.ml.length = k := by omega
     have HS := h! (show MyRelC W w b 0 _ from ⟨HRL.out.1, by have := HRL.out.2; rw [List.drop_length] at this; simpa using this⟩)
     clear HRL
     go_wp2_with fail
     go_meet
     case rel => exact ⟨HS, HR1⟩
  case rest =>
   clear HS HR1
   obtain ⟨HS, HR1⟩ := hcut
   go_wp2_with fail
   go_loopw [6] (fun i wr => ∃ k : Nat, k ≤ w.ch.length ∧ i = .int .i64 k ∧ Hid (MyRelC W w b k wr) ∧ Hid (Below w1.heap.size w1 wr)) (fun i _ => w.ch.length - (intOf i).toNat)
   case atStart => exact ⟨0, by omega, rfl, HS, HR1⟩
   case round =>
    clear HS HR1
    obtain ⟨k, hk, rfl, HRL, HR1⟩ := hrel
    obtain ⟨⟨x0, x1, x2, x3, x4⟩, _⟩ := (HBX.out _ HR1.out).five
    have h4 := F4.out
    by_cases hlt : k < w.ch.length
    ·have hM := List.getElem?_eq_getElem hlt
     have hre := HRL.out.2
     rw [List.drop_eq_getElem_cons hlt, List.all_cons] at hre
     have hmf := HFC.out _ (List.getElem_mem hlt)
     generalize w.ch[k] = m at hM hre hmf
     obtain ⟨bl, o, rfl, hbl, d0, d1⟩ := RdG.choice (RdG.below HR.out.h4 HRL.out.1) hlt hM
     have i0 : (0 : Int) ≤ (k : Int) := by omega
     have i1 : (k : Int) < (w.ch.length : Int) := by omega
     have hv63 : m.v.size ≤ 9223372036854775807 := by unfold maxLen at hmf; omega
     have HB2 := h! HRL.out.1
     have HRE0 := h! hre
     clear hre hmf hM HRL
     by_cases hn : DC.isNode m.n
     rotate_left
     ·have HRE := h! (show false = b by have := HRE0.out; rwa [decide_eq_false (fun h => hn h.1), Bool.false_and] at this)
      have HNN := h! (fun U => rNode_no m.n U (by unfold DC.isNode at hn; omega))
      clear hn HRE0
      go_wp2_with fail
      refine (HNN.out _).mono ?_
      rintro e w2 ⟨rfl, rfl⟩
      go_wp2_with fail
      go_ret
      exact bool_ret HRE.out HB2.out
     have HNN := h! (fun U => rNode_yes m.n U hn.1 hn.2)
     by_cases hs : m.v.size ≤ 1024
     rotate_left
     ·have HRE := h! (show false = b by have := HRE0.out; rwa [decide_eq_false (fun h => hs h.2), Bool.false_and] at this)
      have e5 : decide ((1024 : Int) < (m.v.size : Int)) = true := by simp; omega
      clear hn HRE0
      go_wp2_with fail
      refine (HNN.out _).mono ?_
      rintro e w2 ⟨rfl, rfl⟩
      go_wp2_with fail
      go_ret
      exact bool_ret HRE.out HB2.out
     ·have HRE := h! (show (w.ch.drop (k + 1)).all (fun m => decide (DC.MayC m)) = b by have := HRE0.out; rwa [decide_eq_true (show DC.MayC m from ⟨hn, hs⟩), Bool.true_and] at this)
      have e5 : decide ((1024 : Int) < (m.v.size : Int)) = false := by simp; omega
      clear hn HRE0
      go_wp2_with fail
      refine (HNN.out _).mono ?_
      rintro e w2 ⟨rfl, rfl⟩
      go_wp2_with fail
      go_roundw
      case rel => exact ⟨k + 1, by omega, by go_num, h! ⟨HB2.out, HRE.out⟩, HR1⟩
      case measure => simp [intOf]; omega
    ·obtain rfl : w.ch.length = k := by omega
     have HRE := h! (show true = b by have := HRL.out.2; rw [List.drop_length] at this; simpa using this)
     have HB2 := h! HRL.out.1
     clear HRL
     go_wp2_with fail
     go_ret
     exact bool_ret HRE.out HB2.out
end Go.Proofs.YtiiobafcgdelmaaGreat.PD
