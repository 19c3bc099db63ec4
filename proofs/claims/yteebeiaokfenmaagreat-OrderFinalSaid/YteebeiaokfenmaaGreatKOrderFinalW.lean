/-
  The walk of OrderFinal. Conditions: as the walk says. Written by wip/tools/gen/ord/ofin.py.
-/
import Derived.Test.YteebeiaokfenmaaGreatK01
import Derived.Test.YteebeiaokfenmaaGreatK40
import Derived.Test.YteebeiaokfenmaaGreatK39
import Derived.Test.YteebeiaokfenmaaGreatK08
import Derived.Test.YteebeiaokfenmaaGreatK09
import Derived.Test.YteebeiaokfenmaaGreatK05
import Derived.Test.YteebeiaokfenmaaGreatK11
namespace Go.Proofs.YteebeiaokfenmaaGreat.KP
open Go.RowKit CP TP LP SP
open CM (Mg Cm)
open TM (Sp)
open KM (Wt Sk)
set_option linter.unusedVariables false
set_option linter.unusedSimpArgs false
set_option maxRecDepth 100000
theorem info_strs : (Tryz.prog.info? 26).map (fun i => (i.zero, i.size, i.bytes)) = some (some (.slice none 0 0), 1, 24) := by kernel_rfl
set_option maxHeartbeats 1600000 in
theorem orderFinal_walk0 (A : Option Addr) (n c : Nat) (ls : List (List ByteArray)) (vm : Value) (m : Mg) (gr : Int) (w : World) (h : LogsIs w A n c ls) (hs : ∀ l ∈ ls, ∀ t ∈ l, t.size ≤ maxLen) (hm : MgIs w vm m) (hf : MgFit m) :
  Calls Tryz.prog 8 #[.slice A n c, vm, .int .i64 gr] w fun e w' => e = .returned (.bool true) ∧ Below w.heap.size w w' := by
 have hln : ls.length = n := by obtain ⟨_, _, _, h1, _⟩ := h; exact h1
 have hn63 : n ≤ 9223372036854775807 := by
  obtain ⟨_, _, _, _, h1, h2⟩ := h
  unfold maxLen at h2
  omega
 obtain ⟨i0, hi, hz0, hz1, hz2⟩ := info_parts info_st
 obtain ⟨j0, hj, hy0, hy1, hy2⟩ := info_parts info_strs
 have H := h! (fun W (hb : Below w.heap.size w W) => h.below hb)
 have HS := h! hs
 have HLN := h! hln
 have HM := h! (fun W (hb : Below w.heap.size w W) => hm.below hb)
 have HF := h! hf
 obtain ⟨mm, hmm⟩ : ∃ mm, mm = m := ⟨_, rfl⟩
 rw [← hmm] at HM HF
 have HMM := h! hmm
 obtain ⟨G, cg, rfl, hrow⟩ := hm
 have HROW := h! (fun W (hb : Below w.heap.size w W) => hrow.below hb)
 have hg63 : m.gs.length ≤ 9223372036854775807 := by have := hrow.2; unfold maxLen at this; omega
 have hk63 : m.key.size ≤ 9223372036854775807 := by have := hf.2.2.1; unfold maxLen at this; omega
 have hb63 : m.body.size ≤ 9223372036854775807 := by have := hf.2.2.2; unfold maxLen at this; omega
 clear h hs hln hf hrow hmm
 obtain ⟨ai, ag, at_, ak, ab⟩ := m
 unfold mcells at HM ⊢
 simp only at HM HROW hg63 hk63 hb63 ⊢
 obtain ⟨p4, hp4⟩ : ∃ p4, w.heap.size = p4 := ⟨_, rfl⟩
 have HB := h! (show Below w.heap.size w (w.alloc (.cells #[.int .i64 ai, .slice G ag.length cg, .int .i64 at_, .string ak, .string ab] 33)) from (Below.refl _ _).alloc n! _)
 have X := h! (Box.new_at (w := w) (t := 33) (cs := #[.int .i64 ai, .slice G ag.length cg, .int .i64 at_, .string ak, .string ab]) p4 hp4)
 go_enter Tryz.func8, Tryz.ntmps8
 go_upto_region 1 with (fail)
 generalize w.alloc (.cells #[.int .i64 ai, .slice G ag.length cg, .int .i64 at_, .string ak, .string ab] 33) = w0 at HB X ⊢
 have HP4 := h! hp4
 try simp only [hp4]
 clear hp4
 go_wp2_with fail
 refine (alive16_any _).mono ?_
 rintro e w1 ⟨rfl, hb⟩
 replace HB := h! (bmore HB.out hb n!)
 replace X := h! (X.out.below hb X.out.lt)
 clear hb
 have HG := h! (OP.great16_any A n c ls w1 (H.out w1 HB.out) HS.out)
 go_wp2_with fail
 refine (HG.out).mono ?_
 rintro e w2 ⟨bg, rfl, _, hb⟩
 replace HB := h! (bmore HB.out hb n!)
 replace X := h! (X.out.below hb X.out.lt)
 clear hb HG
 rcases bg with _ | _
 rotate_left
 ·go_wp2_with fail
  go_ret
  exact ⟨rfl, HB.out⟩
 obtain ⟨x0, x1, x2, x3, x4⟩ := box_mg X.out
 obtain ⟨sz, hw5⟩ : ∃ sz : Int, IntKind.i64.wrap ((ak.size : Int) + (ab.size : Int)) = sz := ⟨_, rfl⟩
 by_cases h3 : 1000 < ag.length
 ·have t3 : decide ((1000 : Int) < (ag.length : Int)) = true := by rw [decide_eq_true_iff]; omega
  go_wp2_with fail
  go_ret
  exact ⟨rfl, HB.out⟩
 have t3 : decide ((1000 : Int) < (ag.length : Int)) = false := by rw [decide_eq_false_iff_not]; omega
 by_cases h4 : 5000 < sz
 ·have t4 : decide ((5000 : Int) < sz) = true := by rw [decide_eq_true_iff]; omega
  go_wp2_with fail
  go_ret
  exact ⟨rfl, HB.out⟩
 have t4 : decide ((5000 : Int) < sz) = false := by rw [decide_eq_false_iff_not]; omega
 go_upto_region 6 with (fail)
 clear hw5 t3 t4 h4
 obtain ⟨R, hR⟩ : ∃ R, R = finR ls mm := ⟨_, rfl⟩
 have KF := h! (pfinal16_any A n c ls _ mm w2 (H.out w2 HB.out) HS.out (HM.out w2 HB.out) HF.out)
 have KH := h! (fun W (hb : Below w.heap.size w W) => phonest16_any A n c ls W (H.out W hb) HS.out)
 unfold HoQ at KH
 rw [← hR] at KF
 have HR := h! hR
 unfold finR at HR
 have HZ := h! (fun h0 => allE_zero (ls := ls) h0)
 have HLT := h! (fun (h0 : allE ls = 0) g l hl => loc_tg (ls := ls) (g := g) (l := l) hl h0)
 have HMO := h! (fun (h0 : allE ls = 0) g l t hl h2 hH hx hf => honest_more (ls := ls) (g := g) (l := l) (x := mm) (t := t) hl h0 h2 hH hx hf)
 have HCL := h! (cmL_len ls)
 obtain ⟨L, hL⟩ : ∃ L, L = cmL ls := ⟨_, rfl⟩
 rw [← hL] at KH HR HZ HLT HMO HCL
 obtain ⟨r, hr⟩ : ∃ r, r = allE ls := ⟨_, rfl⟩
 rw [← hr] at KH HR HZ HLT HMO
 clear hL hr hR h3
 go_wp2_with fail
 clear x0 x1 x2 x3 x4
 refine (KF.out).mono ?_
 rintro e w3 ⟨rfl, hb⟩
 replace HB := h! (bmore HB.out hb n!)
 replace X := h! (X.out.below hb X.out.lt)
 clear hb KF
 go_wp2_with fail
 refine (KH.out w3 HB.out).mono ?_
 rintro e w4 ⟨hq, rfl, hhq, hb⟩
 replace HB := h! (bmore HB.out hb n!)
 replace X := h! (X.out.below hb X.out.lt)
 have HHQ := h! hhq
 clear hb hhq KH
 by_cases h0 : r = 0
 rotate_left
 ·have hq0 : (r == 0) = false := by simpa using h0
  obtain ⟨R1, hR1⟩ : ∃ R1, R1 = R := ⟨_, rfl⟩
  have hR2 : R = (0, false, r) := by rw [HR.out, if_pos h0]
  subst hR2
  clear hR1 HR HHQ HZ HLT HMO
  go_wp2_with fail
  go_ret
  exact ⟨rfl, HB.out⟩
 subst h0
 by_cases hok : CM.mgOk mm
 rotate_left
 ·have hR2 : R = (0, false, 8) := by rw [HR.out, if_neg (fun k => k rfl), if_neg hok]
  subst hR2
  clear HR HHQ HZ HLT HMO
  go_wp2_with fail
  go_ret
  exact ⟨rfl, HB.out⟩
 rcases OM.lastG_cases (L := L) (m := mm) (gs := mm.gs) (most := 0) with ⟨t, hla⟩ | hla
 rotate_left
 ·have hR2 : R = (0, false, 0) := by rw [HR.out, if_neg (fun k => k rfl), if_pos hok]; unfold OM.lastF; rw [hla]
  subst hR2
  clear HR HHQ HZ HLT HMO
  go_wp2_with fail
  go_ret
  exact ⟨rfl, HB.out⟩
 have hlf : OM.lastF L mm = (t, true) := hla
 have hR2 : R = (t, true, 0) := by rw [HR.out, if_neg (fun k => k rfl), if_pos hok, hlf]
 subst hR2
 have HLg := h! (HZ.out rfl).1
 have hn4 : n ≤ 4 := by have := (HZ.out rfl).2.1; have := HLN.out; omega
 have HLT2 := h! (HLT.out rfl)
 have HMO2 := h! (fun g l hl h2 hH => HMO.out rfl g l t hl h2 hH hok hlf)
 have HNL := h! (show L.length = n by rw [HCL.out, HLN.out])
 have HHo := h! (fun (k : hq = true) => (HHQ.out.1 k).2)
 have HEQ := h! (eqL_some HLg.out hok hlf)
 have HMA := h! (fun g (hg : g ∈ mm.gs) s hs hi => most_all (g := g) (s := s) HLg.out hok hlf hg hs hi)
 have HGI := h! (fun g (hg : g ∈ mm.gs) => gs_in (g := g) hok hlf hg)
 have HTP := h! (last_pos HLg.out hok hlf)
 have HID := h! hok.1
 have hgs : mm.gs = ag := by rw [HMM.out]
 have hid : mm.id = ai := by rw [HMM.out]
 rw [hgs] at HEQ HMA HGI
 rw [hid] at HEQ HMA HMO2 HID
 clear hgs hid hla hlf hok HR HHQ HZ HLT HMO HCL HMM HM HF
 have HB4 := HB
 have X4 := X
 have HR0 := h! (Below.refl w4.heap.size w4)
 go_wp2_with fail
 go_loopw [13, 14] (fun s i wr => ∃ (k : Nat) (b : Bool), k ≤ ag.length ∧ s = .bool b ∧ i = .int .i64 k ∧ Hid (b = (ag.take k).any fun g => eqL L t ai g) ∧ Hid (Below w4.heap.size w4 wr)) (fun _ i _ => ag.length - (intOf i).toNat)
 case atStart => exact ⟨0, false, by omega, rfl, rfl, h! rfl, HR0⟩
 case round =>
  clear HR0
  obtain ⟨k, b, hk, rfl, rfl, HBB, HA⟩ := hrel
  obtain ⟨x0, x1, x2, x3, x4⟩ := box_mg (X4.out.below HA.out X4.out.lt)
  by_cases hlt : k < ag.length
  ·obtain ⟨g, hgk⟩ : ∃ g, ag[k]? = some g := ⟨_, List.getElem?_eq_getElem hlt⟩
   have hmem := List.mem_of_getElem? hgk
   have hgi := HGI.out g hmem
   obtain ⟨gn, rfl⟩ : ∃ gn : Nat, g = (gn : Int) := ⟨g.toNat, by omega⟩
   have hgn : gn < n := by have := HNL.out; omega
   obtain ⟨ad, u, rfl, had, hu, hcell⟩ := ((HROW.out _ (bmore HB4.out HA.out n!)).1.at_ (k := k) hlt)
   have hu2 : u = .int .i64 gn := by
    have : (ic ag)[k]? = some (.int .i64 gn) := by unfold ic; rw [List.getElem?_map, hgk]; rfl
    rw [this] at hu
    injection hu with hu
    exact hu.symm
   subst hu2
   have HM1 := h! (any_int (p := fun g => eqL L t ai g) hgk)
   have HM2 := h! (HMA.out gn hmem)
   obtain ⟨l, hl⟩ : ∃ l, ls[gn]? = some l := ⟨_, List.getElem?_eq_getElem (by have := HLN.out; omega)⟩
   obtain ⟨al, B, d, rfl, _, q1, q2, q3, q4⟩ := logs_get (H.out _ (bmore HB4.out HA.out n!)) hl
   obtain ⟨ha0, hlo⟩ := HLT2.out gn l hl
   have KL := h! (fun W (hb : Below wr.heap.size wr W) => show Calls Tryz.prog 9 #[.int .i64 gn, .slice B l.length d] W (LcQ (stps (OM.tg L gn)) 0 W) from by
    have hT : TxIs wr B l.length d l := ⟨q2, q3, q4, HS.out l (List.mem_of_getElem? hl)⟩
    have := plocal16_any gn B l.length d l W (hT.below hb)
    rwa [ha0, hlo] at this)
   have HSS := h! (fun (W : World) (hb : Below wr.heap.size wr W) => show W.cell? ⟨p4, 1, none⟩ = some (.slice (some ad) ag.length cg) ∧ W.cell? (ad.add k) = some (.int .i64 gn) ∧ W.cell? (al.add gn) = some (.slice B l.length d) from
    ⟨(hb.cell (cell_block x1)).trans x1, (hb.cell (cell_block hcell)).trans hcell, (hb.cell (cell_block q1)).trans q1⟩)
   have hk0 : (0 : Int) ≤ (k : Int) := by omega
   have hkn : (k : Int) < (ag.length : Int) := by omega
   have hg0 : (0 : Int) ≤ (gn : Int) := by omega
   have hgn2 : (gn : Int) < (n : Int) := by omega
   have hgt1 : decide ((gn : Int) < 0) = false := by rw [decide_eq_false_iff_not]; omega
   have hgt2 : decide ((n : Int) ≤ (gn : Int)) = false := by rw [decide_eq_false_iff_not]; omega
   obtain ⟨S, hS⟩ : ∃ S, S = stps (OM.tg L gn) := ⟨_, rfl⟩
   rw [← hS] at KL HM2
   have HEL := h! (show eqL L t ai gn = S.any fun s => s.t == t && s.i == ai by rw [hS]; rfl)
   clear hgk hmem hgi hu had q1 q2 q3 q4 ha0 hlo hl hS x0 x2 x3 x4
   go_upto_region 16 with (fail)
   have bb1 : Below wr.heap.size wr wr.drew := (Below.refl _ _).drew
   go_region_held3 (fun W => W.cell? ⟨p4, 1, none⟩ = some (.slice (some ad) ag.length cg) ∧ W.cell? (ad.add k) = some (.int .i64 gn) ∧ W.cell? (al.add gn) = some (.slice B l.length d))
    (first | exact HSS.out _ bb1 | exact HSS.out _ hb2 | go_keep)
    ((go_at_call 9; refine (KL.out _ bb1).mono ?_; rintro e w5 ⟨v, rfl, ho, hb⟩; have hb2 := bmore bb1 hb n!; obtain ⟨A6, c6, rfl, hs6⟩ := sps_new ho; have HSP := h! hs6; clear ho hs6))
   all_goals
    have HA5 := h! (bmore HA.out hb2 n!)
    clear hb2 hb bb1 HSS KL x1 hcell HA
    obtain ⟨ns, hns⟩ : ∃ ns, ns = S.length := ⟨_, rfl⟩
    rw [← hns] at HSP
    try rw [← hns]
    have HNS := h! hns
    have hs63 := HSP.out.small
    clear hns
    have HR0 := h! (Below.refl w5.heap.size w5)
    have HB0 := h! (show b = (b || (S.take 0).any fun s => s.t == t && s.i == ai) by simp)
    go_wp2_with fail
    go_loopw [13, 17] (fun s i wq => ∃ (j : Nat) (b2 : Bool), j ≤ ns ∧ s = .bool b2 ∧ i = .int .i64 j ∧ Hid (b2 = (b || (S.take j).any fun s => s.t == t && s.i == ai)) ∧ Hid (Below w5.heap.size w5 wq)) (fun _ i _ => ns - (intOf i).toNat)
    case atStart => exact ⟨0, b, by omega, rfl, rfl, HB0, HR0⟩
    case round =>
     clear HR0 HB0
     obtain ⟨j, b2, hjn, rfl, rfl, HB2, HA6⟩ := hrel
     by_cases hlt2 : j < ns
     ·obtain ⟨s, hsj⟩ : ∃ s, S[j]? = some s := ⟨_, List.getElem?_eq_getElem (by have := HNS.out; omega)⟩
      obtain ⟨b3, o3, rfl, _, hb3, y0, y1⟩ := (HSP.out.below HA6.out).at_ hsj
      have X9 := h! (X4.out.below (bmore HA5.out HA6.out n!) X4.out.lt)
      obtain ⟨x0, x1, x2, x3, x4⟩ := box_mg X9.out
      have HM3 := h! (any_more (p := fun s => s.t == t && s.i == ai) hsj)
      have hmt := HM2.out s (List.mem_of_getElem? hsj)
      have NX := h! (below_drewN (below_drewN HA6.out 1) 1)
      clear hsj x1 x2 x3 x4
      obtain ⟨st, si⟩ := s
      simp only at y0 y1 HM3 hmt
      have hj0 : (0 : Int) ≤ (j : Int) := by omega
      have hjn2 : (j : Int) < (ns : Int) := by omega
      by_cases hii : si = ai
      ·have hle : ¬ t < st := by have := hmt hii; omega
       have hle2 : decide (t < st) = false := by rw [decide_eq_false_iff_not]; exact hle
       subst hii
       rcases b2 with _ | _
       ·by_cases htt : st = t
        ·subst htt
         have NB := h! (show true = (b || (S.take (j + 1)).any fun s => s.t == st && s.i == si) by rw [HM3.out, ← Bool.or_assoc, ← HB2.out]; simp)
         go_wp2_with fail
         go_region
         go_wp2_with fail
         go_region
         go_wp2_with fail
         go_roundw
         case rel => exact ⟨j + 1, true, by omega, rfl, by go_num, NB, NX⟩
         case measure => simp [intOf]; omega
        ·have htb : (st == t) = false := by simpa using htt
         have NB := h! (show false = (b || (S.take (j + 1)).any fun s => s.t == t && s.i == si) by rw [HM3.out, ← Bool.or_assoc, ← HB2.out, htb]; rfl)
         go_wp2_with fail
         go_region
         go_wp2_with fail
         go_region
         go_wp2_with fail
         go_roundw
         case rel => exact ⟨j + 1, false, by omega, rfl, by go_num, NB, NX⟩
         case measure => simp [intOf]; omega
       ·have NB := h! (show true = (b || (S.take (j + 1)).any fun s => s.t == t && s.i == si) by rw [HM3.out, ← Bool.or_assoc, ← HB2.out]; rfl)
        go_wp2_with fail
        go_region
        go_wp2_with fail
        go_region
        go_wp2_with fail
        go_roundw
        case rel => exact ⟨j + 1, true, by omega, rfl, by go_num, NB, NX⟩
        case measure => simp [intOf]; omega
      ·have hib : (si == ai) = false := by simpa using hii
       have NB := h! (show b2 = (b || (S.take (j + 1)).any fun s => s.t == t && s.i == ai) by rw [HM3.out, ← Bool.or_assoc, ← HB2.out, hib]; simp)
       rcases b2 with _ | _
       ·by_cases htt : st = t
        ·have htb : (st == t) = true := by simpa using htt
         go_wp2_with fail
         go_region
         go_wp2_with fail
         go_region
         go_wp2_with fail
         go_roundw
         case rel => exact ⟨j + 1, false, by omega, rfl, by go_num, NB, NX⟩
         case measure => simp [intOf]; omega
        ·have htb : (st == t) = false := by simpa using htt
         go_wp2_with fail
         go_region
         go_wp2_with fail
         go_region
         go_wp2_with fail
         go_roundw
         case rel => exact ⟨j + 1, false, by omega, rfl, by go_num, NB, NX⟩
         case measure => simp [intOf]; omega
       ·skip
        go_wp2_with fail
        go_region
        go_wp2_with fail
        go_region
        go_wp2_with fail
        go_roundw
        case rel => exact ⟨j + 1, true, by omega, rfl, by go_num, NB, NX⟩
        case measure => simp [intOf]; omega
     ·obtain rfl : j = ns := by omega
      have NB := h! (show b2 = (ag.take (k + 1)).any fun g => eqL L t ai g by
       rw [HM1.out, HEL.out, ← HBB.out, HB2.out, List.take_of_length_le (by have := HNS.out; omega)])
      have NX := h! (bmore HA5.out HA6.out n!)
      go_wp2_with fail
      go_roundw
      case rel => exact ⟨k + 1, b2, by omega, rfl, by go_num, NB, NX⟩
      case measure => simp [intOf]; omega
  ·obtain rfl : k = ag.length := by omega
   have hbt : b = true := by
    have h1 := HBB.out
    rw [List.take_of_length_le n!, HEQ.out] at h1
    exact h1
   subst hbt
   have HBW := h! (bmore HB4.out HA.out n!)
   have X9 := h! (X4.out.below HA.out X4.out.lt)
   clear HBB HEQ HMA HGI HLT2 X X4 HA HB
   by_cases hg0 : gr < 0
   ·have t1 : decide (gr < 0) = true := by rw [decide_eq_true_iff]; exact hg0
    go_wp2_with fail
    go_ret
    exact ⟨rfl, HBW.out⟩
   obtain ⟨gn, rfl⟩ : ∃ gn : Nat, gr = (gn : Int) := ⟨gr.toNat, by omega⟩
   clear hg0
   have t1 : decide ((gn : Int) < 0) = false := by rw [decide_eq_false_iff_not]; omega
   by_cases hgn : n ≤ gn
   ·have t2 : decide ((n : Int) ≤ (gn : Int)) = true := by rw [decide_eq_true_iff]; omega
    go_wp2_with fail
    go_ret
    exact ⟨rfl, HBW.out⟩
   have t2 : decide ((n : Int) ≤ (gn : Int)) = false := by rw [decide_eq_false_iff_not]; omega
   rcases hq with _ | _
   ·go_wp2_with fail
    go_ret
    exact ⟨rfl, HBW.out⟩
   have HHO := h! (HHo.out rfl)
   obtain ⟨l, hl⟩ : ∃ l, ls[gn]? = some l := ⟨_, List.getElem?_eq_getElem (by have := HLN.out; omega)⟩
   have HL := h! hl
   obtain ⟨al, B, d, rfl, _, q1, q2, q3, q4⟩ := logs_get (H.out _ HBW.out) hl
   have HT := h! (show TxIs wr B l.length d l from ⟨q2, q3, q4, HS.out l (List.mem_of_getElem? hl)⟩)
   have HSZ := h! (HS.out l (List.mem_of_getElem? hl))
   have hg0 : (0 : Int) ≤ (gn : Int) := by omega
   have hgn2 : (gn : Int) < (n : Int) := by omega
   obtain ⟨nl, hnl⟩ : ∃ nl, nl = l.length := ⟨_, rfl⟩
   have HNLL := h! hnl
   rw [← hnl] at q1 HT
   have hl63 : nl ≤ 9223372036854775807 := by have := HT.out.2.1; have := HT.out.2.2.1; unfold maxLen at this; omega
   clear hl hnl q2 q3 q4 hgn HHo
   by_cases h200 : 200 ≤ nl
   ·have t3 : decide ((200 : Int) ≤ (nl : Int)) = true := by rw [decide_eq_true_iff]; omega
    go_wp2_with fail
    go_ret
    exact ⟨rfl, HBW.out⟩
   have t3 : decide ((200 : Int) ≤ (nl : Int)) = false := by rw [decide_eq_false_iff_not]; omega
   have hl200 : nl < 200 := by omega
   have HHN := h! (HMO2.out gn l HL.out (by have := HNLL.out; omega) HHO.out)
   obtain ⟨rows, hr, hrws, hrl, hrc, hrm⟩ := H.out _ HBW.out
   have HRW := h! hrws
   have HSS : Hid (∀ W, Below wr.heap.size wr W → W.cell? (al.add gn) = some (.slice B nl d) ∧ W.cell? ⟨p4, 0, none⟩ = some (.int .i64 ai)) := h! (fun W hb => ⟨(hb.cell (cell_block q1)).trans q1, (hb.cell (cell_block x0)).trans x0⟩)
   have hro : ∀ u ∈ rows, u.oneCell' = true := fun u hu => by
    obtain ⟨i, hi⟩ := List.getElem?_of_mem hu
    obtain ⟨l', hl'⟩ : ∃ l', ls[i]? = some l' := ⟨_, List.getElem?_eq_getElem (by have := (List.getElem?_eq_some_iff.1 hi).1; have := hrws.1; omega)⟩
    obtain ⟨Bx, cx, e, _⟩ := hrws.2 i l' hl'
    rw [hi] at e
    injection e with e
    rw [e]
    rfl
   clear hrws hrl hrc hrm HMO2
   go_upto_region 29 with (at_builtin; refine wpList_append_rd _ rfl _ _ 27 rfl wr.heap.size 26 j0 (.slice none 0 0) 24 Tryz.underlying27 hj hy0 hy1 hy2 rfl (.slice none 0 0) 0 [] rfl (World.ownsRow_nil _ _ _ _) (some al) n c rows rfl hr hro (by unfold maxLen; omega) (by omega) n! ?_; intro v5 w5 hown hgr hob; have hb5 : Below wr.heap.size wr w5 := below_of_grown hgr (by simp [Value.ownBlock]))
   simp only [Nat.zero_add, List.nil_append] at hown
   obtain ⟨q, hq5, cn, rfl, hqb⟩ : ∃ q, wr.heap.size ≤ q ∧ ∃ cn, v5 = .slice (some ⟨q, 0, none⟩) n cn ∧ q < w5.heap.size := by
    obtain ⟨A5, c5, rfl, _, _⟩ := own_form hown
    obtain ⟨q, cap, hv, hb, hlt⟩ := hown.form (by omega)
    injection hv with hv _ _
    subst hv
    exact ⟨q, hb, c5, rfl, hlt⟩
   have HNX := h! hown
   have HT5 := h! (HT.out.below hb5)
   have HBR := h! hb5
   have HB5 := h! (bmore HBW.out hb5 n!)
   have HWR := h! HBW.out.size
   have HRL := h! (show rows.length = n by have := HRW.out.1; have := HLN.out; omega)
   clear hown hgr hob hb5 hr hro q1 HT X9 x0 x1 x2 x3 x4 t1 t2 t3 h200
   have KFN := h! (fun W => final16_any ai t W HID.out HTP.out)
   obtain ⟨s, hs⟩ : ∃ s, s = txt (finE ai t) := ⟨_, rfl⟩
   unfold TxtIs at KFN
   rw [← hs] at KFN HHN
   have HS9 := h! (show ∀ q ∈ ls.set gn (l ++ [s]), ∀ t ∈ q, t.size ≤ maxLen from fun q hq t ht => by
    rcases List.mem_or_eq_of_mem_set hq with hq | rfl
    ·exact HS.out q hq t ht
    ·rcases List.mem_append.1 ht with ht | ht
     ·exact HSZ.out t ht
     ·rw [List.mem_singleton.1 ht]; exact HHN.out.2.2)
   clear hs
   obtain ⟨zz, hbq, _, ⟨yq, hyq⟩, hfq, cur, hcur⟩ := rd_put HNX.out HRL.out (i := gn) (by omega) (.slice none 0 0)
   clear zz
   have HCU := h! hcur
   have HYQ := h! (fun (W : World) (hb : Below w5.heap.size w5 W) => show W.cell? ⟨q, gn, none⟩ = some yq ∧ W.frozen? ⟨q, gn, none⟩ = false from by
    have hx := hcur.below hb hcur.lt
    exact ⟨(hb.cell (p := ⟨q, gn, none⟩) hcur.lt).trans hyq, hx.frozen gn⟩)
   clear hyq hfq hcur
   have bb0 : Below w5.heap.size w5 w5.drew := (Below.refl _ _).drew
   obtain ⟨ud, hud⟩ : ∃ ud, ud = w5.drew := ⟨_, rfl⟩
   refine wp_region_held_drew (S := fun W => W.cell? (al.add gn) = some (.slice B nl d) ∧ W.cell? ⟨p4, 0, none⟩ = some (.int .i64 ai)) (by kernel_rfl) (HSS.out _ (bmore HBR.out bb0 n!)) (fun hHeld => ?_)
   rw [← hud] at bb0 hHeld ⊢
   clear hud
   refine qT 0 ?_; try simp only [Act.put, qq]
   refine qT 1 ?_; try simp only [Act.put, qq]
   refine qT 2 ?_; try simp only [Act.put, qq]
   refine qT 3 ?_; try simp only [Act.put, qq]
   refine qT 4 ?_; try simp only [Act.put, qq]
   refine qT 5 ?_; try simp only [Act.put, qq]
   refine qT 7 ?_; try simp only [Act.put, qq]
   refine qT 8 ?_; try simp only [Act.put, qq]
   refine qT 9 ?_; try simp only [Act.put, qq]
   refine qR 6 fun K hK => ?_
   refine step_append_h rfl (.const (.slice none 0 0)) (.tmp 183) 26 rfl w5.heap.size 9 i0 _ 1 16 Tryz.underlying26 hi hz0 hz1 hz2 rfl (by omega) (.slice none 0 0) 0 [] (by simp [Act.eval, Act.put]) (World.ownsRow_nil _ _ _ _) B nl d (tcx l) (by simp [Act.eval, Act.put]) (HT5.out.below bb0).1.g (tcx_one l) (by unfold maxLen; omega) (by omega) bb0.size ?_
   intro v6 y1 o6 g6 _
   simp only [Nat.zero_add, List.nil_append] at o6
   have hg6 : Below ud.heap.size ud y1 := below_of_grown g6 (by simp [Value.ownBlock])
   obtain ⟨A6, c6, rfl, _, _⟩ := own_form o6
   have bb1 := bmore bb0 hg6 n!
   have HO6 := h! o6
   clear o6 g6 hg6
   refine hK.out _ _ (HSS.out _ (bmore HBR.out bb1 n!)) (fun hHeld => ?_)
   clear hK
   try simp only [Act.put, qq]
   refine qR 10 fun K hK => ?_
   go_simp
   refine (KFN.out y1).mono ?_
   rintro e y2 ⟨rfl, hb⟩
   have bb2 := bmore bb1 hb n!
   replace HO6 := h! (own_below3 HO6.out hb)
   clear hb
   refine hK.out _ _ (HSS.out _ (bmore HBR.out bb2 n!)) (fun hHeld => ?_)
   clear hK
   try simp only [Act.put, qq]
   refine qR 11 fun K hK => ?_
   go_simp
   have hal : Below y2.heap.size y2 (y2.alloc (.cells #[.string s] 9)) := b!
   have bb3 := bmore bb2 hal n!
   have HLT := h! (rdG_box (s := 1) (n := 1) (Box.new y2 9 #[.string s]) (xs := [.string s]) rfl rfl)
   replace HO6 := h! (own_below3 HO6.out hal)
   clear hal
   refine hK.out _ _ (HSS.out _ (bmore HBR.out bb3 n!)) (fun hHeld => ?_)
   clear hK
   try simp only [Act.put, qq]
   generalize y2.alloc (.cells #[.string s] 9) = y3 at bb3 HLT HO6 hHeld ⊢
   obtain ⟨p7, hp7⟩ : ∃ p7, y2.heap.size = p7 := ⟨_, rfl⟩
   rw [hp7] at HLT
   simp only [hp7]
   clear hp7
   refine qR 12 fun K hK => ?_
   refine step_append_h rfl (.tmp 184) (.tmp 189) 26 rfl w5.heap.size 9 i0 _ 1 16 Tryz.underlying26 hi hz0 hz1 hz2 rfl (by omega) (.slice A6 nl c6) nl (tcx l) (by simp [Act.eval, Act.put]) HO6.out (some ⟨p7, 0, none⟩) 1 1 [.string s] (by simp [Act.eval, Act.put]) HLT.out (fun u hu => by rw [List.mem_singleton] at hu; subst hu; rfl) (by unfold maxLen; omega) (by omega) bb3.size ?_
   intro v9 w9 o9 g9 _
   have bb9 : Below w5.heap.size w5 w9 := below_row bb3 HO6.out bb3.size g9
   obtain ⟨A9, c9, rfl, _, _⟩ := own_form o9
   have HO9 := h! o9
   clear o9 g9 HO6 HLT
   refine hK.out _ _ (HSS.out _ (bmore HBR.out bb9 n!)) (fun hHeld => ?_)
   clear hK
   try simp only [Act.put, qq]
   refine qT 13 ?_; try simp only [Act.put, qq]
   obtain ⟨z1, z2⟩ := HYQ.out _ bb9
   refine qR 14 fun K hK => ?_
   go_simp
   have HLN9 := h! (next_logs (s := s) HRW.out HLN.out (bmore HBR.out bb9 n!) n! (own_below3 HNX.out bb9) HL.out (B := A9) (d := c9) (b2 := w5.heap.size) (by rw [← HNLL.out]; exact HO9.out))
   rw [← HNLL.out] at HLN9
   have HB9 := h! ((bmore HBR.out bb9 n!).setCell (p := ⟨q, gn, none⟩) hq5 (.slice A9 (nl + 1) c9))
   refine hK.out _ _ (HSS.out _ HB9.out) (fun hHeld => ?_)
   clear hK z1 z2
   try simp only [Act.put, qq]
   refine wpAnyH_done (by kernel_rfl) ?_ _
   clear hHeld
   generalize w9.setCell ⟨q, gn, none⟩ (.slice A9 (nl + 1) c9) = wf at HLN9 HB9 ⊢
   have HPH := h! (phonest16_any _ n cn _ wf HLN9.out HS9.out)
   unfold HoQ at HPH
   rw [HHN.out.1] at HPH
   go_wp2_with fail
   refine (HPH.out).mono ?_
   rintro e wg ⟨b9, rfl, hb9, hb⟩
   obtain rfl : b9 = true := hb9.2 ⟨rfl, HHN.out.2.1⟩
   have HFI := h! (bmore HBW.out (bmore HB9.out hb n!) n!)
   clear hb hb9 HPH
   go_wp2_with fail
   go_ret
   exact ⟨rfl, HFI.out⟩
end Go.Proofs.YteebeiaokfenmaaGreat.KP
namespace Go.Proofs.YteebeiaokfenmaaGreat
open Go.RowKit
set_option linter.unusedVariables false
theorem orderFinal_walk (a0 : Option Addr) (len0 cap0 : Nat) (z0 : List (List ByteArray)) (v1 : Value) (x1 : CM.Mg) (a2 : Int) (w : World) (w0 : SP.LogsArg w a0 len0 cap0 z0) (w1 : CP.MgArg w v1 x1) (w2 : (Lit.int .i64 a2).wf = true) :
  Calls Tryz.prog 8 #[.slice a0 len0 cap0, v1, .int .i64 a2] w fun e w' => e = .returned (.bool true) ∧ Below w.heap.size w w' :=
 KP.orderFinal_walk0 a0 len0 cap0 z0 v1 x1 a2 w w0.1 w0.2 w1.1 w1.2
end Go.Proofs.YteebeiaokfenmaaGreat
