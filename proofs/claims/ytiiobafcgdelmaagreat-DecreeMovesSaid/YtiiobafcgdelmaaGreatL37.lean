/- Contracts of functions of towncrier, layers 5 to 9, and of the document's own ones, part 37; each as its theorem says. -/
import Derived.Test.YtiiobafcgdelmaaGreatL01
import Derived.Test.YtiiobafcgdelmaaGreatL31
import Derived.Test.YtiiobafcgdelmaaGreatL03
import Derived.BigQuiet
set_option linter.unusedVariables false
set_option linter.unusedSimpArgs false
namespace Go.Proofs.YtiiobafcgdelmaaGreat
open Go.RowKit Go.Shelf
set_option maxRecDepth 100000 in
set_option maxHeartbeats 4000000 in
theorem racc_new (v : Value) (a : AM.At) (b x : Int) (w : World) (H : AtIs w v a) (F : Fit a) (HCap : AtCap v) (hm : AM.may a = true) (hc : 2 ≤ a.ph) (hb : b = a.ba) (hh : QM.has a.ms x = true) (hy : QM.has a.ac x = false) (mo : Bool) (hmo : AM.most a.ms (AM.insI a.ac x) = mo) :
  Calls Tryz.prog 61 #[v, .int .i64 b, .int .i64 x] w (ErrRet ⟨cond mo 3 a.ph, a.ba, a.ms, a.wi, a.va, a.ps, AM.insI a.ac x⟩ 0 w) := by
 have H' := h! H
 have F' := h! F
 obtain ⟨A, n, c, B, m, d, C, k, f, rfl, h1, h2, h3⟩ := H
 obtain ⟨W0, hW0⟩ : ∃ W0, W0 = (w.alloc (.cells #[.int .u8 a.ph, .int .i64 a.ba, .slice A n c, .string a.wi, .string a.va, .slice B m d, .slice C k f] 57)).alloc (.cells #[.int .u8 0, .int .i64 0, .slice none 0 0, .string ⟨#[]⟩, .string ⟨#[]⟩, .slice none 0 0, .slice none 0 0] 57) := ⟨_, rfl⟩
 have B0 := h! (show Below w.heap.size w W0 by rw [hW0]; exact ((Below.refl _ _).alloc n! _).alloc (by simp) _)
 have X0 := h! (show Box W0 w.heap.size 57 #[.int .u8 a.ph, .int .i64 a.ba, .slice A n c, .string a.wi, .string a.va, .slice B m d, .slice C k f] by rw [hW0]; exact (Box.new _ _ _).alloc _)
 have Z0 := h! (show Box W0 (w.heap.size + 1) 57 #[.int .u8 0, .int .i64 0, .slice none 0 0, .string ⟨#[]⟩, .string ⟨#[]⟩, .slice none 0 0, .slice none 0 0] by rw [hW0]; exact Box.new_at _ (by simp))
 have HM := h! (rmay_any _ a W0 (H'.out.below B0.out) F'.out)
 have q1 : decide (a.ph < 2) = false := by simp; omega
 have q2 : (b != a.ba) = false := by simpa using hb
 have HH := h! (fun (W : World) (hb : Below w.heap.size w W) => rHas_any A n c a.ms x W (h1.below hb) (by have := (AtIs.fit_n h1 h2 h3 F).1; omega))
 rw [hh] at HH
 have HTW := h! (fun (W : World) (hb : Below w.heap.size w W) => rtwin_any _ a W (H'.out.below hb) F'.out)
 obtain ⟨hcap1, hcap2⟩ := HCap _ _ _ _ _ _ _ _ _ _ _ _ _ rfl
 clear HCap
 obtain ⟨fn, fm, fk⟩ := AtIs.fit_n h1 h2 h3 F
 have l3 : a.ac.length = k := by have := h3.1; rwa [ic_length] at this
 have l2 : a.ps.length = m := h2.1
 have HA := h! (fun (W : World) (hb : Below w.heap.size w W) => rHas_any C k f a.ac x W (h3.below hb) (by omega))
 rw [hy] at HA
 obtain ⟨i0, hi, hz0, hz1, hz2⟩ := info_parts info_ai
 have R3 := h! (fun (W : World) (hb : Below w.heap.size w W) => h3.below hb)
 have HPL := h! (show pos a.ac x ≤ k by have := pos_le a.ac x; omega)
 have l1 : a.ms.length = n := by have := h1.1; rwa [ic_length] at this
 have HC : Hid (∀ W, Below w.heap.size w W → ∀ (D : Option Addr) (r : Nat), Rd W D (k + 1) (ic (AM.insI a.ac x)) → Calls Tryz.prog 72 #[.slice A n c, .slice D (k + 1) r] W (fun e w' => e = .returned (.bool mo) ∧ W = w')) := h! fun W hb D r hd => by have := rCounts_any A n c a.ms D (k + 1) r (AM.insI a.ac x) W (h1.below hb) (by omega) hd (by omega); rw [← l1] at this; rw [← l1, ← hmo]; exact this
 have L3 := h! l3
 have L2 := h! l2
 have HCP := h! (And.intro hcap1 hcap2)
 clear hmo hc hb hh hy l1 l2 l3 hcap1 hcap2
 rw [hm] at HM
 clear h1 h2 h3
 go_enter Tryz.func61, Tryz.ntmps61
 go_wp2_with fail
 rw [← hW0]
 clear hW0
 refine HM.out.mono ?_
 rintro e w1 ⟨rfl, hb1⟩
 clear HM
 have X1 := h! (X0.out.below hb1 X0.out.lt)
 have Z1 := h! (Z0.out.below hb1 Z0.out.lt)
 have B1 := h! (bmore B0.out hb1 n!)
 clear X0 Z0 B0 hb1
 obtain ⟨⟨s0, s1, s2, s3, s4, s5, s6⟩, _⟩ := X1.out.seven
 go_wp2_with fail
 refine (HH.out _ B1.out).mono ?_
 rintro e wh ⟨rfl, rfl⟩
 clear HH
 go_wp2_with fail
 refine (HTW.out _ B1.out).mono ?_
 rintro e wt ⟨vt, rfl, hnew, hbt⟩
 clear HTW s0 s1 s2 s3 s4 s5 s6
 obtain ⟨A1, c1, B1', d1, C1, f1, rfl, o1, o2, o3, dj⟩ := hnew
 obtain ⟨NB, hNB⟩ : ∃ NB, NB = w1.heap.size := ⟨_, rfl⟩
 rw [← hNB] at o1 o2 o3
 have hgN : w.heap.size + 1 < NB := by rw [hNB]; exact Z1.out.lt
 have XT := h! (X1.out.below hbt X1.out.lt)
 have ZT := h! (Z1.out.below hbt Z1.out.lt)
 have BT := h! (bmore B1.out hbt n!)
 have O1 := h! o1
 have O2 := h! o2
 have O3 := h! o3
 have ST := h! (AftSt.start wt #[.int .u8 a.ph, .int .i64 a.ba, .slice A1 a.ms.length c1, .string a.wi, .string a.va, .slice B1' a.ps.length d1, .slice C1 a.ac.length f1])
 clear o1 o2 o3 dj hbt X1 Z1 B1
 go_upto_region 6 with (fail)
 generalize wt.alloc (.cells #[.int .u8 a.ph, .int .i64 a.ba, .slice A1 a.ms.length c1, .string a.wi, .string a.va, .slice B1' a.ps.length d1, .slice C1 a.ac.length f1] 57) = u at ST ⊢
 obtain ⟨⟨s0, s1, s2, s3, s4, s5, s6⟩, _⟩ := (XT.out.below ST.out.1 XT.out.lt).seven
 go_wp2_with fail
 refine (HA.out _ (bmore BT.out ST.out.1 n!)).mono ?_
 rintro e wh ⟨rfl, rfl⟩
 clear s0 s1 s2 s3 s4 s5 s6
 go_wp2_with fail
 go_loopw [9] (fun i wr => ∃ j : Nat, i = .int .i64 j ∧ j ≤ pos a.ac x ∧ Hid (AftSt wt wr #[.int .u8 a.ph, .int .i64 a.ba, .slice A1 a.ms.length c1, .string a.wi, .string a.va, .slice B1' a.ps.length d1, .slice C1 a.ac.length f1])) (fun i _ => k - (intOf i).toNat)
 case atStart => exact ⟨0, rfl, by omega, ST⟩
 case round =>
  clear ST
  obtain ⟨j, rfl, hj, ST⟩ := hrel
  have hpl := HPL.out
  obtain ⟨⟨s0, s1, s2, s3, s4, s5, s6⟩, _⟩ := (XT.out.below ST.out.1 XT.out.lt).seven
  go_upto_region 9 with (fail)
  go_cut [51] (fun v wx => v = .bool (decide (j < pos a.ac x)) ∧ AftSt wt wx #[.int .u8 a.ph, .int .i64 a.ba, .slice A1 a.ms.length c1, .string a.wi, .string a.va, .slice B1' a.ps.length d1, .slice C1 a.ac.length f1])
  case first =>
   by_cases hlt : j < k
   ·have e1 : decide ((j : Int) < (k : Int)) = true := by simp; omega
    have i0' : (0 : Int) ≤ (j : Int) := by omega
    have i1' : (j : Int) < (k : Int) := by omega
    obtain ⟨ad, u1, e0, _, hu1, hc1⟩ := (R3.out _ (bmore BT.out ST.out.1 n!)).at_ hlt
    subst e0
    obtain ⟨y, g1, rfl⟩ := ic_at hu1
    have e2 := pos_test hj g1
    clear hu1 g1
    have HE := h! (show decide (y < x) = decide (j < pos a.ac x) from e2)
    clear e2
    rcases hd : decide (y < x) with _ | _
    all_goals
     have hdI := hd
     simp only [decide_eq_true_eq, decide_eq_false_iff_not] at hdI
     go_wp2_with fail
     
     go_meet
     case rel => exact ⟨by rw [← HE.out, hd], ST.out⟩
   ·have e1 : decide ((j : Int) < (k : Int)) = false := by simp; omega
    have HE := h! (show decide (j < pos a.ac x) = false by simp; omega)
    go_wp2_with fail
    
    go_meet
    case rel => exact ⟨by rw [HE.out], ST.out⟩
  case rest =>
   clear s0 s1 s2 s3 s4 s5 s6
   clear ST
   obtain ⟨rfl, hst⟩ := hcut
   have ST := h! hst
   clear hst
   by_cases hlt : j < pos a.ac x
   ·have hd : decide (j < pos a.ac x) = true := by simpa using hlt
    rw [hd]
    go_wp2_with fail
    go_roundw
    case rel => exact ⟨j + 1, by go_num, by omega, ST⟩
    case measure => simp [intOf]; omega
   ·have hd : decide (j < pos a.ac x) = false := by simpa using hlt
    rw [hd]
    have hjp : pos a.ac x = j := by omega
    clear hd hlt
    obtain ⟨⟨hcp1, hcp2⟩, hcp3, hcp4⟩ := HCP.out
    have l3 := L3.out
    have l2 := L2.out
    have ha0 : (0 : Int) ≤ (j : Int) := by omega
    have ha2 : j ≤ f := by omega
    have ha1 : (j : Int) ≤ (f : Int) := by omega
    have ha4 : j ≤ k := by omega
    have ha3 : (j : Int) ≤ (k : Int) := by omega
    have ha5 : (k : Int) ≤ (f : Int) := by omega
    have hz9 : j + 1 + (k - j) = k + 1 := by omega
    clear l2 l3 hcp1 hcp2 hcp3 hcp4
    obtain ⟨⟨s0, s1, s2, s3, s4, s5, s6⟩, _⟩ := (XT.out.below ST.out.1 XT.out.lt).seven
    have HFR : Hid (RdG wc 1 C j (ic (a.ac.take j))) := h! (by rw [show ic (a.ac.take j) = (ic a.ac).take j by simp [ic, List.map_take]]; exact ((R3.out _ (bmore BT.out ST.out.1 n!)).front ha4).g)
    have HN := h! (World.ownsRow_nil wc (wt.heap.size + 1) 3 1)
    have hroom := ST.out.room
    go_upto_region 12 with (at_builtin; refine wpList_append_g _ rfl _ _ 22 rfl (wt.heap.size + 1) 3 i0 (.int .i64 0) 1 8 Tryz.underlying22 hi hz0 hz1 hz2 rfl (by omega) (.slice none 0 0) _ _ rfl HN.out C j f (ic (a.ac.take j)) rfl HFR.out (ic_one _) (by unfold maxLen; omega) (by omega) hroom ?_; intro v2 w4 o4 g4 ob4; simp only [Nat.zero_add, List.nil_append] at o4; obtain ⟨A7, c7, rfl, _, _⟩ := own_form o4; obtain ⟨_, z0, z1, z2, z3, z4, z5, z6⟩ := (ST.out.grown g4 (by intro g hg; simp [Value.ownBlock] at hg)).2.seven)
    clear s0 s1 s2 s3 s4 s5 s6 z0 z1 z2 z3 z4 z5 z6 HN HFR ob4 hroom
    have S4 : Hid (AftSt wt (w4.setCell ⟨wt.heap.size, 6, none⟩ (.slice A7 j c7)) #[.int .u8 a.ph, .int .i64 a.ba, .slice A1 a.ms.length c1, .string a.wi, .string a.va, .slice B1' a.ps.length d1, .slice A7 j c7]) := h! (by simpa using (ST.out.grown g4 (by intro g hg; simp [Value.ownBlock] at hg)).set 6 (.slice A7 j c7))
    have O7 := h! (own_set1 (k := 6) (g := wt.heap.size) o4 (by omega) (.slice A7 j c7))
    clear o4 g4 ST
    generalize w4.setCell ⟨wt.heap.size, 6, none⟩ (.slice A7 j c7) = w5 at S4 O7 ⊢
    obtain ⟨⟨t0, t1, t2, t3, t4, t5, t6⟩, tz0, tz1, tz2, tz3, tz4, tz5, tz6⟩ := S4.out.2.seven
    have O7a := h! (own_below3 O7.out ((Below.refl w5.heap.size w5).alloc n! (.cells #[.int .i64 x] 3)))
    have HR2 := h! (rdG_box (s := 1) (n := 1) (Box.new w5 3 #[.int .i64 x]) rfl rfl)
    have hroom : wt.heap.size + 1 ≤ (w5.alloc (.cells #[.int .i64 x] 3)).heap.size := (S4.out.alloc _).room
    go_upto_region 13 with (at_builtin; refine wpList_append_g _ rfl _ _ 22 rfl (wt.heap.size + 1) 3 i0 (.int .i64 0) 1 8 Tryz.underlying22 hi hz0 hz1 hz2 rfl (by omega) (.slice A7 j c7) j (ic (a.ac.take j)) rfl O7a.out (some ⟨w5.heap.size, 0, none⟩) 1 1 [.int .i64 x] rfl HR2.out (by intro u hu; simp at hu; first | (subst hu; rfl) | (rcases hu with rfl | rfl | rfl <;> rfl)) (by unfold maxLen; omega) (by omega) hroom ?_; intro v3 w6 o6 g6 ob6; obtain ⟨A8, c8, rfl, _, _⟩ := own_form o6; obtain ⟨_, z0, z1, z2, z3, z4, z5, z6⟩ := ((S4.out.alloc _).grown g6 (AftSt.row O7a.out)).2.seven)
    clear t0 t1 t2 t3 t4 t5 t6 tz0 tz1 tz2 tz3 tz4 tz5 tz6 z0 z1 z2 z3 z4 z5 z6 HR2 ob6 hroom
    have S6 : Hid (AftSt wt (w6.setCell ⟨wt.heap.size, 6, none⟩ (.slice A8 (j + 1) c8)) #[.int .u8 a.ph, .int .i64 a.ba, .slice A1 a.ms.length c1, .string a.wi, .string a.va, .slice B1' a.ps.length d1, .slice A8 (j + 1) c8]) := h! (by simpa using ((S4.out.alloc _).grown g6 (AftSt.row O7a.out)).set 6 (.slice A8 (j + 1) c8))
    have O8 := h! (own_set1 (k := 6) (g := wt.heap.size) o6 (by omega) (.slice A8 (j + 1) c8))
    clear o6 g6 S4 O7 O7a
    generalize w6.setCell ⟨wt.heap.size, 6, none⟩ (.slice A8 (j + 1) c8) = w7 at S6 O8 ⊢
    obtain ⟨⟨t0, t1, t2, t3, t4, t5, t6⟩, tz0, tz1, tz2, tz3, tz4, tz5, tz6⟩ := S6.out.2.seven
    obtain ⟨⟨s0, s1, s2, s3, s4, s5, s6⟩, _⟩ := (XT.out.below S6.out.1 XT.out.lt).seven
    have mixed : Tryz.prog.follows Departure.mixedOrders = true := by kernel_rfl
    have HR3 : Hid ((j < f → RdG w7 1 (C.map (fun x => x.add (j))) (k - j) (ic (a.ac.drop j))) ∧ (f = j → RdG w7 1 C (k - j) (ic (a.ac.drop j)))) := h! (by
     have hd := ((R3.out _ (bmore BT.out S6.out.1 n!)).cutm ha4).g
     exact ⟨fun _ => by rw [show ic (a.ac.drop j) = (ic a.ac).drop j by simp [ic, List.map_drop]]; exact hd, fun e => ⟨by rw [show ic (a.ac.drop j) = (ic a.ac).drop j by simp [ic, List.map_drop]]; exact hd.1, fun h => by omega⟩⟩)
    have hroom : wt.heap.size + 1 ≤ w7.heap.size := S6.out.room
    have HJP := h! hjp
    clear hjp
    go_cut [72] (fun v wx => ∃ A9 c9, v = .slice A9 (k + 1) c9 ∧ AftSt wt wx #[.int .u8 a.ph, .int .i64 a.ba, .slice A1 a.ms.length c1, .string a.wi, .string a.va, .slice B1' a.ps.length d1, .slice A9 (k + 1) c9] ∧ wx.ownsRow (wt.heap.size + 1) 3 1 (.slice A9 (k + 1) c9) (k + 1) (ic (AM.insI a.ac x)))
    case first =>
     rcases Nat.lt_or_ge j f with hl9 | hg9
     ·have hfj : ¬ f = j := by omega
      have hfk : ¬ j = f := by omega
      have hr3 := HR3.out.1
      go_region_law_o (refine step_append_g rfl (.tmp 67) (.tmp 71) 22 rfl (wt.heap.size + 1) 3 i0 (.int .i64 0) 1 8 Tryz.underlying22 hi hz0 hz1 hz2 rfl (by omega) (.slice A8 (j + 1) c8) (j + 1) _ (by simp [Act.eval, Act.put]) O8.out (C.map (fun x => x.add (j))) (k - j) (f - j) (ic (a.ac.drop j)) (by simp [Act.eval, Act.put]) (hr3 hl9) (ic_one _) (by unfold maxLen; omega) (by omega) hroom ?_; intro v9 w9 o9 g9; rw [hz9] at o9; obtain ⟨A9, c9, rfl, _, _⟩ := own_form o9; obtain ⟨_, z0, z1, z2, z3, z4, z5, z6⟩ := (S6.out.drewN 1 |>.grown g9 (AftSt.row O8.out)).2.seven)
      all_goals
       have o9' := own_set1 (k := 6) (g := wt.heap.size) o9 (by omega) (.slice A9 (k + 1) c9)
       rw [← HJP.out, ic_split] at o9'
       have s9 : AftSt wt (w9.setCell ⟨wt.heap.size, 6, none⟩ (.slice A9 (k + 1) c9)) #[.int .u8 a.ph, .int .i64 a.ba, .slice A1 a.ms.length c1, .string a.wi, .string a.va, .slice B1' a.ps.length d1, .slice A9 (k + 1) c9] := by simpa using ((S6.out.drewN 1).grown g9 (AftSt.row O8.out)).set 6 (.slice A9 (k + 1) c9)
       have S9 := h! s9
       have O9 := h! o9'
       clear s9 o9' o9 g9
       go_wp2_with fail
       go_meet
       case rel => exact ⟨A9, c9, rfl, S9.out, O9.out⟩
     ·obtain rfl : j = f := by omega
      have hr3b := HR3.out.2
      go_region_law_o (refine step_append_g rfl (.tmp 67) (.tmp 71) 22 rfl (wt.heap.size + 1) 3 i0 (.int .i64 0) 1 8 Tryz.underlying22 hi hz0 hz1 hz2 rfl (by omega) (.slice A8 (j + 1) c8) (j + 1) _ (by simp [Act.eval, Act.put]) O8.out C (k - j) (j - j) (ic (a.ac.drop j)) (by simp [Act.eval, Act.put]) (hr3b rfl) (ic_one _) (by unfold maxLen; omega) (by omega) hroom ?_; intro v9 w9 o9 g9; rw [hz9] at o9; obtain ⟨A9, c9, rfl, _, _⟩ := own_form o9; obtain ⟨_, z0, z1, z2, z3, z4, z5, z6⟩ := (S6.out.drewN 1 |>.grown g9 (AftSt.row O8.out)).2.seven)
      all_goals
       have o9' := own_set1 (k := 6) (g := wt.heap.size) o9 (by omega) (.slice A9 (k + 1) c9)
       rw [← HJP.out, ic_split] at o9'
       have s9 : AftSt wt (w9.setCell ⟨wt.heap.size, 6, none⟩ (.slice A9 (k + 1) c9)) #[.int .u8 a.ph, .int .i64 a.ba, .slice A1 a.ms.length c1, .string a.wi, .string a.va, .slice B1' a.ps.length d1, .slice A9 (k + 1) c9] := by simpa using ((S6.out.drewN 1).grown g9 (AftSt.row O8.out)).set 6 (.slice A9 (k + 1) c9)
       have S9 := h! s9
       have O9 := h! o9'
       clear s9 o9' o9 g9
       go_wp2_with fail
       go_meet
       case rel => exact ⟨A9, c9, rfl, S9.out, O9.out⟩
    case rest =>
     clear t0 t1 t2 t3 t4 t5 t6 tz0 tz1 tz2 tz3 tz4 tz5 tz6
     clear s0 s1 s2 s3 s4 s5 s6
     clear S6 O8 HR3 hroom
     obtain ⟨A9, c9, rfl, s9, o9⟩ := hcut
     have S9 := h! s9
     have O9 := h! o9
     clear s9 o9
     obtain ⟨⟨s0, s1, s2, s3, s4, s5, s6⟩, _⟩ := (XT.out.below S9.out.1 XT.out.lt).seven
     obtain ⟨⟨t0, t1, t2, t3, t4, t5, t6⟩, tz0, tz1, tz2, tz3, tz4, tz5, tz6⟩ := S9.out.2.seven
     go_wp2_with fail
     refine (HC.out _ (bmore BT.out S9.out.1 n!) _ _ (Rd.of_own O9.out)).mono ?_
     rintro e wh ⟨rfl, rfl⟩
     clear s0 s1 s2 s3 s4 s5 s6
     clear t0 t1 t2 t3 t4 t5 t6 tz0 tz1 tz2 tz3 tz4 tz5 tz6
     cases mo
     ·have zf := ZT.out.below S9.out.1 ZT.out.lt
      have HQX := h! (zf.put7 (.int .u8 a.ph) (.int .i64 a.ba) (.slice A1 a.ms.length c1) (.string a.wi) (.string a.va) (.slice B1' a.ps.length d1) (.slice A9 (k + 1) c9))
      have HQB := h! (below_put7 (bmore BT.out S9.out.1 n!) (g := w.heap.size + 1) (by omega) (.int .u8 a.ph) (.int .i64 a.ba) (.slice A1 a.ms.length c1) (.string a.wi) (.string a.va) (.slice B1' a.ps.length d1) (.slice A9 (k + 1) c9))
      have K1 := h! (own_put7 (own_below3 O1.out S9.out.1) (g := w.heap.size + 1) (by first | omega | (have := ZT.out.lt; omega)) (.int .u8 a.ph) (.int .i64 a.ba) (.slice A1 a.ms.length c1) (.string a.wi) (.string a.va) (.slice B1' a.ps.length d1) (.slice A9 (k + 1) c9))
      have K2 := h! (own_put7 (own_below3 O2.out S9.out.1) (g := w.heap.size + 1) (by first | omega | (have := ZT.out.lt; omega)) (.int .u8 a.ph) (.int .i64 a.ba) (.slice A1 a.ms.length c1) (.string a.wi) (.string a.va) (.slice B1' a.ps.length d1) (.slice A9 (k + 1) c9))
      have K3 := h! (own_put7 O9.out (g := w.heap.size + 1) (by first | omega | (have := ZT.out.lt; omega)) (.int .u8 a.ph) (.int .i64 a.ba) (.slice A1 a.ms.length c1) (.string a.wi) (.string a.va) (.slice B1' a.ps.length d1) (.slice A9 (k + 1) c9))
      unfold put7 at HQX HQB K1 K2 K3
      obtain ⟨_, z0, z1, z2, z3, z4, z5, z6⟩ := zf.seven
      obtain ⟨⟨t0, t1, t2, t3, t4, t5, t6⟩, tz0, tz1, tz2, tz3, tz4, tz5, tz6⟩ := S9.out.2.seven
      clear zf
      go_wp2_with fail
      obtain ⟨⟨dd0, dd1, dd2, dd3, dd4, dd5, dd6⟩, _⟩ := HQX.out.seven
      have m1 := own_base K1.out (show w.heap.size ≤ _ by first | omega | (have := ZT.out.lt; omega))
      have m2 := own_base K2.out (show w.heap.size ≤ _ by first | omega | (have := ZT.out.lt; omega))
      have m3 := own_base K3.out (show w.heap.size ≤ _ by first | omega | (have := ZT.out.lt; omega))
      exact bodyPost_ret (v := .tuple #[.agg #[.int .u8 a.ph, .int .i64 a.ba, .slice A1 a.ms.length c1, .string a.wi, .string a.va, .slice B1' a.ps.length d1, .slice A9 (k + 1) c9], .int .i64 0]) (by simp [results, Tryz.results61, go_sem, dd0, dd1, dd2, dd3, dd4, dd5, dd6]) rfl ⟨_, rfl, ⟨_, _, _, rfl, m1, m2, (by rw [insI_len]; rw [L3.out]; exact m3)⟩, HQB.out⟩
     ·obtain ⟨⟨t0, t1, t2, t3, t4, t5, t6⟩, tz0, tz1, tz2, tz3, tz4, tz5, tz6⟩ := S9.out.2.seven
      go_upto_region 16 with (fail)
      clear t0 t1 t2 t3 t4 t5 t6 tz0 tz1 tz2 tz3 tz4 tz5 tz6
      have S10 : Hid (AftSt wt (wc.setCell ⟨wt.heap.size, 0, none⟩ (.int .u8 3)) #[.int .u8 3, .int .i64 a.ba, .slice A1 a.ms.length c1, .string a.wi, .string a.va, .slice B1' a.ps.length d1, .slice A9 (k + 1) c9]) := h! (by simpa using S9.out.set 0 (.int .u8 3))
      have O10 := h! (own_set1 (k := 0) (g := wt.heap.size) O9.out (by omega) (.int .u8 3))
      generalize wc.setCell ⟨wt.heap.size, 0, none⟩ (.int .u8 3) = wd at S10 O10 ⊢
      have zf := ZT.out.below S10.out.1 ZT.out.lt
      have HQX := h! (zf.put7 (.int .u8 3) (.int .i64 a.ba) (.slice A1 a.ms.length c1) (.string a.wi) (.string a.va) (.slice B1' a.ps.length d1) (.slice A9 (k + 1) c9))
      have HQB := h! (below_put7 (bmore BT.out S10.out.1 n!) (g := w.heap.size + 1) (by omega) (.int .u8 3) (.int .i64 a.ba) (.slice A1 a.ms.length c1) (.string a.wi) (.string a.va) (.slice B1' a.ps.length d1) (.slice A9 (k + 1) c9))
      have K1 := h! (own_put7 (own_below3 O1.out S10.out.1) (g := w.heap.size + 1) (by first | omega | (have := ZT.out.lt; omega)) (.int .u8 3) (.int .i64 a.ba) (.slice A1 a.ms.length c1) (.string a.wi) (.string a.va) (.slice B1' a.ps.length d1) (.slice A9 (k + 1) c9))
      have K2 := h! (own_put7 (own_below3 O2.out S10.out.1) (g := w.heap.size + 1) (by first | omega | (have := ZT.out.lt; omega)) (.int .u8 3) (.int .i64 a.ba) (.slice A1 a.ms.length c1) (.string a.wi) (.string a.va) (.slice B1' a.ps.length d1) (.slice A9 (k + 1) c9))
      have K3 := h! (own_put7 O10.out (g := w.heap.size + 1) (by first | omega | (have := ZT.out.lt; omega)) (.int .u8 3) (.int .i64 a.ba) (.slice A1 a.ms.length c1) (.string a.wi) (.string a.va) (.slice B1' a.ps.length d1) (.slice A9 (k + 1) c9))
      unfold put7 at HQX HQB K1 K2 K3
      obtain ⟨_, z0, z1, z2, z3, z4, z5, z6⟩ := zf.seven
      obtain ⟨⟨t0, t1, t2, t3, t4, t5, t6⟩, tz0, tz1, tz2, tz3, tz4, tz5, tz6⟩ := S10.out.2.seven
      clear zf
      go_wp2_with fail
      obtain ⟨⟨dd0, dd1, dd2, dd3, dd4, dd5, dd6⟩, _⟩ := HQX.out.seven
      have m1 := own_base K1.out (show w.heap.size ≤ _ by first | omega | (have := ZT.out.lt; omega))
      have m2 := own_base K2.out (show w.heap.size ≤ _ by first | omega | (have := ZT.out.lt; omega))
      have m3 := own_base K3.out (show w.heap.size ≤ _ by first | omega | (have := ZT.out.lt; omega))
      exact bodyPost_ret (v := .tuple #[.agg #[.int .u8 3, .int .i64 a.ba, .slice A1 a.ms.length c1, .string a.wi, .string a.va, .slice B1' a.ps.length d1, .slice A9 (k + 1) c9], .int .i64 0]) (by simp [results, Tryz.results61, go_sem, dd0, dd1, dd2, dd3, dd4, dd5, dd6]) rfl ⟨_, rfl, ⟨_, _, _, rfl, m1, m2, (by rw [insI_len]; rw [L3.out]; exact m3)⟩, HQB.out⟩
end Go.Proofs.YtiiobafcgdelmaaGreat
