/- Contracts of functions of towncrier, layers 5 to 9, and of the document's own ones, part 38; each as its theorem says. -/
import Derived.Test.YtiiobafcgdelmaaGreatL01
import Derived.Test.YtiiobafcgdelmaaGreatL31
import Derived.Test.YtiiobafcgdelmaaGreatL03
import Derived.BigQuiet
import Derived.Test.YtiiobafcgdelmaaGreatL35
import Derived.Test.YtiiobafcgdelmaaGreatL36
import Derived.Test.YtiiobafcgdelmaaGreatL37
set_option linter.unusedVariables false
set_option linter.unusedSimpArgs false
namespace Go.Proofs.YtiiobafcgdelmaaGreat
open Go.RowKit Go.Shelf
set_option maxRecDepth 100000 in
set_option maxHeartbeats 4000000 in
theorem rprom_new (v : Value) (a : AM.At) (b : Int) (p : AM.Pr) (w : World) (H : AtIs w v a) (F : Fit a) (FP : FitP p) (HCap : AtCap v) (hm : AM.may a = true) (hc : a.ph = 1) (hb : b = a.ba) (hh : QM.has a.ms p.n = true) (ho : AM.okP b p = true) (hy : QM.has (AM.nodes a.ps) p.n = false) (mo : Bool) (hmo : AM.most a.ms (AM.nodes (AM.insP a.ps p)) = mo) :
  Calls Tryz.prog 87 #[v, .int .i64 b, .agg #[.int .i64 p.n, .int .i64 p.b, .string p.v]] w (ErrRet ⟨cond mo 2 a.ph, a.ba, a.ms, a.wi, cond mo (AM.best (AM.insP a.ps p) a.wi) a.va, AM.insP a.ps p, a.ac⟩ 0 w) := by
 have H' := h! H
 have F' := h! F
 obtain ⟨A, n, c, B, m, d, C, k, f, rfl, h1, h2, h3⟩ := H
 obtain ⟨W0, hW0⟩ : ∃ W0, W0 = ((w.alloc (.cells #[.int .u8 a.ph, .int .i64 a.ba, .slice A n c, .string a.wi, .string a.va, .slice B m d, .slice C k f] 57)).alloc (.cells #[.int .i64 p.n, .int .i64 p.b, .string p.v] 86)).alloc (.cells #[.int .u8 0, .int .i64 0, .slice none 0 0, .string ⟨#[]⟩, .string ⟨#[]⟩, .slice none 0 0, .slice none 0 0] 57) := ⟨_, rfl⟩
 have B0 := h! (show Below w.heap.size w W0 by rw [hW0]; exact (((Below.refl _ _).alloc n! _).alloc (by simp) _).alloc (by simp; omega) _)
 have X0 := h! (show Box W0 w.heap.size 57 #[.int .u8 a.ph, .int .i64 a.ba, .slice A n c, .string a.wi, .string a.va, .slice B m d, .slice C k f] by rw [hW0]; exact ((Box.new _ _ _).alloc _).alloc _)
 have Z0 := h! (show Box W0 (w.heap.size + 1 + 1) 57 #[.int .u8 0, .int .i64 0, .slice none 0 0, .string ⟨#[]⟩, .string ⟨#[]⟩, .slice none 0 0, .slice none 0 0] by rw [hW0]; exact Box.new_at _ (by simp))
 have Y0 := h! (show Box W0 (w.heap.size + 1) 86 #[.int .i64 p.n, .int .i64 p.b, .string p.v] by rw [hW0]; exact (Box.new_at _ (by simp)).alloc _)
 have HM := h! (rmay_any _ a W0 (H'.out.below B0.out) F'.out)
 have q1 : (a.ph != 1) = false := by simpa using hc
 have q2 : (b != a.ba) = false := by simpa using hb
 have HH := h! (fun (W : World) (hb : Below w.heap.size w W) => rHas_any A n c a.ms p.n W (h1.below hb) (by have := (AtIs.fit_n h1 h2 h3 F).1; omega))
 rw [hh] at HH
 have HTW := h! (fun (W : World) (hb : Below w.heap.size w W) => rtwin_any _ a W (H'.out.below hb) F'.out)
 have HMP := h! (fun (W : World) => mayPromise_any b p W FP)
 rw [ho] at HMP
 obtain ⟨hcap1, hcap2⟩ := HCap _ _ _ _ _ _ _ _ _ _ _ _ _ rfl
 clear HCap
 obtain ⟨fn, fm, fk⟩ := AtIs.fit_n h1 h2 h3 F
 have l3 : a.ac.length = k := by have := h3.1; rwa [ic_length] at this
 have l2 : a.ps.length = m := h2.1
 have hk := okL_rise (may_ok hm (by omega))
 obtain ⟨hk1, hk2, hk3, hk4, hk5⟩ := hk
 have HN := h! (fun (W : World) (hb : Below w.heap.size w W) => rnodes_any B m d a.ps W (h2.below hb) fm)
 have HA := h! (fun (W : World) (D : Option Addr) (r : Nat) (hd : Rd W D m (ic (AM.nodes a.ps))) => rHas_any D m r (AM.nodes a.ps) p.n W hd (by omega))
 rw [hy] at HA
 obtain ⟨j0, hji, hy0, hy1, hy2⟩ := info_parts info_apr
 have R2 := h! (fun (W : World) (hb : Below w.heap.size w W) => h2.below hb)
 have HPL := h! (show pos (AM.nodes a.ps) p.n ≤ m by have := pos_le (AM.nodes a.ps) p.n; rw [AM.nodes_length] at this; omega)
 have l1 : a.ms.length = n := by have := h1.1; rwa [ic_length] at this
 have HC : Hid (∀ W, Below w.heap.size w W → ∀ (D : Option Addr) (r : Nat), Rd W D (m + 1) (ic (AM.nodes (AM.insP a.ps p))) → Calls Tryz.prog 72 #[.slice A n c, .slice D (m + 1) r] W (fun e w' => e = .returned (.bool mo) ∧ W = w')) := h! fun W hb D r hd => by have := rCounts_any A n c a.ms D (m + 1) r (AM.nodes (AM.insP a.ps p)) W (h1.below hb) (by omega) hd (by omega); rw [← l1] at this; rw [← l1, ← hmo]; exact this
 have HN2 := h! (fun (W : World) (D : Option Addr) (r : Nat) (hr : RdP W D (m + 1) (AM.insP a.ps p)) => rnodes_any D (m + 1) r (AM.insP a.ps p) W hr (by omega))
 have HBe := h! (fun (W : World) (D : Option Addr) (r : Nat) (hr : RdP W D (m + 1) (AM.insP a.ps p)) => rbest_any D (m + 1) r (AM.insP a.ps p) a.wi W hr (by omega))
 generalize AM.best (AM.insP a.ps p) a.wi = be at HBe ⊢
 have L3 := h! l3
 have L2 := h! l2
 have HCP := h! (And.intro hcap1 hcap2)
 clear hmo hc hb hh hy l1 l2 l3 hcap1 hcap2 ho hk1 hk2 hk3 hk4 hk5
 rw [hm] at HM
 clear h1 h2 h3
 go_enter Tryz.func87, Tryz.ntmps87
 go_wp2_with fail
 rw [← hW0]
 clear hW0
 refine HM.out.mono ?_
 rintro e w1 ⟨rfl, hb1⟩
 clear HM
 have X1 := h! (X0.out.below hb1 X0.out.lt)
 have Z1 := h! (Z0.out.below hb1 Z0.out.lt)
 have B1 := h! (bmore B0.out hb1 n!)
 have Y1 := h! (Y0.out.below hb1 Y0.out.lt)
 clear X0 Z0 B0 hb1 Y0
 obtain ⟨⟨s0, s1, s2, s3, s4, s5, s6⟩, _⟩ := X1.out.seven
 obtain ⟨p0, p1, p2, _⟩ := Y1.out.three
 go_wp2_with fail
 refine (HH.out _ B1.out).mono ?_
 rintro e wh ⟨rfl, rfl⟩
 clear HH
 clear s0 s1 s2 s3 s4 s5 s6 p0 p1 p2
 obtain ⟨p0, p1, p2, _⟩ := Y1.out.three
 go_wp2_with fail
 refine (HMP.out _).mono ?_
 rintro e w2 ⟨rfl, hb2⟩
 clear HMP p0 p1 p2
 have X2 := h! (X1.out.below hb2 X1.out.lt)
 have Z2 := h! (Z1.out.below hb2 Z1.out.lt)
 have Y2 := h! (Y1.out.below hb2 Y1.out.lt)
 have B2 := h! (bmore B1.out hb2 n!)
 clear X1 Z1 Y1 B1 hb2
 obtain ⟨⟨s0, s1, s2, s3, s4, s5, s6⟩, _⟩ := X2.out.seven
 go_wp2_with fail
 refine (HTW.out _ B2.out).mono ?_
 rintro e wt ⟨vt, rfl, hnew, hbt⟩
 clear HTW s0 s1 s2 s3 s4 s5 s6
 obtain ⟨A1, c1, B1', d1, C1, f1, rfl, o1, o2, o3, dj⟩ := hnew
 obtain ⟨NB, hNB⟩ : ∃ NB, NB = w2.heap.size := ⟨_, rfl⟩
 rw [← hNB] at o1 o2 o3
 have hgN : w.heap.size + 1 + 1 < NB := by rw [hNB]; exact Z2.out.lt
 have XT := h! (X2.out.below hbt X2.out.lt)
 have ZT := h! (Z2.out.below hbt Z2.out.lt)
 have BT := h! (bmore B2.out hbt n!)
 have O1 := h! o1
 have O2 := h! o2
 have O3 := h! o3
 have ST := h! (AftSt.start wt #[.int .u8 a.ph, .int .i64 a.ba, .slice A1 a.ms.length c1, .string a.wi, .string a.va, .slice B1' a.ps.length d1, .slice C1 a.ac.length f1])
 have YT := h! (Y2.out.below hbt Y2.out.lt)
 clear o1 o2 o3 dj hbt X2 Z2 B2 Y2
 go_upto_region 8 with (fail)
 generalize wt.alloc (.cells #[.int .u8 a.ph, .int .i64 a.ba, .slice A1 a.ms.length c1, .string a.wi, .string a.va, .slice B1' a.ps.length d1, .slice C1 a.ac.length f1] 57) = u at ST ⊢
 go_cut [44] (fun v wx => v = .bool false ∧ AftSt wt wx #[.int .u8 a.ph, .int .i64 a.ba, .slice A1 a.ms.length c1, .string a.wi, .string a.va, .slice B1' a.ps.length d1, .slice C1 a.ac.length f1])
 case first =>
  have bd : AftSt wt u.drew #[.int .u8 a.ph, .int .i64 a.ba, .slice A1 a.ms.length c1, .string a.wi, .string a.va, .slice B1' a.ps.length d1, .slice C1 a.ac.length f1] := ST.out.drewN 1
  have CS : Hid (∀ w', AftSt wt w' #[.int .u8 a.ph, .int .i64 a.ba, .slice A1 a.ms.length c1, .string a.wi, .string a.va, .slice B1' a.ps.length d1, .slice C1 a.ac.length f1] → w'.cell? ⟨w.heap.size, 5, none⟩ = some (.slice B m d) ∧ w'.cell? ⟨w.heap.size + 1, 0, none⟩ = some (.int .i64 p.n)) := h! (fun W h => ⟨(XT.out.below h.1 XT.out.lt).cell 5, (YT.out.below h.1 YT.out.lt).cell 0⟩)
  refine wp_region_held_drew (S := fun w' => w'.cell? ⟨w.heap.size, 5, none⟩ = some (.slice B m d) ∧ w'.cell? ⟨w.heap.size + 1, 0, none⟩ = some (.int .i64 p.n)) (by kernel_rfl) (CS.out _ bd) (fun hHeld => ?_)
  refine qT 0 ?_
  try simp only [Act.put, qq]
  refine qT 1 ?_
  try simp only [Act.put, qq]
  refine qT 3 ?_
  try simp only [Act.put, qq]
  refine qT 4 ?_
  try simp only [Act.put, qq]
  refine qR 2 fun K hK => ?_
  go_simp
  refine (HN.out _ (bmore BT.out bd.1 n!)).mono ?_
  rintro e wb ⟨A', c', rfl, ho, hb⟩
  have bd2 := bd.below hb
  have hrd := Rd.of_own ho
  refine hK.out _ _ (CS.out _ bd2) (fun hHeld => ?_)
  clear hK
  try simp only [Act.put, qq]
  refine qR 5 fun K hK => ?_
  go_simp
  refine (HA.out _ _ _ hrd).mono ?_
  rintro e wh ⟨rfl, rfl⟩
  refine hK.out _ _ (CS.out _ bd2) (fun hHeld => ?_)
  clear hK
  try simp only [Act.put, qq]
  refine wpAnyH_done (by kernel_rfl) ?_ _
  go_wp2_with fail
  go_meet
  case rel => exact ⟨rfl, bd2⟩
 case rest =>
  clear ST HN HA
  obtain ⟨rfl, hst⟩ := hcut
  have ST := h! hst
  clear hst
  go_wp2_with fail
  go_loopw [9] (fun i wr => ∃ j : Nat, i = .int .i64 j ∧ j ≤ pos (AM.nodes a.ps) p.n ∧ Hid (AftSt wt wr #[.int .u8 a.ph, .int .i64 a.ba, .slice A1 a.ms.length c1, .string a.wi, .string a.va, .slice B1' a.ps.length d1, .slice C1 a.ac.length f1])) (fun i _ => m - (intOf i).toNat)
  case atStart => exact ⟨0, rfl, by omega, ST⟩
  case round =>
   clear ST
   obtain ⟨j, rfl, hj, ST⟩ := hrel
   have hpl := HPL.out
   obtain ⟨⟨s0, s1, s2, s3, s4, s5, s6⟩, _⟩ := (XT.out.below ST.out.1 XT.out.lt).seven
   obtain ⟨p0, p1, p2, _⟩ := (YT.out.below ST.out.1 YT.out.lt).three
   go_upto_region 11 with (fail)
   go_cut [61] (fun v wx => v = .bool (decide (j < pos (AM.nodes a.ps) p.n)) ∧ AftSt wt wx #[.int .u8 a.ph, .int .i64 a.ba, .slice A1 a.ms.length c1, .string a.wi, .string a.va, .slice B1' a.ps.length d1, .slice C1 a.ac.length f1])
   case first =>
    by_cases hlt : j < m
    ·have e1 : decide ((j : Int) < (m : Int)) = true := by simp; omega
     have i0' : (0 : Int) ≤ (j : Int) := by omega
     have i1' : (j : Int) < (m : Int) := by omega
     obtain ⟨bl, o, y', rfl, _, g1, c0', c1', c2'⟩ := (R2.out _ (bmore BT.out ST.out.1 n!)).at_ hlt
     obtain ⟨y, yb, yv⟩ := y'
     have e2 := pos_test hj (nodes_at g1)
     simp only at c0' c1' c2' e2
     clear g1
     have HE := h! (show decide (y < p.n) = decide (j < pos (AM.nodes a.ps) p.n) from e2)
     clear e2
     rcases hd : decide (y < p.n) with _ | _
     all_goals
      have hdI := hd
      simp only [decide_eq_true_eq, decide_eq_false_iff_not] at hdI
      go_wp2_with fail
      go_quiet (fail)
      go_wp2_with fail
      go_meet
      case rel => exact ⟨by rw [← HE.out, hd], ST.out.drewN _⟩
    ·have e1 : decide ((j : Int) < (m : Int)) = false := by simp; omega
     have HE := h! (show decide (j < pos (AM.nodes a.ps) p.n) = false by simp; omega)
     go_wp2_with fail
     go_quiet (fail)
     go_wp2_with fail
     go_meet
     case rel => exact ⟨by rw [HE.out], ST.out.drewN _⟩
   case rest =>
    clear s0 s1 s2 s3 s4 s5 s6 p0 p1 p2
    clear ST
    obtain ⟨rfl, hst⟩ := hcut
    have ST := h! hst
    clear hst
    by_cases hlt : j < pos (AM.nodes a.ps) p.n
    ·have hd : decide (j < pos (AM.nodes a.ps) p.n) = true := by simpa using hlt
     rw [hd]
     go_wp2_with fail
     go_roundw
     case rel => exact ⟨j + 1, by go_num, by omega, ST⟩
     case measure => simp [intOf]; omega
    ·have hd : decide (j < pos (AM.nodes a.ps) p.n) = false := by simpa using hlt
     rw [hd]
     have hjp : pos (AM.nodes a.ps) p.n = j := by omega
     clear hd hlt
     obtain ⟨⟨hcp1, hcp2⟩, hcp3, hcp4⟩ := HCP.out
     have l3 := L3.out
     have l2 := L2.out
     have ha0 : (0 : Int) ≤ (j : Int) := by omega
     have ha2 : j ≤ d := by omega
     have ha1 : (j : Int) ≤ (d : Int) := by omega
     have ha4 : j ≤ m := by omega
     have ha3 : (j : Int) ≤ (m : Int) := by omega
     have ha5 : (m : Int) ≤ (d : Int) := by omega
     have hz9 : j + 1 + (m - j) = m + 1 := by omega
     clear l2 l3 hcp1 hcp2 hcp3 hcp4
     obtain ⟨⟨s0, s1, s2, s3, s4, s5, s6⟩, _⟩ := (XT.out.below ST.out.1 XT.out.lt).seven
     have HFR : Hid (RdG wc 3 B j (pp (a.ps.take j))) := h! (((R2.out _ (bmore BT.out ST.out.1 n!)).front ha4).g)
     have HN := h! (World.ownsRow_nil wc (wt.heap.size + 1) 86 3)
     have hroom := ST.out.room
     go_upto_region 14 with (at_builtin; refine wpList_append_g _ rfl _ _ 55 rfl (wt.heap.size + 1) 86 j0 _ 3 32 Tryz.underlying55 hji hy0 hy1 hy2 rfl (by omega) (.slice none 0 0) _ _ rfl HN.out B j d (pp (a.ps.take j)) rfl HFR.out (pp_one _) (by unfold maxLen; omega) (by omega) hroom ?_; intro v2 w4 o4 g4 ob4; simp only [Nat.zero_add, List.nil_append] at o4; obtain ⟨A7, c7, rfl, _, _⟩ := own_form o4; obtain ⟨_, z0, z1, z2, z3, z4, z5, z6⟩ := (ST.out.grown g4 (by intro g hg; simp [Value.ownBlock] at hg)).2.seven)
     clear s0 s1 s2 s3 s4 s5 s6 z0 z1 z2 z3 z4 z5 z6 HN HFR ob4 hroom
     have S4 : Hid (AftSt wt (w4.setCell ⟨wt.heap.size, 5, none⟩ (.slice A7 j c7)) #[.int .u8 a.ph, .int .i64 a.ba, .slice A1 a.ms.length c1, .string a.wi, .string a.va, .slice A7 j c7, .slice C1 a.ac.length f1]) := h! (by simpa using (ST.out.grown g4 (by intro g hg; simp [Value.ownBlock] at hg)).set 5 (.slice A7 j c7))
     have O7 := h! (own_set1 (k := 5) (g := wt.heap.size) o4 (by omega) (.slice A7 j c7))
     clear o4 g4 ST
     generalize w4.setCell ⟨wt.heap.size, 5, none⟩ (.slice A7 j c7) = w5 at S4 O7 ⊢
     obtain ⟨⟨t0, t1, t2, t3, t4, t5, t6⟩, tz0, tz1, tz2, tz3, tz4, tz5, tz6⟩ := S4.out.2.seven
     obtain ⟨p0, p1, p2, _⟩ := (YT.out.below S4.out.1 YT.out.lt).three
     have O7a := h! (own_below3 O7.out ((Below.refl w5.heap.size w5).alloc n! (.cells #[.int .i64 p.n, .int .i64 p.b, .string p.v] 86)))
     have HR2 := h! (rdG_box (s := 3) (n := 1) (Box.new w5 86 #[.int .i64 p.n, .int .i64 p.b, .string p.v]) rfl rfl)
     have hroom : wt.heap.size + 1 ≤ (w5.alloc (.cells #[.int .i64 p.n, .int .i64 p.b, .string p.v] 86)).heap.size := (S4.out.alloc _).room
     go_upto_region 15 with (at_builtin; refine wpList_append_g _ rfl _ _ 55 rfl (wt.heap.size + 1) 86 j0 _ 3 32 Tryz.underlying55 hji hy0 hy1 hy2 rfl (by omega) (.slice A7 j c7) j (pp (a.ps.take j)) rfl O7a.out (some ⟨w5.heap.size, 0, none⟩) 1 1 [.int .i64 p.n, .int .i64 p.b, .string p.v] rfl HR2.out (by intro u hu; simp at hu; first | (subst hu; rfl) | (rcases hu with rfl | rfl | rfl <;> rfl)) (by unfold maxLen; omega) (by omega) hroom ?_; intro v3 w6 o6 g6 ob6; obtain ⟨A8, c8, rfl, _, _⟩ := own_form o6; obtain ⟨_, z0, z1, z2, z3, z4, z5, z6⟩ := ((S4.out.alloc _).grown g6 (AftSt.row O7a.out)).2.seven)
     clear t0 t1 t2 t3 t4 t5 t6 tz0 tz1 tz2 tz3 tz4 tz5 tz6 z0 z1 z2 z3 z4 z5 z6 HR2 ob6 hroom p0 p1 p2
     have S6 : Hid (AftSt wt (w6.setCell ⟨wt.heap.size, 5, none⟩ (.slice A8 (j + 1) c8)) #[.int .u8 a.ph, .int .i64 a.ba, .slice A1 a.ms.length c1, .string a.wi, .string a.va, .slice A8 (j + 1) c8, .slice C1 a.ac.length f1]) := h! (by simpa using ((S4.out.alloc _).grown g6 (AftSt.row O7a.out)).set 5 (.slice A8 (j + 1) c8))
     have O8 := h! (own_set1 (k := 5) (g := wt.heap.size) o6 (by omega) (.slice A8 (j + 1) c8))
     clear o6 g6 S4 O7 O7a
     generalize w6.setCell ⟨wt.heap.size, 5, none⟩ (.slice A8 (j + 1) c8) = w7 at S6 O8 ⊢
     obtain ⟨⟨t0, t1, t2, t3, t4, t5, t6⟩, tz0, tz1, tz2, tz3, tz4, tz5, tz6⟩ := S6.out.2.seven
     obtain ⟨⟨s0, s1, s2, s3, s4, s5, s6⟩, _⟩ := (XT.out.below S6.out.1 XT.out.lt).seven
     have mixed : Tryz.prog.follows Departure.mixedOrders = true := by kernel_rfl
     have HR3 : Hid ((j < d → RdG w7 3 (B.map (fun x => x.add (j * 3))) (m - j) (pp (a.ps.drop j))) ∧ (d = j → RdG w7 3 B (m - j) (pp (a.ps.drop j)))) := h! (by
      have hd := ((R2.out _ (bmore BT.out S6.out.1 n!)).cut ha4).g
      exact ⟨fun _ => by exact hd, fun e => ⟨by exact hd.1, fun h => by omega⟩⟩)
     have hroom : wt.heap.size + 1 ≤ w7.heap.size := S6.out.room
     have HJP := h! hjp
     clear hjp
     go_cut [82] (fun v wx => ∃ A9 c9, v = .slice A9 (m + 1) c9 ∧ AftSt wt wx #[.int .u8 a.ph, .int .i64 a.ba, .slice A1 a.ms.length c1, .string a.wi, .string a.va, .slice A9 (m + 1) c9, .slice C1 a.ac.length f1] ∧ wx.ownsRow (wt.heap.size + 1) 86 3 (.slice A9 (m + 1) c9) (m + 1) (pp (AM.insP a.ps p)))
     case first =>
      rcases Nat.lt_or_ge j d with hl9 | hg9
      ·have hfj : ¬ d = j := by omega
       have hfk : ¬ j = d := by omega
       have hr3 := HR3.out.1
       go_region_law_o (refine step_append_g rfl (.tmp 77) (.tmp 81) 55 rfl (wt.heap.size + 1) 86 j0 _ 3 32 Tryz.underlying55 hji hy0 hy1 hy2 rfl (by omega) (.slice A8 (j + 1) c8) (j + 1) _ (by simp [Act.eval, Act.put]) O8.out (B.map (fun x => x.add (j * 3))) (m - j) (d - j) (pp (a.ps.drop j)) (by simp [Act.eval, Act.put]) (hr3 hl9) (pp_one _) (by unfold maxLen; omega) (by omega) hroom ?_; intro v9 w9 o9 g9; rw [hz9] at o9; obtain ⟨A9, c9, rfl, _, _⟩ := own_form o9; obtain ⟨_, z0, z1, z2, z3, z4, z5, z6⟩ := (S6.out.drewN 1 |>.grown g9 (AftSt.row O8.out)).2.seven)
       all_goals
        have o9' := own_set1 (k := 5) (g := wt.heap.size) o9 (by omega) (.slice A9 (m + 1) c9)
        rw [← HJP.out, pp_split] at o9'
        have s9 : AftSt wt (w9.setCell ⟨wt.heap.size, 5, none⟩ (.slice A9 (m + 1) c9)) #[.int .u8 a.ph, .int .i64 a.ba, .slice A1 a.ms.length c1, .string a.wi, .string a.va, .slice A9 (m + 1) c9, .slice C1 a.ac.length f1] := by simpa using ((S6.out.drewN 1).grown g9 (AftSt.row O8.out)).set 5 (.slice A9 (m + 1) c9)
        have S9 := h! s9
        have O9 := h! o9'
        clear s9 o9' o9 g9
        go_wp2_with fail
        go_meet
        case rel => exact ⟨A9, c9, rfl, S9.out, O9.out⟩
      ·obtain rfl : j = d := by omega
       have hr3b := HR3.out.2
       go_region_law_o (refine step_append_g rfl (.tmp 77) (.tmp 81) 55 rfl (wt.heap.size + 1) 86 j0 _ 3 32 Tryz.underlying55 hji hy0 hy1 hy2 rfl (by omega) (.slice A8 (j + 1) c8) (j + 1) _ (by simp [Act.eval, Act.put]) O8.out B (m - j) (j - j) (pp (a.ps.drop j)) (by simp [Act.eval, Act.put]) (hr3b rfl) (pp_one _) (by unfold maxLen; omega) (by omega) hroom ?_; intro v9 w9 o9 g9; rw [hz9] at o9; obtain ⟨A9, c9, rfl, _, _⟩ := own_form o9; obtain ⟨_, z0, z1, z2, z3, z4, z5, z6⟩ := (S6.out.drewN 1 |>.grown g9 (AftSt.row O8.out)).2.seven)
       all_goals
        have o9' := own_set1 (k := 5) (g := wt.heap.size) o9 (by omega) (.slice A9 (m + 1) c9)
        rw [← HJP.out, pp_split] at o9'
        have s9 : AftSt wt (w9.setCell ⟨wt.heap.size, 5, none⟩ (.slice A9 (m + 1) c9)) #[.int .u8 a.ph, .int .i64 a.ba, .slice A1 a.ms.length c1, .string a.wi, .string a.va, .slice A9 (m + 1) c9, .slice C1 a.ac.length f1] := by simpa using ((S6.out.drewN 1).grown g9 (AftSt.row O8.out)).set 5 (.slice A9 (m + 1) c9)
        have S9 := h! s9
        have O9 := h! o9'
        clear s9 o9' o9 g9
        go_wp2_with fail
        go_meet
        case rel => exact ⟨A9, c9, rfl, S9.out, O9.out⟩
     case rest =>
      clear t0 t1 t2 t3 t4 t5 t6 tz0 tz1 tz2 tz3 tz4 tz5 tz6
      clear s0 s1 s2 s3 s4 s5 s6
      clear S6 O8 HR3 hroom
      obtain ⟨A9, c9, rfl, s9, o9⟩ := hcut
      have S9 := h! s9
      have O9 := h! o9
      clear s9 o9
      go_upto_region 16 with (fail)
      go_cut [89] (fun v wx => v = .bool mo ∧ AftSt wt wx #[.int .u8 a.ph, .int .i64 a.ba, .slice A1 a.ms.length c1, .string a.wi, .string a.va, .slice A9 (m + 1) c9, .slice C1 a.ac.length f1] ∧ wx.ownsRow (wt.heap.size + 1) 86 3 (.slice A9 (m + 1) c9) (m + 1) (pp (AM.insP a.ps p)))
      case first =>
       have bd : AftSt wt wc.drew #[.int .u8 a.ph, .int .i64 a.ba, .slice A1 a.ms.length c1, .string a.wi, .string a.va, .slice A9 (m + 1) c9, .slice C1 a.ac.length f1] := S9.out.drewN 1
       have CS : Hid (∀ w', AftSt wt w' #[.int .u8 a.ph, .int .i64 a.ba, .slice A1 a.ms.length c1, .string a.wi, .string a.va, .slice A9 (m + 1) c9, .slice C1 a.ac.length f1] → w'.cell? ⟨w.heap.size, 2, none⟩ = some (.slice A n c) ∧ w'.cell? ⟨wt.heap.size, 5, none⟩ = some (.slice A9 (m + 1) c9)) := h! (fun W h => ⟨(XT.out.below h.1 XT.out.lt).cell 2, h.2.cell 5⟩)
       refine wp_region_held_drew (S := fun w' => w'.cell? ⟨w.heap.size, 2, none⟩ = some (.slice A n c) ∧ w'.cell? ⟨wt.heap.size, 5, none⟩ = some (.slice A9 (m + 1) c9)) (by kernel_rfl) (CS.out _ bd) (fun hHeld => ?_)
       refine qT 0 ?_
       try simp only [Act.put, qq]
       refine qT 1 ?_
       try simp only [Act.put, qq]
       refine qT 2 ?_
       try simp only [Act.put, qq]
       refine qT 3 ?_
       try simp only [Act.put, qq]
       refine qR 4 fun K hK => ?_
       go_simp
       refine (HN2.out _ _ _ (RdP.of_own (own_below3 O9.out ((Below.refl _ _).drew)))).mono ?_
       rintro e wb ⟨A', c', rfl, ho, hb⟩
       have bd2 := bd.below hb
       have hrd := Rd.of_own ho
       refine hK.out _ _ (CS.out _ bd2) (fun hHeld => ?_)
       clear hK
       try simp only [Act.put, qq]
       refine qR 5 fun K hK => ?_
       go_simp
       refine (HC.out _ (bmore BT.out bd2.1 n!) _ _ hrd).mono ?_
       rintro e wh ⟨rfl, rfl⟩
       refine hK.out _ _ (CS.out _ bd2) (fun hHeld => ?_)
       clear hK
       try simp only [Act.put, qq]
       refine wpAnyH_done (by kernel_rfl) ?_ _
       go_wp2_with fail
       go_meet
       case rel => exact ⟨rfl, bd2, own_below3 (own_below3 O9.out ((Below.refl _ _).drew)) hb⟩
      case rest =>
       clear S9 O9 HN2 HC
       obtain ⟨rfl, s9, o9⟩ := hcut
       have S9 := h! s9
       have O9 := h! o9
       clear s9 o9
       cases mo
       ·have zf := ZT.out.below S9.out.1 ZT.out.lt
        have HQX := h! (zf.put7 (.int .u8 a.ph) (.int .i64 a.ba) (.slice A1 a.ms.length c1) (.string a.wi) (.string a.va) (.slice A9 (m + 1) c9) (.slice C1 a.ac.length f1))
        have HQB := h! (below_put7 (bmore BT.out S9.out.1 n!) (g := w.heap.size + 1 + 1) (by omega) (.int .u8 a.ph) (.int .i64 a.ba) (.slice A1 a.ms.length c1) (.string a.wi) (.string a.va) (.slice A9 (m + 1) c9) (.slice C1 a.ac.length f1))
        have K1 := h! (own_put7 (own_below3 O1.out S9.out.1) (g := w.heap.size + 1 + 1) (by first | omega | (have := ZT.out.lt; omega)) (.int .u8 a.ph) (.int .i64 a.ba) (.slice A1 a.ms.length c1) (.string a.wi) (.string a.va) (.slice A9 (m + 1) c9) (.slice C1 a.ac.length f1))
        have K2 := h! (own_put7 O9.out (g := w.heap.size + 1 + 1) (by first | omega | (have := ZT.out.lt; omega)) (.int .u8 a.ph) (.int .i64 a.ba) (.slice A1 a.ms.length c1) (.string a.wi) (.string a.va) (.slice A9 (m + 1) c9) (.slice C1 a.ac.length f1))
        have K3 := h! (own_put7 (own_below3 O3.out S9.out.1) (g := w.heap.size + 1 + 1) (by first | omega | (have := ZT.out.lt; omega)) (.int .u8 a.ph) (.int .i64 a.ba) (.slice A1 a.ms.length c1) (.string a.wi) (.string a.va) (.slice A9 (m + 1) c9) (.slice C1 a.ac.length f1))
        unfold put7 at HQX HQB K1 K2 K3
        obtain ⟨_, z0, z1, z2, z3, z4, z5, z6⟩ := zf.seven
        obtain ⟨⟨t0, t1, t2, t3, t4, t5, t6⟩, tz0, tz1, tz2, tz3, tz4, tz5, tz6⟩ := S9.out.2.seven
        clear zf
        go_wp2_with fail
        obtain ⟨⟨dd0, dd1, dd2, dd3, dd4, dd5, dd6⟩, _⟩ := HQX.out.seven
        have m1 := own_base K1.out (show w.heap.size ≤ _ by first | omega | (have := ZT.out.lt; omega))
        have m2 := own_base K2.out (show w.heap.size ≤ _ by first | omega | (have := ZT.out.lt; omega))
        have m3 := own_base K3.out (show w.heap.size ≤ _ by first | omega | (have := ZT.out.lt; omega))
        exact bodyPost_ret (v := .tuple #[.agg #[.int .u8 a.ph, .int .i64 a.ba, .slice A1 a.ms.length c1, .string a.wi, .string a.va, .slice A9 (m + 1) c9, .slice C1 a.ac.length f1], .int .i64 0]) (by simp [results, Tryz.results87, go_sem, dd0, dd1, dd2, dd3, dd4, dd5, dd6]) rfl ⟨_, rfl, ⟨_, _, _, rfl, m1, (by rw [insP_len]; rw [L2.out]; exact m2), m3⟩, HQB.out⟩
       ·obtain ⟨⟨t0, t1, t2, t3, t4, t5, t6⟩, tz0, tz1, tz2, tz3, tz4, tz5, tz6⟩ := S9.out.2.seven
        go_upto_region 18 with (fail)
        clear t0 t1 t2 t3 t4 t5 t6 tz0 tz1 tz2 tz3 tz4 tz5 tz6
        have S10 : Hid (AftSt wt (wc.setCell ⟨wt.heap.size, 0, none⟩ (.int .u8 2)) #[.int .u8 2, .int .i64 a.ba, .slice A1 a.ms.length c1, .string a.wi, .string a.va, .slice A9 (m + 1) c9, .slice C1 a.ac.length f1]) := h! (by simpa using S9.out.set 0 (.int .u8 2))
        have O10 := h! (own_set1 (k := 0) (g := wt.heap.size) O9.out (by omega) (.int .u8 2))
        generalize wc.setCell ⟨wt.heap.size, 0, none⟩ (.int .u8 2) = wd at S10 O10 ⊢
        obtain ⟨⟨t0, t1, t2, t3, t4, t5, t6⟩, tz0, tz1, tz2, tz3, tz4, tz5, tz6⟩ := S10.out.2.seven
        go_wp2_with fail
        refine (HBe.out _ _ _ (RdP.of_own O10.out)).mono ?_
        rintro e wh ⟨rfl, rfl⟩
        go_upto_region 19 with (fail)
        clear t0 t1 t2 t3 t4 t5 t6 tz0 tz1 tz2 tz3 tz4 tz5 tz6
        have S11 : Hid (AftSt wt (wd.setCell ⟨wt.heap.size, 4, none⟩ (.string be)) #[.int .u8 2, .int .i64 a.ba, .slice A1 a.ms.length c1, .string a.wi, .string be, .slice A9 (m + 1) c9, .slice C1 a.ac.length f1]) := h! (by simpa using S10.out.set 4 (.string be))
        have O11 := h! (own_set1 (k := 4) (g := wt.heap.size) O10.out (by omega) (.string be))
        generalize wd.setCell ⟨wt.heap.size, 4, none⟩ (.string be) = we at S11 O11 ⊢
        have zf := ZT.out.below S11.out.1 ZT.out.lt
        have HQX := h! (zf.put7 (.int .u8 2) (.int .i64 a.ba) (.slice A1 a.ms.length c1) (.string a.wi) (.string be) (.slice A9 (m + 1) c9) (.slice C1 a.ac.length f1))
        have HQB := h! (below_put7 (bmore BT.out S11.out.1 n!) (g := w.heap.size + 1 + 1) (by omega) (.int .u8 2) (.int .i64 a.ba) (.slice A1 a.ms.length c1) (.string a.wi) (.string be) (.slice A9 (m + 1) c9) (.slice C1 a.ac.length f1))
        have K1 := h! (own_put7 (own_below3 O1.out S11.out.1) (g := w.heap.size + 1 + 1) (by first | omega | (have := ZT.out.lt; omega)) (.int .u8 2) (.int .i64 a.ba) (.slice A1 a.ms.length c1) (.string a.wi) (.string be) (.slice A9 (m + 1) c9) (.slice C1 a.ac.length f1))
        have K2 := h! (own_put7 O11.out (g := w.heap.size + 1 + 1) (by first | omega | (have := ZT.out.lt; omega)) (.int .u8 2) (.int .i64 a.ba) (.slice A1 a.ms.length c1) (.string a.wi) (.string be) (.slice A9 (m + 1) c9) (.slice C1 a.ac.length f1))
        have K3 := h! (own_put7 (own_below3 O3.out S11.out.1) (g := w.heap.size + 1 + 1) (by first | omega | (have := ZT.out.lt; omega)) (.int .u8 2) (.int .i64 a.ba) (.slice A1 a.ms.length c1) (.string a.wi) (.string be) (.slice A9 (m + 1) c9) (.slice C1 a.ac.length f1))
        unfold put7 at HQX HQB K1 K2 K3
        obtain ⟨_, z0, z1, z2, z3, z4, z5, z6⟩ := zf.seven
        obtain ⟨⟨t0, t1, t2, t3, t4, t5, t6⟩, tz0, tz1, tz2, tz3, tz4, tz5, tz6⟩ := S11.out.2.seven
        clear zf
        go_wp2_with fail
        obtain ⟨⟨dd0, dd1, dd2, dd3, dd4, dd5, dd6⟩, _⟩ := HQX.out.seven
        have m1 := own_base K1.out (show w.heap.size ≤ _ by first | omega | (have := ZT.out.lt; omega))
        have m2 := own_base K2.out (show w.heap.size ≤ _ by first | omega | (have := ZT.out.lt; omega))
        have m3 := own_base K3.out (show w.heap.size ≤ _ by first | omega | (have := ZT.out.lt; omega))
        exact bodyPost_ret (v := .tuple #[.agg #[.int .u8 2, .int .i64 a.ba, .slice A1 a.ms.length c1, .string a.wi, .string be, .slice A9 (m + 1) c9, .slice C1 a.ac.length f1], .int .i64 0]) (by simp [results, Tryz.results87, go_sem, dd0, dd1, dd2, dd3, dd4, dd5, dd6]) rfl ⟨_, rfl, ⟨_, _, _, rfl, m1, (by rw [insP_len]; rw [L2.out]; exact m2), m3⟩, HQB.out⟩
end Go.Proofs.YtiiobafcgdelmaaGreat
namespace Go.Proofs.YtiiobafcgdelmaaGreat
open Go.RowKit
theorem rprom_any (v : Value) (a : AM.At) (b : Int) (p : AM.Pr) (w : World) (H : AtIs w v a) (F : Fit a) (FP : FitP p) (HCap : AtCap v) :
  Calls Tryz.prog 87 #[v, .int .i64 b, .agg #[.int .i64 p.n, .int .i64 p.b, .string p.v]] w (ErrRet (AM.prom a b p) (AM.errP a b p) w) := by
 rcases hm : AM.may a with _ | _
 ·have he : AM.errP a b p = 8 := by unfold AM.errP; rw [if_pos hm]
  have hp : AM.prom a b p = AM.zero := by unfold AM.prom; rw [he]; rfl
  rw [he, hp]
  exact rprom_bad v a b p w H F FP hm
 ·have e0 : ∀ y z : Int, (if AM.may a = false then y else z) = z := fun y z => by rw [hm]; rfl
  have hnone : ¬ (a.ph = 1 ∧ b = a.ba ∧ QM.has a.ms p.n = true) → AM.errP a b p = 6 ∧ AM.prom a b p = AM.zero := fun hn => by
   have he : AM.errP a b p = 6 := by unfold AM.errP; rw [e0, if_pos hn]
   exact ⟨he, by unfold AM.prom; rw [he]; rfl⟩
  by_cases hc : a.ph = 1
  rotate_left
  ·obtain ⟨he, hp⟩ := hnone (fun h => hc h.1)
   rw [he, hp]
   exact rprom_none1 v a b p w H F FP hm hc
  by_cases hb : b = a.ba
  rotate_left
  ·obtain ⟨he, hp⟩ := hnone (fun h => hb h.2.1)
   rw [he, hp]
   exact rprom_none2 v a b p w H F FP hm hc hb
  rcases hh : QM.has a.ms p.n with _ | _
  ·obtain ⟨he, hp⟩ := hnone (fun h => by rw [hh] at h; exact absurd h.2.2 (by decide))
   rw [he, hp]
   exact rprom_none3 v a b p w H F FP hm hc hb hh
  have hy : a.ph = 1 ∧ b = a.ba ∧ QM.has a.ms p.n = true := ⟨hc, hb, hh⟩
  rcases ho : AM.okP b p with _ | _
  ·have he : AM.errP a b p = 8 := by unfold AM.errP; rw [e0, if_neg (not_not_intro hy), if_pos ho]
   have hp : AM.prom a b p = AM.zero := by unfold AM.prom; rw [he]; rfl
   rw [he, hp]
   exact rprom_bad2 v a b p w H F FP hm hc hb hh ho
  have he : AM.errP a b p = 0 := AM.errP_mk hm hc hb hh ho
  obtain ⟨_, _, _, k⟩ := AM.may_pos hm (by omega)
  rw [if_pos hc] at k
  obtain ⟨k1, k2, k3⟩ := k
  rw [he, AM.prom_eq he]
  rcases hq : QM.has (AM.nodes a.ps) p.n with _ | _
  ·have ha : AM.addPs a.ps p = AM.insP a.ps p := by unfold AM.addPs; rw [hq]; rfl
   rw [ha]
   have := rprom_new v a b p w H F FP HCap hm hc hb hh ho hq _ rfl
   rw [k2, k3, hc] at this
   rcases hmo : AM.most a.ms (AM.nodes (AM.insP a.ps p)) with _ | _
   ·rw [hmo] at this; exact this
   ·rw [hmo] at this; exact this
  ·have ha : AM.addPs a.ps p = a.ps := by unfold AM.addPs; rw [hq]; rfl
   rw [ha, k1, if_neg (by decide), show (⟨1, a.ba, a.ms, a.wi, .empty, a.ps, []⟩ : AM.At) = a by rw [← hc, ← k2, ← k3]]
   exact rprom_has v a b p w H F FP HCap hm hc hb hh ho hq
theorem raccd_any (v : Value) (a : AM.At) (b x : Int) (w : World) (H : AtIs w v a) (F : Fit a) (HCap : AtCap v) :
  Calls Tryz.prog 61 #[v, .int .i64 b, .int .i64 x] w (ErrRet (AM.acc a b x) (AM.errA a b x) w) := by
 rcases hm : AM.may a with _ | _
 ·have he : AM.errA a b x = 8 := by unfold AM.errA; rw [if_pos hm]
  have hp : AM.acc a b x = AM.zero := by unfold AM.acc; rw [he]; rfl
  rw [he, hp]
  exact racc_bad v a b x w H F hm
 ·have e0 : ∀ y z : Int, (if AM.may a = false then y else z) = z := fun y z => by rw [hm]; rfl
  have hnone : ¬ (2 ≤ a.ph ∧ b = a.ba ∧ QM.has a.ms x = true) → AM.errA a b x = 6 ∧ AM.acc a b x = AM.zero := fun hn => by
   have he : AM.errA a b x = 6 := by unfold AM.errA; rw [e0, if_pos hn]
   exact ⟨he, by unfold AM.acc; rw [he]; rfl⟩
  by_cases hc : 2 ≤ a.ph
  rotate_left
  ·obtain ⟨he, hp⟩ := hnone (fun h => hc h.1)
   rw [he, hp]
   exact racc_none1 v a b x w H F hm hc
  by_cases hb : b = a.ba
  rotate_left
  ·obtain ⟨he, hp⟩ := hnone (fun h => hb h.2.1)
   rw [he, hp]
   exact racc_none2 v a b x w H F hm hc hb
  rcases hh : QM.has a.ms x with _ | _
  ·obtain ⟨he, hp⟩ := hnone (fun h => by rw [hh] at h; exact absurd h.2.2 (by decide))
   rw [he, hp]
   exact racc_none3 v a b x w H F hm hc hb hh
  have he : AM.errA a b x = 0 := AM.errA_mk hm hc hb hh
  obtain ⟨p1, p3, _, k⟩ := AM.may_pos hm (by omega)
  rw [if_neg (by omega)] at k
  rw [he, AM.acc_eq he]
  rcases hq : QM.has a.ac x with _ | _
  ·have ha : AM.addIs a.ac x = AM.insI a.ac x := by unfold AM.addIs; rw [hq]; rfl
   have hsub : AM.most a.ms a.ac = true → AM.most a.ms (AM.insI a.ac x) = true := fun h => by
    rw [← ha]; exact AM.most_sub (fun y hy => (AM.mem_addIs _ _ _).2 (.inr hy)) h
   rw [ha]
   have := racc_new v a b x w H F HCap hm hc hb hh hq _ rfl
   rcases hmo : AM.most a.ms (AM.insI a.ac x) with _ | _
   ·have h2 : a.ph = 2 := by
     rcases (show a.ph = 2 ∨ a.ph = 3 by omega) with h | h
     ·exact h
     ·rw [k.2.2, h, hmo] at hsub
      exact absurd (hsub (by decide)) (by decide)
    rw [hmo] at this
    rw [if_neg (by decide), ← h2]
    exact this
   ·rw [hmo] at this; exact this
  ·have ha : AM.addIs a.ac x = a.ac := by unfold AM.addIs; rw [hq]; rfl
   have hph : (if AM.most a.ms a.ac = true then (3 : Int) else 2) = a.ph := by
    rw [k.2.2]
    by_cases h : a.ph = 3
    ·rw [if_pos (by simpa using h)]; omega
    ·rw [if_neg (by simpa using h)]; omega
   rw [ha, hph]
   exact racc_has v a b x w H F HCap hm hc hb hh hq
end Go.Proofs.YtiiobafcgdelmaaGreat
