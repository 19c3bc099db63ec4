/- Contracts of functions of towncrier, layers 5 to 9, and of the document's own ones, part 36; each as its theorem says. -/
import Derived.Test.YtiiobafcgdelmaaGreatL01
import Derived.Test.YtiiobafcgdelmaaGreatL31
import Derived.Test.YtiiobafcgdelmaaGreatL03
import Derived.BigQuiet
set_option linter.unusedVariables false
set_option linter.unusedSimpArgs false
namespace Go.Proofs.YtiiobafcgdelmaaGreat
open Go.RowKit Go.Shelf
set_option maxRecDepth 100000 in
set_option maxHeartbeats 4000000 in
theorem racc_has (v : Value) (a : AM.At) (b x : Int) (w : World) (H : AtIs w v a) (F : Fit a) (HCap : AtCap v) (hm : AM.may a = true) (hc : 2 ≤ a.ph) (hb : b = a.ba) (hh : QM.has a.ms x = true) (hy : QM.has a.ac x = true) :
  Calls Tryz.prog 61 #[v, .int .i64 b, .int .i64 x] w (ErrRet a 0 w) := by
 have H' := h! H
 have F' := h! F
 obtain ⟨A, n, c, B, m, d, C, k, f, rfl, h1, h2, h3⟩ := H
 obtain ⟨W0, hW0⟩ : ∃ W0, W0 = (w.alloc (.cells #[.int .u8 a.ph, .int .i64 a.ba, .slice A n c, .string a.wi, .string a.va, .slice B m d, .slice C k f] 57)).alloc (.cells #[.int .u8 0, .int .i64 0, .slice none 0 0, .string ⟨#[]⟩, .string ⟨#[]⟩, .slice none 0 0, .slice none 0 0] 57) := ⟨_, rfl⟩
 have B0 := h! (show Below w.heap.size w W0 by rw [hW0]; exact ((Below.refl _ _).alloc n! _).alloc (by simp) _)
 have X0 := h! (show Box W0 w.heap.size 57 #[.int .u8 a.ph, .int .i64 a.ba, .slice A n c, .string a.wi, .string a.va, .slice B m d, .slice C k f] by rw [hW0]; exact (Box.new _ _ _).alloc _)
 have Z0 := h! (show Box W0 (w.heap.size + 1) 57 #[.int .u8 0, .int .i64 0, .slice none 0 0, .string ⟨#[]⟩, .string ⟨#[]⟩, .slice none 0 0, .slice none 0 0] by rw [hW0]; exact Box.new_at _ (by simp))
 have HM := h! (rmay_any _ a W0 (H'.out.below B0.out) F'.out)
 have q1 : decide (a.ph < 2) = false := by simp; omega
 have q2 : (b != a.ba) = false := by simpa using hb
 have HH := h! (fun (W : World) (hb : Below w.heap.size w W) => rHas_any A n c a.ms x W (h1.below hb) (by have := (AtIs.fit_n h1 h2 h3 F).1; omega))
 rw [hh] at HH
 have HTW := h! (fun (W : World) (hb : Below w.heap.size w W) => rtwin_any _ a W (H'.out.below hb) F'.out)
 obtain ⟨hcap1, hcap2⟩ := HCap _ _ _ _ _ _ _ _ _ _ _ _ _ rfl
 clear HCap
 obtain ⟨fn, fm, fk⟩ := AtIs.fit_n h1 h2 h3 F
 have l3 : a.ac.length = k := by have := h3.1; rwa [ic_length] at this
 have l2 : a.ps.length = m := h2.1
 have HA := h! (fun (W : World) (hb : Below w.heap.size w W) => rHas_any C k f a.ac x W (h3.below hb) (by omega))
 rw [hy] at HA
 clear hc hb hh hy l2 l3 hcap1 hcap2
 rw [hm] at HM
 clear h1 h2 h3
 go_enter Tryz.func61, Tryz.ntmps61
 go_wp2_with fail
 rw [← hW0]
 clear hW0
 refine HM.out.mono ?_
 rintro e w1 ⟨rfl, hb1⟩
 clear HM
 have X1 := h! (X0.out.below hb1 X0.out.lt)
 have Z1 := h! (Z0.out.below hb1 Z0.out.lt)
 have B1 := h! (bmore B0.out hb1 n!)
 clear X0 Z0 B0 hb1
 obtain ⟨⟨s0, s1, s2, s3, s4, s5, s6⟩, _⟩ := X1.out.seven
 go_wp2_with fail
 refine (HH.out _ B1.out).mono ?_
 rintro e wh ⟨rfl, rfl⟩
 clear HH
 go_wp2_with fail
 refine (HTW.out _ B1.out).mono ?_
 rintro e wt ⟨vt, rfl, hnew, hbt⟩
 clear HTW s0 s1 s2 s3 s4 s5 s6
 obtain ⟨A1, c1, B1', d1, C1, f1, rfl, o1, o2, o3, dj⟩ := hnew
 obtain ⟨NB, hNB⟩ : ∃ NB, NB = w1.heap.size := ⟨_, rfl⟩
 rw [← hNB] at o1 o2 o3
 have hgN : w.heap.size + 1 < NB := by rw [hNB]; exact Z1.out.lt
 have XT := h! (X1.out.below hbt X1.out.lt)
 have ZT := h! (Z1.out.below hbt Z1.out.lt)
 have BT := h! (bmore B1.out hbt n!)
 have O1 := h! o1
 have O2 := h! o2
 have O3 := h! o3
 have ST := h! (AftSt.start wt #[.int .u8 a.ph, .int .i64 a.ba, .slice A1 a.ms.length c1, .string a.wi, .string a.va, .slice B1' a.ps.length d1, .slice C1 a.ac.length f1])
 clear o1 o2 o3 dj hbt X1 Z1 B1
 go_upto_region 6 with (fail)
 generalize wt.alloc (.cells #[.int .u8 a.ph, .int .i64 a.ba, .slice A1 a.ms.length c1, .string a.wi, .string a.va, .slice B1' a.ps.length d1, .slice C1 a.ac.length f1] 57) = u at ST ⊢
 obtain ⟨⟨s0, s1, s2, s3, s4, s5, s6⟩, _⟩ := (XT.out.below ST.out.1 XT.out.lt).seven
 go_wp2_with fail
 refine (HA.out _ (bmore BT.out ST.out.1 n!)).mono ?_
 rintro e wh ⟨rfl, rfl⟩
 clear s0 s1 s2 s3 s4 s5 s6
 have zf := ZT.out.below ST.out.1 ZT.out.lt
 have HQX := h! (zf.put7 (.int .u8 a.ph) (.int .i64 a.ba) (.slice A1 a.ms.length c1) (.string a.wi) (.string a.va) (.slice B1' a.ps.length d1) (.slice C1 a.ac.length f1))
 have HQB := h! (below_put7 (bmore BT.out ST.out.1 n!) (g := w.heap.size + 1) (by omega) (.int .u8 a.ph) (.int .i64 a.ba) (.slice A1 a.ms.length c1) (.string a.wi) (.string a.va) (.slice B1' a.ps.length d1) (.slice C1 a.ac.length f1))
 have K1 := h! (own_put7 (own_below3 O1.out ST.out.1) (g := w.heap.size + 1) (by first | omega | (have := ZT.out.lt; omega)) (.int .u8 a.ph) (.int .i64 a.ba) (.slice A1 a.ms.length c1) (.string a.wi) (.string a.va) (.slice B1' a.ps.length d1) (.slice C1 a.ac.length f1))
 have K2 := h! (own_put7 (own_below3 O2.out ST.out.1) (g := w.heap.size + 1) (by first | omega | (have := ZT.out.lt; omega)) (.int .u8 a.ph) (.int .i64 a.ba) (.slice A1 a.ms.length c1) (.string a.wi) (.string a.va) (.slice B1' a.ps.length d1) (.slice C1 a.ac.length f1))
 have K3 := h! (own_put7 (own_below3 O3.out ST.out.1) (g := w.heap.size + 1) (by first | omega | (have := ZT.out.lt; omega)) (.int .u8 a.ph) (.int .i64 a.ba) (.slice A1 a.ms.length c1) (.string a.wi) (.string a.va) (.slice B1' a.ps.length d1) (.slice C1 a.ac.length f1))
 unfold put7 at HQX HQB K1 K2 K3
 obtain ⟨_, z0, z1, z2, z3, z4, z5, z6⟩ := zf.seven
 obtain ⟨⟨t0, t1, t2, t3, t4, t5, t6⟩, tz0, tz1, tz2, tz3, tz4, tz5, tz6⟩ := ST.out.2.seven
 clear zf
 go_wp2_with fail
 obtain ⟨⟨dd0, dd1, dd2, dd3, dd4, dd5, dd6⟩, _⟩ := HQX.out.seven
 have m1 := own_base K1.out (show w.heap.size ≤ _ by first | omega | (have := ZT.out.lt; omega))
 have m2 := own_base K2.out (show w.heap.size ≤ _ by first | omega | (have := ZT.out.lt; omega))
 have m3 := own_base K3.out (show w.heap.size ≤ _ by first | omega | (have := ZT.out.lt; omega))
 exact bodyPost_ret (v := .tuple #[.agg #[.int .u8 a.ph, .int .i64 a.ba, .slice A1 a.ms.length c1, .string a.wi, .string a.va, .slice B1' a.ps.length d1, .slice C1 a.ac.length f1], .int .i64 0]) (by simp [results, Tryz.results61, go_sem, dd0, dd1, dd2, dd3, dd4, dd5, dd6]) rfl ⟨_, rfl, ⟨_, _, _, rfl, m1, m2, m3⟩, HQB.out⟩
set_option maxRecDepth 100000 in
set_option maxHeartbeats 4000000 in
theorem rprom_has (v : Value) (a : AM.At) (b : Int) (p : AM.Pr) (w : World) (H : AtIs w v a) (F : Fit a) (FP : FitP p) (HCap : AtCap v) (hm : AM.may a = true) (hc : a.ph = 1) (hb : b = a.ba) (hh : QM.has a.ms p.n = true) (ho : AM.okP b p = true) (hy : QM.has (AM.nodes a.ps) p.n = true) :
  Calls Tryz.prog 87 #[v, .int .i64 b, .agg #[.int .i64 p.n, .int .i64 p.b, .string p.v]] w (ErrRet a 0 w) := by
 have H' := h! H
 have F' := h! F
 obtain ⟨A, n, c, B, m, d, C, k, f, rfl, h1, h2, h3⟩ := H
 obtain ⟨W0, hW0⟩ : ∃ W0, W0 = ((w.alloc (.cells #[.int .u8 a.ph, .int .i64 a.ba, .slice A n c, .string a.wi, .string a.va, .slice B m d, .slice C k f] 57)).alloc (.cells #[.int .i64 p.n, .int .i64 p.b, .string p.v] 86)).alloc (.cells #[.int .u8 0, .int .i64 0, .slice none 0 0, .string ⟨#[]⟩, .string ⟨#[]⟩, .slice none 0 0, .slice none 0 0] 57) := ⟨_, rfl⟩
 have B0 := h! (show Below w.heap.size w W0 by rw [hW0]; exact (((Below.refl _ _).alloc n! _).alloc (by simp) _).alloc (by simp; omega) _)
 have X0 := h! (show Box W0 w.heap.size 57 #[.int .u8 a.ph, .int .i64 a.ba, .slice A n c, .string a.wi, .string a.va, .slice B m d, .slice C k f] by rw [hW0]; exact ((Box.new _ _ _).alloc _).alloc _)
 have Z0 := h! (show Box W0 (w.heap.size + 1 + 1) 57 #[.int .u8 0, .int .i64 0, .slice none 0 0, .string ⟨#[]⟩, .string ⟨#[]⟩, .slice none 0 0, .slice none 0 0] by rw [hW0]; exact Box.new_at _ (by simp))
 have Y0 := h! (show Box W0 (w.heap.size + 1) 86 #[.int .i64 p.n, .int .i64 p.b, .string p.v] by rw [hW0]; exact (Box.new_at _ (by simp)).alloc _)
 have HM := h! (rmay_any _ a W0 (H'.out.below B0.out) F'.out)
 have q1 : (a.ph != 1) = false := by simpa using hc
 have q2 : (b != a.ba) = false := by simpa using hb
 have HH := h! (fun (W : World) (hb : Below w.heap.size w W) => rHas_any A n c a.ms p.n W (h1.below hb) (by have := (AtIs.fit_n h1 h2 h3 F).1; omega))
 rw [hh] at HH
 have HTW := h! (fun (W : World) (hb : Below w.heap.size w W) => rtwin_any _ a W (H'.out.below hb) F'.out)
 have HMP := h! (fun (W : World) => mayPromise_any b p W FP)
 rw [ho] at HMP
 obtain ⟨hcap1, hcap2⟩ := HCap _ _ _ _ _ _ _ _ _ _ _ _ _ rfl
 clear HCap
 obtain ⟨fn, fm, fk⟩ := AtIs.fit_n h1 h2 h3 F
 have l3 : a.ac.length = k := by have := h3.1; rwa [ic_length] at this
 have l2 : a.ps.length = m := h2.1
 have hk := okL_rise (may_ok hm (by omega))
 obtain ⟨hk1, hk2, hk3, hk4, hk5⟩ := hk
 have HN := h! (fun (W : World) (hb : Below w.heap.size w W) => rnodes_any B m d a.ps W (h2.below hb) fm)
 have HA := h! (fun (W : World) (D : Option Addr) (r : Nat) (hd : Rd W D m (ic (AM.nodes a.ps))) => rHas_any D m r (AM.nodes a.ps) p.n W hd (by omega))
 rw [hy] at HA
 clear hc hb hh hy l2 l3 hcap1 hcap2 ho hk1 hk2 hk3 hk4 hk5
 rw [hm] at HM
 clear h1 h2 h3
 go_enter Tryz.func87, Tryz.ntmps87
 go_wp2_with fail
 rw [← hW0]
 clear hW0
 refine HM.out.mono ?_
 rintro e w1 ⟨rfl, hb1⟩
 clear HM
 have X1 := h! (X0.out.below hb1 X0.out.lt)
 have Z1 := h! (Z0.out.below hb1 Z0.out.lt)
 have B1 := h! (bmore B0.out hb1 n!)
 have Y1 := h! (Y0.out.below hb1 Y0.out.lt)
 clear X0 Z0 B0 hb1 Y0
 obtain ⟨⟨s0, s1, s2, s3, s4, s5, s6⟩, _⟩ := X1.out.seven
 obtain ⟨p0, p1, p2, _⟩ := Y1.out.three
 go_wp2_with fail
 refine (HH.out _ B1.out).mono ?_
 rintro e wh ⟨rfl, rfl⟩
 clear HH
 clear s0 s1 s2 s3 s4 s5 s6 p0 p1 p2
 obtain ⟨p0, p1, p2, _⟩ := Y1.out.three
 go_wp2_with fail
 refine (HMP.out _).mono ?_
 rintro e w2 ⟨rfl, hb2⟩
 clear HMP p0 p1 p2
 have X2 := h! (X1.out.below hb2 X1.out.lt)
 have Z2 := h! (Z1.out.below hb2 Z1.out.lt)
 have Y2 := h! (Y1.out.below hb2 Y1.out.lt)
 have B2 := h! (bmore B1.out hb2 n!)
 clear X1 Z1 Y1 B1 hb2
 obtain ⟨⟨s0, s1, s2, s3, s4, s5, s6⟩, _⟩ := X2.out.seven
 go_wp2_with fail
 refine (HTW.out _ B2.out).mono ?_
 rintro e wt ⟨vt, rfl, hnew, hbt⟩
 clear HTW s0 s1 s2 s3 s4 s5 s6
 obtain ⟨A1, c1, B1', d1, C1, f1, rfl, o1, o2, o3, dj⟩ := hnew
 obtain ⟨NB, hNB⟩ : ∃ NB, NB = w2.heap.size := ⟨_, rfl⟩
 rw [← hNB] at o1 o2 o3
 have hgN : w.heap.size + 1 + 1 < NB := by rw [hNB]; exact Z2.out.lt
 have XT := h! (X2.out.below hbt X2.out.lt)
 have ZT := h! (Z2.out.below hbt Z2.out.lt)
 have BT := h! (bmore B2.out hbt n!)
 have O1 := h! o1
 have O2 := h! o2
 have O3 := h! o3
 have ST := h! (AftSt.start wt #[.int .u8 a.ph, .int .i64 a.ba, .slice A1 a.ms.length c1, .string a.wi, .string a.va, .slice B1' a.ps.length d1, .slice C1 a.ac.length f1])
 have YT := h! (Y2.out.below hbt Y2.out.lt)
 clear o1 o2 o3 dj hbt X2 Z2 B2 Y2
 go_upto_region 8 with (fail)
 generalize wt.alloc (.cells #[.int .u8 a.ph, .int .i64 a.ba, .slice A1 a.ms.length c1, .string a.wi, .string a.va, .slice B1' a.ps.length d1, .slice C1 a.ac.length f1] 57) = u at ST ⊢
 go_cut [44] (fun v wx => v = .bool true ∧ AftSt wt wx #[.int .u8 a.ph, .int .i64 a.ba, .slice A1 a.ms.length c1, .string a.wi, .string a.va, .slice B1' a.ps.length d1, .slice C1 a.ac.length f1])
 case first =>
  have bd : AftSt wt u.drew #[.int .u8 a.ph, .int .i64 a.ba, .slice A1 a.ms.length c1, .string a.wi, .string a.va, .slice B1' a.ps.length d1, .slice C1 a.ac.length f1] := ST.out.drewN 1
  have CS : Hid (∀ w', AftSt wt w' #[.int .u8 a.ph, .int .i64 a.ba, .slice A1 a.ms.length c1, .string a.wi, .string a.va, .slice B1' a.ps.length d1, .slice C1 a.ac.length f1] → w'.cell? ⟨w.heap.size, 5, none⟩ = some (.slice B m d) ∧ w'.cell? ⟨w.heap.size + 1, 0, none⟩ = some (.int .i64 p.n)) := h! (fun W h => ⟨(XT.out.below h.1 XT.out.lt).cell 5, (YT.out.below h.1 YT.out.lt).cell 0⟩)
  refine wp_region_held_drew (S := fun w' => w'.cell? ⟨w.heap.size, 5, none⟩ = some (.slice B m d) ∧ w'.cell? ⟨w.heap.size + 1, 0, none⟩ = some (.int .i64 p.n)) (by kernel_rfl) (CS.out _ bd) (fun hHeld => ?_)
  refine qT 0 ?_
  try simp only [Act.put, qq]
  refine qT 1 ?_
  try simp only [Act.put, qq]
  refine qT 3 ?_
  try simp only [Act.put, qq]
  refine qT 4 ?_
  try simp only [Act.put, qq]
  refine qR 2 fun K hK => ?_
  go_simp
  refine (HN.out _ (bmore BT.out bd.1 n!)).mono ?_
  rintro e wb ⟨A', c', rfl, ho, hb⟩
  have bd2 := bd.below hb
  have hrd := Rd.of_own ho
  refine hK.out _ _ (CS.out _ bd2) (fun hHeld => ?_)
  clear hK
  try simp only [Act.put, qq]
  refine qR 5 fun K hK => ?_
  go_simp
  refine (HA.out _ _ _ hrd).mono ?_
  rintro e wh ⟨rfl, rfl⟩
  refine hK.out _ _ (CS.out _ bd2) (fun hHeld => ?_)
  clear hK
  try simp only [Act.put, qq]
  refine wpAnyH_done (by kernel_rfl) ?_ _
  go_wp2_with fail
  go_meet
  case rel => exact ⟨rfl, bd2⟩
 case rest =>
  clear ST HN HA
  obtain ⟨rfl, hst⟩ := hcut
  have ST := h! hst
  clear hst
  have zf := ZT.out.below ST.out.1 ZT.out.lt
  have HQX := h! (zf.put7 (.int .u8 a.ph) (.int .i64 a.ba) (.slice A1 a.ms.length c1) (.string a.wi) (.string a.va) (.slice B1' a.ps.length d1) (.slice C1 a.ac.length f1))
  have HQB := h! (below_put7 (bmore BT.out ST.out.1 n!) (g := w.heap.size + 1 + 1) (by omega) (.int .u8 a.ph) (.int .i64 a.ba) (.slice A1 a.ms.length c1) (.string a.wi) (.string a.va) (.slice B1' a.ps.length d1) (.slice C1 a.ac.length f1))
  have K1 := h! (own_put7 (own_below3 O1.out ST.out.1) (g := w.heap.size + 1 + 1) (by first | omega | (have := ZT.out.lt; omega)) (.int .u8 a.ph) (.int .i64 a.ba) (.slice A1 a.ms.length c1) (.string a.wi) (.string a.va) (.slice B1' a.ps.length d1) (.slice C1 a.ac.length f1))
  have K2 := h! (own_put7 (own_below3 O2.out ST.out.1) (g := w.heap.size + 1 + 1) (by first | omega | (have := ZT.out.lt; omega)) (.int .u8 a.ph) (.int .i64 a.ba) (.slice A1 a.ms.length c1) (.string a.wi) (.string a.va) (.slice B1' a.ps.length d1) (.slice C1 a.ac.length f1))
  have K3 := h! (own_put7 (own_below3 O3.out ST.out.1) (g := w.heap.size + 1 + 1) (by first | omega | (have := ZT.out.lt; omega)) (.int .u8 a.ph) (.int .i64 a.ba) (.slice A1 a.ms.length c1) (.string a.wi) (.string a.va) (.slice B1' a.ps.length d1) (.slice C1 a.ac.length f1))
  unfold put7 at HQX HQB K1 K2 K3
  obtain ⟨_, z0, z1, z2, z3, z4, z5, z6⟩ := zf.seven
  obtain ⟨⟨t0, t1, t2, t3, t4, t5, t6⟩, tz0, tz1, tz2, tz3, tz4, tz5, tz6⟩ := ST.out.2.seven
  clear zf
  go_wp2_with fail
  obtain ⟨⟨dd0, dd1, dd2, dd3, dd4, dd5, dd6⟩, _⟩ := HQX.out.seven
  have m1 := own_base K1.out (show w.heap.size ≤ _ by first | omega | (have := ZT.out.lt; omega))
  have m2 := own_base K2.out (show w.heap.size ≤ _ by first | omega | (have := ZT.out.lt; omega))
  have m3 := own_base K3.out (show w.heap.size ≤ _ by first | omega | (have := ZT.out.lt; omega))
  exact bodyPost_ret (v := .tuple #[.agg #[.int .u8 a.ph, .int .i64 a.ba, .slice A1 a.ms.length c1, .string a.wi, .string a.va, .slice B1' a.ps.length d1, .slice C1 a.ac.length f1], .int .i64 0]) (by simp [results, Tryz.results87, go_sem, dd0, dd1, dd2, dd3, dd4, dd5, dd6]) rfl ⟨_, rfl, ⟨_, _, _, rfl, m1, m2, m3⟩, HQB.out⟩
set_option maxRecDepth 100000 in
set_option maxHeartbeats 4000000 in
theorem rprom_bad2 (v : Value) (a : AM.At) (b : Int) (p : AM.Pr) (w : World) (H : AtIs w v a) (F : Fit a) (FP : FitP p) (hm : AM.may a = true) (hc : a.ph = 1) (hb : b = a.ba) (hh : QM.has a.ms p.n = true) (ho : AM.okP b p = false) :
  Calls Tryz.prog 87 #[v, .int .i64 b, .agg #[.int .i64 p.n, .int .i64 p.b, .string p.v]] w (ErrRet AM.zero 8 w) := by
 have H' := h! H
 have F' := h! F
 obtain ⟨A, n, c, B, m, d, C, k, f, rfl, h1, h2, h3⟩ := H
 obtain ⟨W0, hW0⟩ : ∃ W0, W0 = ((w.alloc (.cells #[.int .u8 a.ph, .int .i64 a.ba, .slice A n c, .string a.wi, .string a.va, .slice B m d, .slice C k f] 57)).alloc (.cells #[.int .i64 p.n, .int .i64 p.b, .string p.v] 86)).alloc (.cells #[.int .u8 0, .int .i64 0, .slice none 0 0, .string ⟨#[]⟩, .string ⟨#[]⟩, .slice none 0 0, .slice none 0 0] 57) := ⟨_, rfl⟩
 have B0 := h! (show Below w.heap.size w W0 by rw [hW0]; exact (((Below.refl _ _).alloc n! _).alloc (by simp) _).alloc (by simp; omega) _)
 have X0 := h! (show Box W0 w.heap.size 57 #[.int .u8 a.ph, .int .i64 a.ba, .slice A n c, .string a.wi, .string a.va, .slice B m d, .slice C k f] by rw [hW0]; exact ((Box.new _ _ _).alloc _).alloc _)
 have Z0 := h! (show Box W0 (w.heap.size + 1 + 1) 57 #[.int .u8 0, .int .i64 0, .slice none 0 0, .string ⟨#[]⟩, .string ⟨#[]⟩, .slice none 0 0, .slice none 0 0] by rw [hW0]; exact Box.new_at _ (by simp))
 have Y0 := h! (show Box W0 (w.heap.size + 1) 86 #[.int .i64 p.n, .int .i64 p.b, .string p.v] by rw [hW0]; exact (Box.new_at _ (by simp)).alloc _)
 have HM := h! (rmay_any _ a W0 (H'.out.below B0.out) F'.out)
 have q1 : (a.ph != 1) = false := by simpa using hc
 have q2 : (b != a.ba) = false := by simpa using hb
 have HH := h! (fun (W : World) (hb : Below w.heap.size w W) => rHas_any A n c a.ms p.n W (h1.below hb) (by have := (AtIs.fit_n h1 h2 h3 F).1; omega))
 rw [hh] at HH
 have HMP := h! (fun (W : World) => mayPromise_any b p W FP)
 rw [ho] at HMP
 clear hc hb hh ho
 rw [hm] at HM
 clear h1 h2 h3
 go_enter Tryz.func87, Tryz.ntmps87
 go_wp2_with fail
 rw [← hW0]
 clear hW0
 refine HM.out.mono ?_
 rintro e w1 ⟨rfl, hb1⟩
 clear HM
 have X1 := h! (X0.out.below hb1 X0.out.lt)
 have Z1 := h! (Z0.out.below hb1 Z0.out.lt)
 have B1 := h! (bmore B0.out hb1 n!)
 have Y1 := h! (Y0.out.below hb1 Y0.out.lt)
 clear X0 Z0 B0 hb1 Y0
 obtain ⟨⟨s0, s1, s2, s3, s4, s5, s6⟩, _⟩ := X1.out.seven
 obtain ⟨p0, p1, p2, _⟩ := Y1.out.three
 go_wp2_with fail
 refine (HH.out _ B1.out).mono ?_
 rintro e wh ⟨rfl, rfl⟩
 clear HH
 clear s0 s1 s2 s3 s4 s5 s6 p0 p1 p2
 obtain ⟨p0, p1, p2, _⟩ := Y1.out.three
 go_wp2_with fail
 refine (HMP.out _).mono ?_
 rintro e w2 ⟨rfl, hb2⟩
 clear HMP p0 p1 p2
 have X2 := h! (X1.out.below hb2 X1.out.lt)
 have Z2 := h! (Z1.out.below hb2 Z1.out.lt)
 have Y2 := h! (Y1.out.below hb2 Y1.out.lt)
 have B2 := h! (bmore B1.out hb2 n!)
 clear X1 Z1 Y1 B1 hb2
 have Y1 := Y2
 have HQX := h! (Z2.out.put7 (.int .u8 0) (.int .i64 0) (.slice none 0 0) (.string ⟨#[]⟩) (.string ⟨#[]⟩) (.slice none 0 0) (.slice none 0 0))
 have HQB := h! (below_put7 B2.out (g := w.heap.size + 1 + 1) (by omega) (.int .u8 0) (.int .i64 0) (.slice none 0 0) (.string ⟨#[]⟩) (.string ⟨#[]⟩) (.slice none 0 0) (.slice none 0 0))
 unfold put7 at HQX HQB
 obtain ⟨_, z0, z1, z2, z3, z4, z5, z6⟩ := Z2.out.seven
 obtain ⟨⟨s0, s1, s2, s3, s4, s5, s6⟩, _⟩ := X2.out.seven
 obtain ⟨p0, p1, p2, _⟩ := Y1.out.three
 go_wp2_with fail
 obtain ⟨⟨d0, d1, d2, d3, d4, d5, d6⟩, _⟩ := HQX.out.seven
 exact bodyPost_ret (v := .tuple #[.agg #[.int .u8 0, .int .i64 0, .slice none 0 0, .string ⟨#[]⟩, .string ⟨#[]⟩, .slice none 0 0, .slice none 0 0], .int .i64 8]) (by simp [results, Tryz.results87, go_sem, d0, d1, d2, d3, d4, d5, d6]) rfl ⟨_, rfl, AtOwn.zero _ _, HQB.out⟩
end Go.Proofs.YtiiobafcgdelmaaGreat
