/-
  AttemptOrder's walk: two promises in both orders, two acceptances in both orders. Conditions: what the arguments are.
-/
import Derived.Test.YtmcfamoicdmkdaaAttAlive
import Derived.Test.YtmcfamoicdmkdaaAttR
import Derived.Test.YtmcfamoicdmkdaaAttFit
import Derived.Test.YtmcfamoicdmkdaaAttArg
namespace Go.Proofs.Ytmcfamoicdmkdaa
open Go.RowKit
set_option linter.unusedVariables false
set_option linter.unusedSimpArgs false

theorem own_setother {w : World} {base s n g i : Nat} {e T : TypeId} {v : Value} {xs : List Value} {cs : Array Value} (h : w.ownsRow base e s v n xs) (hb : Box w g T cs) (he : T ≠ e) (u : Value) : (w.setCell ⟨g, i, none⟩ u).ownsRow base e s v n xs := by
  refine ⟨h.1, ?_⟩
  rcases h.2 with h0 | ⟨g', cap, cur, hv, hbg, hx, hrest⟩
  · exact .inl h0
  · refine .inr ⟨g', cap, cur, hv, hbg, Box.far (g := g') hx (p := ⟨g, i, none⟩) (fun e' => ?_) u, hrest⟩
    have e2 : g' = g := e'
    subst e2
    rw [Box] at hb
    rw [hx] at hb
    injection hb with hb
    injection hb with _ hb
    exact he hb.symm
theorem AtOwn.setother {w : World} {base g i : Nat} {v : Value} {a : AM.At} {cs : Array Value} (h : AtOwn w base v a) (hb : Box w g 25 cs) (u : Value) : AtOwn (w.setCell ⟨g, i, none⟩ u) base v a := by
  obtain ⟨x, y, z, e, h1, h2, h3⟩ := h
  exact ⟨x, y, z, e, own_setother h1 hb (by decide) u, own_setother h2 hb (by decide) u, own_setother h3 hb (by decide) u⟩
theorem AtOwn.far7 {w : World} {base g : Nat} {v : Value} {a : AM.At} {c0 c1 c2 c3 c4 c5 c6 : Value} (h : AtOwn w base v a) (hb : Box w g 25 #[c0, c1, c2, c3, c4, c5, c6]) (x1 x2 x3 x4 x5 x6 x7 : Value) : AtOwn (Go.Proofs.Ytmcfamoicdmkdaa.put7 w g x1 x2 x3 x4 x5 x6 x7) base v a := by
  have k1 := h.setother (i := 0) hb x1
  have b1 := hb.stored 0 x1
  have k2 := k1.setother (i := 1) b1 x2
  have b2 := b1.stored 1 x2
  have k3 := k2.setother (i := 2) b2 x3
  have b3 := b2.stored 2 x3
  have k4 := k3.setother (i := 3) b3 x4
  have b4 := b3.stored 3 x4
  have k5 := k4.setother (i := 4) b4 x5
  have b5 := b4.stored 4 x5
  have k6 := k5.setother (i := 5) b5 x6
  have b6 := b5.stored 5 x6
  exact k6.setother (i := 6) b6 x7

set_option maxRecDepth 100000 in
set_option maxHeartbeats 40000000 in
theorem attemptOrder_walk (v : Value) (a : AM.At) (b : Int) (v1 : Value) (p : AM.Pr) (v2 : Value) (q : AM.Pr) (n1 m1 : Int) (w : World) (H : AttArg w v a) (hb1 : (Lit.int .i64 b).wf = true) (hp : PrArg v1 p) (hq : PrArg v2 q) (hn1 : (Lit.int .i64 n1).wf = true) (hm1 : (Lit.int .i64 m1).wf = true) :
    Calls Try.prog 8 #[v, .int .i64 b, v1, v2, .int .i64 n1, .int .i64 m1] w fun e w' => e = .returned (.bool true) ∧ Below w.heap.size w w' := by
  obtain ⟨HA, FA⟩ := H
  obtain ⟨rfl, FP⟩ := hp
  obtain ⟨rfl, FQ⟩ := hq
  have H' := Lib.hid HA
  have hpv : p.v.size ≤ 9223372036854775807 := by have := FP.v; unfold maxLen at this; omega
  have hqv : q.v.size ≤ 9223372036854775807 := by have := FQ.v; unfold maxLen at this; omega
  obtain ⟨A, n, c, B, m, d, C, k, f, rfl, h1, h2, h3⟩ := HA
  clear h1 h2 h3
  obtain ⟨W0, hW0⟩ : ∃ W0, W0 = ((w.alloc (.cells #[.int .u8 a.ph, .int .i64 a.ba, .slice A n c, .string a.wi, .string a.va, .slice B m d, .slice C k f] 25)).alloc (.cells #[.int .i64 p.n, .int .i64 p.b, .string p.v] 31)).alloc (.cells #[.int .i64 q.n, .int .i64 q.b, .string q.v] 31) := ⟨_, rfl⟩
  have hb0 : Below w.heap.size w W0 := by rw [hW0]; exact (((Below.refl _ _).alloc (Nat.le_refl _) _).alloc (by simp) _).alloc (by simp; omega) _
  have XA := Lib.hid (show Box W0 w.heap.size 25 #[.int .u8 a.ph, .int .i64 a.ba, .slice A n c, .string a.wi, .string a.va, .slice B m d, .slice C k f] by rw [hW0]; exact ((Box.new _ _ _).alloc _).alloc _)
  have Xp := Lib.hid (show Box W0 (w.heap.size + 1) 31 #[.int .i64 p.n, .int .i64 p.b, .string p.v] by rw [hW0]; exact (Box.new_at _ (by simp)).alloc _)
  have Xq := Lib.hid (show Box W0 (w.heap.size + 2) 31 #[.int .i64 q.n, .int .i64 q.b, .string q.v] by rw [hW0]; exact Box.new_at _ (by simp))
  have B0 := Lib.hid hb0
  have BB := Lib.hid (Below.refl W0.heap.size W0)
  have HIS := Lib.hid (fun (W : World) (hb : Below W0.heap.size W0 W) => H'.out.below (bmore hb0 hb (Nat.le_refl _)))
  clear hb0 H'
  have HGR := Lib.hid (fun (W : World) (hb : Below W0.heap.size W0 W) => great_any _ a W (HIS.out W hb) FA)
  have HFA := Lib.hid (FA.fit); clear FA
  go_enter Try.func8, Try.ntmps8
  go_wp2_with fail
  rw [← hW0]
  clear hW0
  refine (alive_any _).mono ?_
  rintro e w0 ⟨rfl, hb⟩
  replace BB := Lib.hid (bmore BB.out hb (Nat.le_refl _))
  clear hb
  obtain ⟨⟨ta0, ta1, ta2, ta3, ta4, ta5, ta6⟩, _⟩ := (XA.out.below BB.out XA.out.lt).seven
  obtain ⟨tp0, tp1, tp2, _⟩ := (Xp.out.below BB.out Xp.out.lt).three
  obtain ⟨tq0, tq1, tq2, _⟩ := (Xq.out.below BB.out Xq.out.lt).three
  go_wp2_with fail
  refine (HGR.out _ BB.out).mono ?_
  rintro e wg ⟨gr, rfl, hgr, hb⟩
  replace BB := Lib.hid (bmore BB.out hb (Nat.le_refl _))
  clear hb HGR
  clear ta0 ta1 ta2 ta3 ta4 ta5 ta6
  clear tp0 tp1 tp2
  clear tq0 tq1 tq2
  obtain ⟨⟨ta0, ta1, ta2, ta3, ta4, ta5, ta6⟩, _⟩ := (XA.out.below BB.out XA.out.lt).seven
  obtain ⟨tp0, tp1, tp2, _⟩ := (Xp.out.below BB.out Xp.out.lt).three
  obtain ⟨tq0, tq1, tq2, _⟩ := (Xq.out.below BB.out Xq.out.lt).three
  rcases gr with _ | _
  rotate_left
  ·
    go_wp2_with fail
    go_ret
    exact ⟨rfl, bmore B0.out BB.out (Nat.le_refl _)⟩
  obtain ⟨l1, l2, l3⟩ := hgr rfl
  have F := HFA.out l1 l2 l3
  clear hgr HFA l1 l2 l3
  by_cases sp : 5000 < p.v.size
  ·
    have sp1 : decide ((5000 : Int) < (p.v.size : Int)) = true := by simp; omega
    have sp2 : decide (5000 < p.v.size) = true := by simp; omega
    go_wp2_with fail
    go_ret
    exact ⟨rfl, bmore B0.out BB.out (Nat.le_refl _)⟩
  have sp1 : decide ((5000 : Int) < (p.v.size : Int)) = false := by simp; omega
  have sp2 : decide (5000 < p.v.size) = false := by simp; omega
  by_cases sq : 5000 < q.v.size
  ·
    have sq1 : decide ((5000 : Int) < (q.v.size : Int)) = true := by simp; omega
    have sq2 : decide (5000 < q.v.size) = true := by simp; omega
    go_wp2_with fail
    go_ret
    exact ⟨rfl, bmore B0.out BB.out (Nat.le_refl _)⟩
  have sq1 : decide ((5000 : Int) < (q.v.size : Int)) = false := by simp; omega
  have sq2 : decide (5000 < q.v.size) = false := by simp; omega
  have hpo := fun h1 h2 h3 h4 h5 => AM.order_prom (a := a) (b := b) (p := p) (q := q) h1 h2 h3 h4 h5
  have hao := fun h1 h2 => AM.order_acc (a := a) (b := b) (n := n1) (m := m1) h1 h2
  have CX1 := fun W hb => prom_any _ a b p W (HIS.out W hb) F FP
  have CY1 := fun W hb => prom_any _ a b q W (HIS.out W hb) F FQ
  have CX2 := fun W hb => accd_any _ a b n1 W (HIS.out W hb) F
  have CY2 := fun W hb => accd_any _ a b m1 W (HIS.out W hb) F
  have fx1 : Fit (AM.prom a b p) := fit_prom F FP
  have fy1 : Fit (AM.prom a b q) := fit_prom F FQ
  have fx2 : Fit (AM.acc a b n1) := fit_acc F
  have fy2 : Fit (AM.acc a b m1) := fit_acc F
  generalize AM.prom a b p = x1 at *
  generalize AM.errP a b p = e1 at *
  generalize AM.prom a b q = y1 at *
  generalize AM.errP a b q = e2 at *
  generalize AM.acc a b n1 = x2 at *
  generalize AM.errA a b n1 = e5 at *
  generalize AM.acc a b m1 = y2 at *
  generalize AM.errA a b m1 = e6 at *
  have CU1 := fun W v (h : AtIs W v x1) => prom_any v x1 b q W h fx1 FQ
  have CV1 := fun W v (h : AtIs W v y1) => prom_any v y1 b p W h fy1 FP
  have CU2 := fun W v (h : AtIs W v x2) => accd_any v x2 b m1 W h fx2
  have CV2 := fun W v (h : AtIs W v y2) => accd_any v y2 b n1 W h fy2
  have fu1 : Fit (AM.prom x1 b q) := fit_prom fx1 FQ
  have fv1 : Fit (AM.prom y1 b p) := fit_prom fy1 FP
  have fu2 : Fit (AM.acc x2 b m1) := fit_acc fx2
  have fv2 : Fit (AM.acc y2 b n1) := fit_acc fy2
  generalize AM.prom x1 b q = u1 at *
  generalize AM.errP x1 b q = e3 at *
  generalize AM.prom y1 b p = v1 at *
  generalize AM.errP y1 b p = e4 at *
  generalize AM.acc x2 b m1 = u2 at *
  generalize AM.errA x2 b m1 = e7 at *
  generalize AM.acc y2 b n1 = v2 at *
  generalize AM.errA y2 b n1 = e8 at *
  have CS1 := fun W v u (h : AtIs W v u1) (k : AtIs W u v1) => rsame_any v u1 u v1 W h k fu1 fv1
  have CS2 := fun W v u (h : AtIs W v u2) (k : AtIs W u v2) => rsame_any v u2 u v2 W h k fu2 fv2
  replace CX1 := Lib.hid CX1
  replace CY1 := Lib.hid CY1
  replace CX2 := Lib.hid CX2
  replace CY2 := Lib.hid CY2
  replace CU1 := Lib.hid CU1
  replace CV1 := Lib.hid CV1
  replace CU2 := Lib.hid CU2
  replace CV2 := Lib.hid CV2
  replace CS1 := Lib.hid CS1
  replace CS2 := Lib.hid CS2
  have HPO := Lib.hid hpo
  have HAO := Lib.hid hao
  clear hpo hao fx1 fy1 fx2 fy2 fu1 fv1 fu2 fv2 F FP FQ HIS sp sq hpv hqv
  clear ta0 ta1 ta2 ta3 ta4 ta5 ta6
  clear tp0 tp1 tp2
  clear tq0 tq1 tq2
  obtain ⟨tp0, tp1, tp2, _⟩ := (Xp.out.below BB.out Xp.out.lt).three
  obtain ⟨tq0, tq1, tq2, _⟩ := (Xq.out.below BB.out Xq.out.lt).three
  go_upto_region 6 with (fail)
  clear tp0 tp1 tp2
  clear tq0 tq1 tq2
  clear sp1 sp2 sq1 sq2
  obtain ⟨⟨ta0, ta1, ta2, ta3, ta4, ta5, ta6⟩, _⟩ := (XA.out.below BB.out XA.out.lt).seven
  obtain ⟨tp0, tp1, tp2, _⟩ := (Xp.out.below BB.out Xp.out.lt).three
  go_wp2_with fail
  clear ta0 ta1 ta2 ta3 ta4 ta5 ta6
  clear tp0 tp1 tp2
  refine (CX1.out _ BB.out).mono ?_
  rintro e w1 ⟨v, rfl, own, hb⟩
  obtain ⟨A1, c1, D1, q1, C1, f1, rfl⟩ := own.form
  have hb2 : Below wg.heap.size wg (w1.alloc (.cells #[.int .u8 x1.ph, .int .i64 x1.ba, .slice A1 x1.ms.length c1, .string x1.wi, .string x1.va, .slice D1 x1.ps.length q1, .slice C1 x1.ac.length f1] 25)) := hb.alloc hb.size _
  have hgs : W0.heap.size ≤ w1.heap.size := Nat.le_trans BB.out.size hb.size
  replace BB := Lib.hid (bmore BB.out hb2 (Nat.le_refl _))
  have Xx := Lib.hid (Box.new w1 25 #[.int .u8 x1.ph, .int .i64 x1.ba, .slice A1 x1.ms.length c1, .string x1.wi, .string x1.va, .slice D1 x1.ps.length q1, .slice C1 x1.ac.length f1])
  have Ox := Lib.hid (own.alloc (.cells #[.int .u8 x1.ph, .int .i64 x1.ba, .slice A1 x1.ms.length c1, .string x1.wi, .string x1.va, .slice D1 x1.ps.length q1, .slice C1 x1.ac.length f1] 25))
  clear hb hb2 own
  go_upto_region 7 with (fail)
  generalize w1.alloc (.cells #[.int .u8 x1.ph, .int .i64 x1.ba, .slice A1 x1.ms.length c1, .string x1.wi, .string x1.va, .slice D1 x1.ps.length q1, .slice C1 x1.ac.length f1] 25) = uw1 at Xx Ox BB ⊢
  generalize w1.heap.size = g1 at Xx hgs  ⊢
  have G1 := Lib.hid hgs; clear hgs
  obtain ⟨⟨ta0, ta1, ta2, ta3, ta4, ta5, ta6⟩, _⟩ := (XA.out.below BB.out XA.out.lt).seven
  obtain ⟨tq0, tq1, tq2, _⟩ := (Xq.out.below BB.out Xq.out.lt).three
  go_wp2_with fail
  clear ta0 ta1 ta2 ta3 ta4 ta5 ta6
  clear tq0 tq1 tq2
  refine (CY1.out _ BB.out).mono ?_
  rintro e w2 ⟨v, rfl, own, hb⟩
  obtain ⟨A2, c2, D2, q2, C2, f2, rfl⟩ := own.form
  have hb2 : Below uw1.heap.size uw1 (w2.alloc (.cells #[.int .u8 y1.ph, .int .i64 y1.ba, .slice A2 y1.ms.length c2, .string y1.wi, .string y1.va, .slice D2 y1.ps.length q2, .slice C2 y1.ac.length f2] 25)) := hb.alloc hb.size _
  have hgs : W0.heap.size ≤ w2.heap.size := Nat.le_trans BB.out.size hb.size
  have hnx : g1 ≠ w2.heap.size := by have := Xx.out.lt; have := hb.size; omega
  replace Xx := Lib.hid (Xx.out.below hb2 Xx.out.lt)
  replace Ox := Lib.hid (Ox.out.below hb2)
  replace BB := Lib.hid (bmore BB.out hb2 (Nat.le_refl _))
  have Xy := Lib.hid (Box.new w2 25 #[.int .u8 y1.ph, .int .i64 y1.ba, .slice A2 y1.ms.length c2, .string y1.wi, .string y1.va, .slice D2 y1.ps.length q2, .slice C2 y1.ac.length f2])
  have Oy := Lib.hid (own.alloc (.cells #[.int .u8 y1.ph, .int .i64 y1.ba, .slice A2 y1.ms.length c2, .string y1.wi, .string y1.va, .slice D2 y1.ps.length q2, .slice C2 y1.ac.length f2] 25))
  clear hb hb2 own
  go_upto_region 8 with (fail)
  generalize w2.alloc (.cells #[.int .u8 y1.ph, .int .i64 y1.ba, .slice A2 y1.ms.length c2, .string y1.wi, .string y1.va, .slice D2 y1.ps.length q2, .slice C2 y1.ac.length f2] 25) = uw2 at Xx Ox Xy Oy BB ⊢
  generalize w2.heap.size = g2 at Xy hgs hnx ⊢
  have G2 := Lib.hid hgs; clear hgs
  have Nxy := Lib.hid hnx; clear hnx
  rcases b0 : (e1 == 0) with _ | _
  ·
    obtain ⟨⟨s00, s01, s02, s03, s04, s05, s06⟩, _⟩ := Xx.out.seven
    obtain ⟨⟨s10, s11, s12, s13, s14, s15, s16⟩, _⟩ := Xy.out.seven
    obtain ⟨tp0, tp1, tp2, _⟩ := (Xp.out.below BB.out Xp.out.lt).three
    obtain ⟨tq0, tq1, tq2, _⟩ := (Xq.out.below BB.out Xq.out.lt).three
    go_upto_region 13 with (fail)
    clear s00 s01 s02 s03 s04 s05 s06
    clear s10 s11 s12 s13 s14 s15 s16
    clear tp0 tp1 tp2
    clear tq0 tq1 tq2
    clear HPO b0
    obtain ⟨⟨ta0, ta1, ta2, ta3, ta4, ta5, ta6⟩, _⟩ := (XA.out.below BB.out XA.out.lt).seven
    go_wp2_with fail
    clear ta0 ta1 ta2 ta3 ta4 ta5 ta6
    refine (CX2.out _ BB.out).mono ?_
    rintro e w3 ⟨v, rfl, own, hb⟩
    obtain ⟨A3, c3, D3, q3, C3, f3, rfl⟩ := own.form
    have xs := Xx.out.below hb Xx.out.lt
    replace Xy := Lib.hid ((Xy.out.below hb Xy.out.lt).putFar7 (g' := g1) (by have := Nxy.out; exact fun e => this e.symm) (.int .u8 x2.ph) (.int .i64 x2.ba) (.slice A3 x2.ms.length c3) (.string x2.wi) (.string x2.va) (.slice D3 x2.ps.length q3) (.slice C3 x2.ac.length f3))
    replace Oy := Lib.hid ((Oy.out.below hb).far7 xs (.int .u8 x2.ph) (.int .i64 x2.ba) (.slice A3 x2.ms.length c3) (.string x2.wi) (.string x2.va) (.slice D3 x2.ps.length q3) (.slice C3 x2.ac.length f3))
    replace Xx := Lib.hid (xs.put7 (.int .u8 x2.ph) (.int .i64 x2.ba) (.slice A3 x2.ms.length c3) (.string x2.wi) (.string x2.va) (.slice D3 x2.ps.length q3) (.slice C3 x2.ac.length f3))
    replace Ox := Lib.hid (own.far7 xs (.int .u8 x2.ph) (.int .i64 x2.ba) (.slice A3 x2.ms.length c3) (.string x2.wi) (.string x2.va) (.slice D3 x2.ps.length q3) (.slice C3 x2.ac.length f3))
    replace BB := Lib.hid (below_put7 (bmore BB.out hb (Nat.le_refl _)) (g := g1) G1.out (.int .u8 x2.ph) (.int .i64 x2.ba) (.slice A3 x2.ms.length c3) (.string x2.wi) (.string x2.va) (.slice D3 x2.ps.length q3) (.slice C3 x2.ac.length f3))
    obtain ⟨_, z0, z1, z2, z3, z4, z5, z6⟩ := xs.seven
    unfold put7 at Xx Ox Xy Oy BB
    clear xs hb own
    go_upto_region 14 with (fail)
    generalize (((((((w3).setCell ⟨g1, 0, none⟩ (.int .u8 x2.ph)).setCell ⟨g1, 1, none⟩ (.int .i64 x2.ba)).setCell ⟨g1, 2, none⟩ (.slice A3 x2.ms.length c3)).setCell ⟨g1, 3, none⟩ (.string x2.wi)).setCell ⟨g1, 4, none⟩ (.string x2.va)).setCell ⟨g1, 5, none⟩ (.slice D3 x2.ps.length q3)).setCell ⟨g1, 6, none⟩ (.slice C3 x2.ac.length f3) = uw3 at Xx Ox Xy Oy BB ⊢
    clear z0 z1 z2 z3 z4 z5 z6
    obtain ⟨⟨ta0, ta1, ta2, ta3, ta4, ta5, ta6⟩, _⟩ := (XA.out.below BB.out XA.out.lt).seven
    go_wp2_with fail
    clear ta0 ta1 ta2 ta3 ta4 ta5 ta6
    refine (CY2.out _ BB.out).mono ?_
    rintro e w4 ⟨v, rfl, own, hb⟩
    obtain ⟨A4, c4, D4, q4, C4, f4, rfl⟩ := own.form
    have xs := Xy.out.below hb Xy.out.lt
    replace Xx := Lib.hid ((Xx.out.below hb Xx.out.lt).putFar7 (g' := g2) (by have := Nxy.out; exact this) (.int .u8 y2.ph) (.int .i64 y2.ba) (.slice A4 y2.ms.length c4) (.string y2.wi) (.string y2.va) (.slice D4 y2.ps.length q4) (.slice C4 y2.ac.length f4))
    replace Ox := Lib.hid ((Ox.out.below hb).far7 xs (.int .u8 y2.ph) (.int .i64 y2.ba) (.slice A4 y2.ms.length c4) (.string y2.wi) (.string y2.va) (.slice D4 y2.ps.length q4) (.slice C4 y2.ac.length f4))
    replace Xy := Lib.hid (xs.put7 (.int .u8 y2.ph) (.int .i64 y2.ba) (.slice A4 y2.ms.length c4) (.string y2.wi) (.string y2.va) (.slice D4 y2.ps.length q4) (.slice C4 y2.ac.length f4))
    replace Oy := Lib.hid (own.far7 xs (.int .u8 y2.ph) (.int .i64 y2.ba) (.slice A4 y2.ms.length c4) (.string y2.wi) (.string y2.va) (.slice D4 y2.ps.length q4) (.slice C4 y2.ac.length f4))
    replace BB := Lib.hid (below_put7 (bmore BB.out hb (Nat.le_refl _)) (g := g2) G2.out (.int .u8 y2.ph) (.int .i64 y2.ba) (.slice A4 y2.ms.length c4) (.string y2.wi) (.string y2.va) (.slice D4 y2.ps.length q4) (.slice C4 y2.ac.length f4))
    obtain ⟨_, z0, z1, z2, z3, z4, z5, z6⟩ := xs.seven
    unfold put7 at Xx Ox Xy Oy BB
    clear xs hb own
    go_upto_region 15 with (fail)
    generalize (((((((w4).setCell ⟨g2, 0, none⟩ (.int .u8 y2.ph)).setCell ⟨g2, 1, none⟩ (.int .i64 y2.ba)).setCell ⟨g2, 2, none⟩ (.slice A4 y2.ms.length c4)).setCell ⟨g2, 3, none⟩ (.string y2.wi)).setCell ⟨g2, 4, none⟩ (.string y2.va)).setCell ⟨g2, 5, none⟩ (.slice D4 y2.ps.length q4)).setCell ⟨g2, 6, none⟩ (.slice C4 y2.ac.length f4) = uw4 at Xx Ox Xy Oy BB ⊢
    clear z0 z1 z2 z3 z4 z5 z6
    by_cases z5 : e5 = 0
    rotate_left
    ·
      have z5b : (e5 != 0) = true := by simpa using z5
      clear z5
      go_wp2_with fail
      go_ret
      exact ⟨rfl, bmore B0.out BB.out (Nat.le_refl _)⟩
    by_cases z6 : e6 = 0
    rotate_left
    ·
      have z6b : (e6 != 0) = true := by simpa using z6
      clear z6
      subst z5
      go_wp2_with fail
      go_ret
      exact ⟨rfl, bmore B0.out BB.out (Nat.le_refl _)⟩
    obtain ⟨r1, r2, r3⟩ := HAO.out z5 z6
    subst z5 z6 r1 r2 r3
    clear HAO
    go_upto_region 17 with (fail)
    obtain ⟨⟨s00, s01, s02, s03, s04, s05, s06⟩, _⟩ := Xx.out.seven
    go_wp2_with fail
    clear s00 s01 s02 s03 s04 s05 s06
    refine (CU2.out _ _ Ox.out.is).mono ?_
    rintro e w5 ⟨v, rfl, own, hb⟩
    obtain ⟨A5, c5, D5, q5, C5, f5, rfl⟩ := own.form
    have hb2 : Below uw4.heap.size uw4 (w5.alloc (.cells #[.int .u8 u2.ph, .int .i64 u2.ba, .slice A5 u2.ms.length c5, .string u2.wi, .string u2.va, .slice D5 u2.ps.length q5, .slice C5 u2.ac.length f5] 25)) := hb.alloc hb.size _
    have hgs : W0.heap.size ≤ w5.heap.size := Nat.le_trans BB.out.size hb.size
    have hnx : g1 ≠ w5.heap.size := by have := Xx.out.lt; have := hb.size; omega
    have hny : g2 ≠ w5.heap.size := by have := Xy.out.lt; have := hb.size; omega
    replace Xx := Lib.hid (Xx.out.below hb2 Xx.out.lt)
    replace Ox := Lib.hid (Ox.out.below hb2)
    replace Xy := Lib.hid (Xy.out.below hb2 Xy.out.lt)
    replace Oy := Lib.hid (Oy.out.below hb2)
    replace BB := Lib.hid (bmore BB.out hb2 (Nat.le_refl _))
    have Xu := Lib.hid (Box.new w5 25 #[.int .u8 u2.ph, .int .i64 u2.ba, .slice A5 u2.ms.length c5, .string u2.wi, .string u2.va, .slice D5 u2.ps.length q5, .slice C5 u2.ac.length f5])
    have Ou := Lib.hid (own.alloc (.cells #[.int .u8 u2.ph, .int .i64 u2.ba, .slice A5 u2.ms.length c5, .string u2.wi, .string u2.va, .slice D5 u2.ps.length q5, .slice C5 u2.ac.length f5] 25))
    clear hb hb2 own
    go_upto_region 18 with (fail)
    generalize w5.alloc (.cells #[.int .u8 u2.ph, .int .i64 u2.ba, .slice A5 u2.ms.length c5, .string u2.wi, .string u2.va, .slice D5 u2.ps.length q5, .slice C5 u2.ac.length f5] 25) = uw5 at Xx Ox Xy Oy Xu Ou BB ⊢
    generalize w5.heap.size = g5 at Xu hgs hnx hny ⊢
    have G5 := Lib.hid hgs; clear hgs
    have Nxu := Lib.hid hnx; clear hnx
    have Nyu := Lib.hid hny; clear hny
    obtain ⟨⟨s00, s01, s02, s03, s04, s05, s06⟩, _⟩ := Xy.out.seven
    go_wp2_with fail
    clear s00 s01 s02 s03 s04 s05 s06
    refine (CV2.out _ _ Oy.out.is).mono ?_
    rintro e w6 ⟨v, rfl, own, hb⟩
    obtain ⟨A6, c6, D6, q6, C6, f6, rfl⟩ := own.form
    have hb2 : Below uw5.heap.size uw5 (w6.alloc (.cells #[.int .u8 u2.ph, .int .i64 u2.ba, .slice A6 u2.ms.length c6, .string u2.wi, .string u2.va, .slice D6 u2.ps.length q6, .slice C6 u2.ac.length f6] 25)) := hb.alloc hb.size _
    have hgs : W0.heap.size ≤ w6.heap.size := Nat.le_trans BB.out.size hb.size
    have hnx : g1 ≠ w6.heap.size := by have := Xx.out.lt; have := hb.size; omega
    have hny : g2 ≠ w6.heap.size := by have := Xy.out.lt; have := hb.size; omega
    have hnu : g5 ≠ w6.heap.size := by have := Xu.out.lt; have := hb.size; omega
    replace Xx := Lib.hid (Xx.out.below hb2 Xx.out.lt)
    replace Ox := Lib.hid (Ox.out.below hb2)
    replace Xy := Lib.hid (Xy.out.below hb2 Xy.out.lt)
    replace Oy := Lib.hid (Oy.out.below hb2)
    replace Xu := Lib.hid (Xu.out.below hb2 Xu.out.lt)
    replace Ou := Lib.hid (Ou.out.below hb2)
    replace BB := Lib.hid (bmore BB.out hb2 (Nat.le_refl _))
    have Xv := Lib.hid (Box.new w6 25 #[.int .u8 u2.ph, .int .i64 u2.ba, .slice A6 u2.ms.length c6, .string u2.wi, .string u2.va, .slice D6 u2.ps.length q6, .slice C6 u2.ac.length f6])
    have Ov := Lib.hid (own.alloc (.cells #[.int .u8 u2.ph, .int .i64 u2.ba, .slice A6 u2.ms.length c6, .string u2.wi, .string u2.va, .slice D6 u2.ps.length q6, .slice C6 u2.ac.length f6] 25))
    clear hb hb2 own
    go_upto_region 19 with (fail)
    generalize w6.alloc (.cells #[.int .u8 u2.ph, .int .i64 u2.ba, .slice A6 u2.ms.length c6, .string u2.wi, .string u2.va, .slice D6 u2.ps.length q6, .slice C6 u2.ac.length f6] 25) = uw6 at Xx Ox Xy Oy Xu Ou Xv Ov BB ⊢
    generalize w6.heap.size = g6 at Xv hgs hnx hny hnu ⊢
    have G6 := Lib.hid hgs; clear hgs
    have Nxv := Lib.hid hnx; clear hnx
    have Nyv := Lib.hid hny; clear hny
    have Nuv := Lib.hid hnu; clear hnu
    obtain ⟨⟨s00, s01, s02, s03, s04, s05, s06⟩, _⟩ := Xu.out.seven
    obtain ⟨⟨s10, s11, s12, s13, s14, s15, s16⟩, _⟩ := Xv.out.seven
    go_wp2_with fail
    refine (CS2.out _ _ _ Ou.out.is Ov.out.is).mono ?_
    rintro e ws ⟨rfl, hb⟩
    replace BB := Lib.hid (bmore BB.out hb (Nat.le_refl _))
    clear hb
    first | rw [show decide (u2 = u2) = true by simp] | simp only [decide_true]
    go_wp2_with fail
    go_ret
    exact ⟨rfl, bmore B0.out BB.out (Nat.le_refl _)⟩
  rcases b1 : (e2 == 0) with _ | _
  ·
    obtain ⟨⟨s00, s01, s02, s03, s04, s05, s06⟩, _⟩ := Xx.out.seven
    obtain ⟨⟨s10, s11, s12, s13, s14, s15, s16⟩, _⟩ := Xy.out.seven
    obtain ⟨tp0, tp1, tp2, _⟩ := (Xp.out.below BB.out Xp.out.lt).three
    obtain ⟨tq0, tq1, tq2, _⟩ := (Xq.out.below BB.out Xq.out.lt).three
    go_upto_region 13 with (fail)
    clear s00 s01 s02 s03 s04 s05 s06
    clear s10 s11 s12 s13 s14 s15 s16
    clear tp0 tp1 tp2
    clear tq0 tq1 tq2
    clear HPO b0 b1
    obtain ⟨⟨ta0, ta1, ta2, ta3, ta4, ta5, ta6⟩, _⟩ := (XA.out.below BB.out XA.out.lt).seven
    go_wp2_with fail
    clear ta0 ta1 ta2 ta3 ta4 ta5 ta6
    refine (CX2.out _ BB.out).mono ?_
    rintro e w7 ⟨v, rfl, own, hb⟩
    obtain ⟨A7, c7, D7, q7, C7, f7, rfl⟩ := own.form
    have xs := Xx.out.below hb Xx.out.lt
    replace Xy := Lib.hid ((Xy.out.below hb Xy.out.lt).putFar7 (g' := g1) (by have := Nxy.out; exact fun e => this e.symm) (.int .u8 x2.ph) (.int .i64 x2.ba) (.slice A7 x2.ms.length c7) (.string x2.wi) (.string x2.va) (.slice D7 x2.ps.length q7) (.slice C7 x2.ac.length f7))
    replace Oy := Lib.hid ((Oy.out.below hb).far7 xs (.int .u8 x2.ph) (.int .i64 x2.ba) (.slice A7 x2.ms.length c7) (.string x2.wi) (.string x2.va) (.slice D7 x2.ps.length q7) (.slice C7 x2.ac.length f7))
    replace Xx := Lib.hid (xs.put7 (.int .u8 x2.ph) (.int .i64 x2.ba) (.slice A7 x2.ms.length c7) (.string x2.wi) (.string x2.va) (.slice D7 x2.ps.length q7) (.slice C7 x2.ac.length f7))
    replace Ox := Lib.hid (own.far7 xs (.int .u8 x2.ph) (.int .i64 x2.ba) (.slice A7 x2.ms.length c7) (.string x2.wi) (.string x2.va) (.slice D7 x2.ps.length q7) (.slice C7 x2.ac.length f7))
    replace BB := Lib.hid (below_put7 (bmore BB.out hb (Nat.le_refl _)) (g := g1) G1.out (.int .u8 x2.ph) (.int .i64 x2.ba) (.slice A7 x2.ms.length c7) (.string x2.wi) (.string x2.va) (.slice D7 x2.ps.length q7) (.slice C7 x2.ac.length f7))
    obtain ⟨_, z0, z1, z2, z3, z4, z5, z6⟩ := xs.seven
    unfold put7 at Xx Ox Xy Oy BB
    clear xs hb own
    go_upto_region 14 with (fail)
    generalize (((((((w7).setCell ⟨g1, 0, none⟩ (.int .u8 x2.ph)).setCell ⟨g1, 1, none⟩ (.int .i64 x2.ba)).setCell ⟨g1, 2, none⟩ (.slice A7 x2.ms.length c7)).setCell ⟨g1, 3, none⟩ (.string x2.wi)).setCell ⟨g1, 4, none⟩ (.string x2.va)).setCell ⟨g1, 5, none⟩ (.slice D7 x2.ps.length q7)).setCell ⟨g1, 6, none⟩ (.slice C7 x2.ac.length f7) = uw7 at Xx Ox Xy Oy BB ⊢
    clear z0 z1 z2 z3 z4 z5 z6
    obtain ⟨⟨ta0, ta1, ta2, ta3, ta4, ta5, ta6⟩, _⟩ := (XA.out.below BB.out XA.out.lt).seven
    go_wp2_with fail
    clear ta0 ta1 ta2 ta3 ta4 ta5 ta6
    refine (CY2.out _ BB.out).mono ?_
    rintro e w8 ⟨v, rfl, own, hb⟩
    obtain ⟨A8, c8, D8, q8, C8, f8, rfl⟩ := own.form
    have xs := Xy.out.below hb Xy.out.lt
    replace Xx := Lib.hid ((Xx.out.below hb Xx.out.lt).putFar7 (g' := g2) (by have := Nxy.out; exact this) (.int .u8 y2.ph) (.int .i64 y2.ba) (.slice A8 y2.ms.length c8) (.string y2.wi) (.string y2.va) (.slice D8 y2.ps.length q8) (.slice C8 y2.ac.length f8))
    replace Ox := Lib.hid ((Ox.out.below hb).far7 xs (.int .u8 y2.ph) (.int .i64 y2.ba) (.slice A8 y2.ms.length c8) (.string y2.wi) (.string y2.va) (.slice D8 y2.ps.length q8) (.slice C8 y2.ac.length f8))
    replace Xy := Lib.hid (xs.put7 (.int .u8 y2.ph) (.int .i64 y2.ba) (.slice A8 y2.ms.length c8) (.string y2.wi) (.string y2.va) (.slice D8 y2.ps.length q8) (.slice C8 y2.ac.length f8))
    replace Oy := Lib.hid (own.far7 xs (.int .u8 y2.ph) (.int .i64 y2.ba) (.slice A8 y2.ms.length c8) (.string y2.wi) (.string y2.va) (.slice D8 y2.ps.length q8) (.slice C8 y2.ac.length f8))
    replace BB := Lib.hid (below_put7 (bmore BB.out hb (Nat.le_refl _)) (g := g2) G2.out (.int .u8 y2.ph) (.int .i64 y2.ba) (.slice A8 y2.ms.length c8) (.string y2.wi) (.string y2.va) (.slice D8 y2.ps.length q8) (.slice C8 y2.ac.length f8))
    obtain ⟨_, z0, z1, z2, z3, z4, z5, z6⟩ := xs.seven
    unfold put7 at Xx Ox Xy Oy BB
    clear xs hb own
    go_upto_region 15 with (fail)
    generalize (((((((w8).setCell ⟨g2, 0, none⟩ (.int .u8 y2.ph)).setCell ⟨g2, 1, none⟩ (.int .i64 y2.ba)).setCell ⟨g2, 2, none⟩ (.slice A8 y2.ms.length c8)).setCell ⟨g2, 3, none⟩ (.string y2.wi)).setCell ⟨g2, 4, none⟩ (.string y2.va)).setCell ⟨g2, 5, none⟩ (.slice D8 y2.ps.length q8)).setCell ⟨g2, 6, none⟩ (.slice C8 y2.ac.length f8) = uw8 at Xx Ox Xy Oy BB ⊢
    clear z0 z1 z2 z3 z4 z5 z6
    by_cases z5 : e5 = 0
    rotate_left
    ·
      have z5b : (e5 != 0) = true := by simpa using z5
      clear z5
      go_wp2_with fail
      go_ret
      exact ⟨rfl, bmore B0.out BB.out (Nat.le_refl _)⟩
    by_cases z6 : e6 = 0
    rotate_left
    ·
      have z6b : (e6 != 0) = true := by simpa using z6
      clear z6
      subst z5
      go_wp2_with fail
      go_ret
      exact ⟨rfl, bmore B0.out BB.out (Nat.le_refl _)⟩
    obtain ⟨r1, r2, r3⟩ := HAO.out z5 z6
    subst z5 z6 r1 r2 r3
    clear HAO
    go_upto_region 17 with (fail)
    obtain ⟨⟨s00, s01, s02, s03, s04, s05, s06⟩, _⟩ := Xx.out.seven
    go_wp2_with fail
    clear s00 s01 s02 s03 s04 s05 s06
    refine (CU2.out _ _ Ox.out.is).mono ?_
    rintro e w9 ⟨v, rfl, own, hb⟩
    obtain ⟨A9, c9, D9, q9, C9, f9, rfl⟩ := own.form
    have hb2 : Below uw8.heap.size uw8 (w9.alloc (.cells #[.int .u8 u2.ph, .int .i64 u2.ba, .slice A9 u2.ms.length c9, .string u2.wi, .string u2.va, .slice D9 u2.ps.length q9, .slice C9 u2.ac.length f9] 25)) := hb.alloc hb.size _
    have hgs : W0.heap.size ≤ w9.heap.size := Nat.le_trans BB.out.size hb.size
    have hnx : g1 ≠ w9.heap.size := by have := Xx.out.lt; have := hb.size; omega
    have hny : g2 ≠ w9.heap.size := by have := Xy.out.lt; have := hb.size; omega
    replace Xx := Lib.hid (Xx.out.below hb2 Xx.out.lt)
    replace Ox := Lib.hid (Ox.out.below hb2)
    replace Xy := Lib.hid (Xy.out.below hb2 Xy.out.lt)
    replace Oy := Lib.hid (Oy.out.below hb2)
    replace BB := Lib.hid (bmore BB.out hb2 (Nat.le_refl _))
    have Xu := Lib.hid (Box.new w9 25 #[.int .u8 u2.ph, .int .i64 u2.ba, .slice A9 u2.ms.length c9, .string u2.wi, .string u2.va, .slice D9 u2.ps.length q9, .slice C9 u2.ac.length f9])
    have Ou := Lib.hid (own.alloc (.cells #[.int .u8 u2.ph, .int .i64 u2.ba, .slice A9 u2.ms.length c9, .string u2.wi, .string u2.va, .slice D9 u2.ps.length q9, .slice C9 u2.ac.length f9] 25))
    clear hb hb2 own
    go_upto_region 18 with (fail)
    generalize w9.alloc (.cells #[.int .u8 u2.ph, .int .i64 u2.ba, .slice A9 u2.ms.length c9, .string u2.wi, .string u2.va, .slice D9 u2.ps.length q9, .slice C9 u2.ac.length f9] 25) = uw9 at Xx Ox Xy Oy Xu Ou BB ⊢
    generalize w9.heap.size = g9 at Xu hgs hnx hny ⊢
    have G9 := Lib.hid hgs; clear hgs
    have Nxu := Lib.hid hnx; clear hnx
    have Nyu := Lib.hid hny; clear hny
    obtain ⟨⟨s00, s01, s02, s03, s04, s05, s06⟩, _⟩ := Xy.out.seven
    go_wp2_with fail
    clear s00 s01 s02 s03 s04 s05 s06
    refine (CV2.out _ _ Oy.out.is).mono ?_
    rintro e w10 ⟨v, rfl, own, hb⟩
    obtain ⟨A10, c10, D10, q10, C10, f10, rfl⟩ := own.form
    have hb2 : Below uw9.heap.size uw9 (w10.alloc (.cells #[.int .u8 u2.ph, .int .i64 u2.ba, .slice A10 u2.ms.length c10, .string u2.wi, .string u2.va, .slice D10 u2.ps.length q10, .slice C10 u2.ac.length f10] 25)) := hb.alloc hb.size _
    have hgs : W0.heap.size ≤ w10.heap.size := Nat.le_trans BB.out.size hb.size
    have hnx : g1 ≠ w10.heap.size := by have := Xx.out.lt; have := hb.size; omega
    have hny : g2 ≠ w10.heap.size := by have := Xy.out.lt; have := hb.size; omega
    have hnu : g9 ≠ w10.heap.size := by have := Xu.out.lt; have := hb.size; omega
    replace Xx := Lib.hid (Xx.out.below hb2 Xx.out.lt)
    replace Ox := Lib.hid (Ox.out.below hb2)
    replace Xy := Lib.hid (Xy.out.below hb2 Xy.out.lt)
    replace Oy := Lib.hid (Oy.out.below hb2)
    replace Xu := Lib.hid (Xu.out.below hb2 Xu.out.lt)
    replace Ou := Lib.hid (Ou.out.below hb2)
    replace BB := Lib.hid (bmore BB.out hb2 (Nat.le_refl _))
    have Xv := Lib.hid (Box.new w10 25 #[.int .u8 u2.ph, .int .i64 u2.ba, .slice A10 u2.ms.length c10, .string u2.wi, .string u2.va, .slice D10 u2.ps.length q10, .slice C10 u2.ac.length f10])
    have Ov := Lib.hid (own.alloc (.cells #[.int .u8 u2.ph, .int .i64 u2.ba, .slice A10 u2.ms.length c10, .string u2.wi, .string u2.va, .slice D10 u2.ps.length q10, .slice C10 u2.ac.length f10] 25))
    clear hb hb2 own
    go_upto_region 19 with (fail)
    generalize w10.alloc (.cells #[.int .u8 u2.ph, .int .i64 u2.ba, .slice A10 u2.ms.length c10, .string u2.wi, .string u2.va, .slice D10 u2.ps.length q10, .slice C10 u2.ac.length f10] 25) = uw10 at Xx Ox Xy Oy Xu Ou Xv Ov BB ⊢
    generalize w10.heap.size = g10 at Xv hgs hnx hny hnu ⊢
    have G10 := Lib.hid hgs; clear hgs
    have Nxv := Lib.hid hnx; clear hnx
    have Nyv := Lib.hid hny; clear hny
    have Nuv := Lib.hid hnu; clear hnu
    obtain ⟨⟨s00, s01, s02, s03, s04, s05, s06⟩, _⟩ := Xu.out.seven
    obtain ⟨⟨s10, s11, s12, s13, s14, s15, s16⟩, _⟩ := Xv.out.seven
    go_wp2_with fail
    refine (CS2.out _ _ _ Ou.out.is Ov.out.is).mono ?_
    rintro e ws ⟨rfl, hb⟩
    replace BB := Lib.hid (bmore BB.out hb (Nat.le_refl _))
    clear hb
    first | rw [show decide (u2 = u2) = true by simp] | simp only [decide_true]
    go_wp2_with fail
    go_ret
    exact ⟨rfl, bmore B0.out BB.out (Nat.le_refl _)⟩
  rcases b2 : (x1.ph == 1) with _ | _
  ·
    obtain ⟨⟨s00, s01, s02, s03, s04, s05, s06⟩, _⟩ := Xx.out.seven
    obtain ⟨⟨s10, s11, s12, s13, s14, s15, s16⟩, _⟩ := Xy.out.seven
    obtain ⟨tp0, tp1, tp2, _⟩ := (Xp.out.below BB.out Xp.out.lt).three
    obtain ⟨tq0, tq1, tq2, _⟩ := (Xq.out.below BB.out Xq.out.lt).three
    go_upto_region 13 with (fail)
    clear s00 s01 s02 s03 s04 s05 s06
    clear s10 s11 s12 s13 s14 s15 s16
    clear tp0 tp1 tp2
    clear tq0 tq1 tq2
    clear HPO b0 b1 b2
    obtain ⟨⟨ta0, ta1, ta2, ta3, ta4, ta5, ta6⟩, _⟩ := (XA.out.below BB.out XA.out.lt).seven
    go_wp2_with fail
    clear ta0 ta1 ta2 ta3 ta4 ta5 ta6
    refine (CX2.out _ BB.out).mono ?_
    rintro e w11 ⟨v, rfl, own, hb⟩
    obtain ⟨A11, c11, D11, q11, C11, f11, rfl⟩ := own.form
    have xs := Xx.out.below hb Xx.out.lt
    replace Xy := Lib.hid ((Xy.out.below hb Xy.out.lt).putFar7 (g' := g1) (by have := Nxy.out; exact fun e => this e.symm) (.int .u8 x2.ph) (.int .i64 x2.ba) (.slice A11 x2.ms.length c11) (.string x2.wi) (.string x2.va) (.slice D11 x2.ps.length q11) (.slice C11 x2.ac.length f11))
    replace Oy := Lib.hid ((Oy.out.below hb).far7 xs (.int .u8 x2.ph) (.int .i64 x2.ba) (.slice A11 x2.ms.length c11) (.string x2.wi) (.string x2.va) (.slice D11 x2.ps.length q11) (.slice C11 x2.ac.length f11))
    replace Xx := Lib.hid (xs.put7 (.int .u8 x2.ph) (.int .i64 x2.ba) (.slice A11 x2.ms.length c11) (.string x2.wi) (.string x2.va) (.slice D11 x2.ps.length q11) (.slice C11 x2.ac.length f11))
    replace Ox := Lib.hid (own.far7 xs (.int .u8 x2.ph) (.int .i64 x2.ba) (.slice A11 x2.ms.length c11) (.string x2.wi) (.string x2.va) (.slice D11 x2.ps.length q11) (.slice C11 x2.ac.length f11))
    replace BB := Lib.hid (below_put7 (bmore BB.out hb (Nat.le_refl _)) (g := g1) G1.out (.int .u8 x2.ph) (.int .i64 x2.ba) (.slice A11 x2.ms.length c11) (.string x2.wi) (.string x2.va) (.slice D11 x2.ps.length q11) (.slice C11 x2.ac.length f11))
    obtain ⟨_, z0, z1, z2, z3, z4, z5, z6⟩ := xs.seven
    unfold put7 at Xx Ox Xy Oy BB
    clear xs hb own
    go_upto_region 14 with (fail)
    generalize (((((((w11).setCell ⟨g1, 0, none⟩ (.int .u8 x2.ph)).setCell ⟨g1, 1, none⟩ (.int .i64 x2.ba)).setCell ⟨g1, 2, none⟩ (.slice A11 x2.ms.length c11)).setCell ⟨g1, 3, none⟩ (.string x2.wi)).setCell ⟨g1, 4, none⟩ (.string x2.va)).setCell ⟨g1, 5, none⟩ (.slice D11 x2.ps.length q11)).setCell ⟨g1, 6, none⟩ (.slice C11 x2.ac.length f11) = uw11 at Xx Ox Xy Oy BB ⊢
    clear z0 z1 z2 z3 z4 z5 z6
    obtain ⟨⟨ta0, ta1, ta2, ta3, ta4, ta5, ta6⟩, _⟩ := (XA.out.below BB.out XA.out.lt).seven
    go_wp2_with fail
    clear ta0 ta1 ta2 ta3 ta4 ta5 ta6
    refine (CY2.out _ BB.out).mono ?_
    rintro e w12 ⟨v, rfl, own, hb⟩
    obtain ⟨A12, c12, D12, q12, C12, f12, rfl⟩ := own.form
    have xs := Xy.out.below hb Xy.out.lt
    replace Xx := Lib.hid ((Xx.out.below hb Xx.out.lt).putFar7 (g' := g2) (by have := Nxy.out; exact this) (.int .u8 y2.ph) (.int .i64 y2.ba) (.slice A12 y2.ms.length c12) (.string y2.wi) (.string y2.va) (.slice D12 y2.ps.length q12) (.slice C12 y2.ac.length f12))
    replace Ox := Lib.hid ((Ox.out.below hb).far7 xs (.int .u8 y2.ph) (.int .i64 y2.ba) (.slice A12 y2.ms.length c12) (.string y2.wi) (.string y2.va) (.slice D12 y2.ps.length q12) (.slice C12 y2.ac.length f12))
    replace Xy := Lib.hid (xs.put7 (.int .u8 y2.ph) (.int .i64 y2.ba) (.slice A12 y2.ms.length c12) (.string y2.wi) (.string y2.va) (.slice D12 y2.ps.length q12) (.slice C12 y2.ac.length f12))
    replace Oy := Lib.hid (own.far7 xs (.int .u8 y2.ph) (.int .i64 y2.ba) (.slice A12 y2.ms.length c12) (.string y2.wi) (.string y2.va) (.slice D12 y2.ps.length q12) (.slice C12 y2.ac.length f12))
    replace BB := Lib.hid (below_put7 (bmore BB.out hb (Nat.le_refl _)) (g := g2) G2.out (.int .u8 y2.ph) (.int .i64 y2.ba) (.slice A12 y2.ms.length c12) (.string y2.wi) (.string y2.va) (.slice D12 y2.ps.length q12) (.slice C12 y2.ac.length f12))
    obtain ⟨_, z0, z1, z2, z3, z4, z5, z6⟩ := xs.seven
    unfold put7 at Xx Ox Xy Oy BB
    clear xs hb own
    go_upto_region 15 with (fail)
    generalize (((((((w12).setCell ⟨g2, 0, none⟩ (.int .u8 y2.ph)).setCell ⟨g2, 1, none⟩ (.int .i64 y2.ba)).setCell ⟨g2, 2, none⟩ (.slice A12 y2.ms.length c12)).setCell ⟨g2, 3, none⟩ (.string y2.wi)).setCell ⟨g2, 4, none⟩ (.string y2.va)).setCell ⟨g2, 5, none⟩ (.slice D12 y2.ps.length q12)).setCell ⟨g2, 6, none⟩ (.slice C12 y2.ac.length f12) = uw12 at Xx Ox Xy Oy BB ⊢
    clear z0 z1 z2 z3 z4 z5 z6
    by_cases z5 : e5 = 0
    rotate_left
    ·
      have z5b : (e5 != 0) = true := by simpa using z5
      clear z5
      go_wp2_with fail
      go_ret
      exact ⟨rfl, bmore B0.out BB.out (Nat.le_refl _)⟩
    by_cases z6 : e6 = 0
    rotate_left
    ·
      have z6b : (e6 != 0) = true := by simpa using z6
      clear z6
      subst z5
      go_wp2_with fail
      go_ret
      exact ⟨rfl, bmore B0.out BB.out (Nat.le_refl _)⟩
    obtain ⟨r1, r2, r3⟩ := HAO.out z5 z6
    subst z5 z6 r1 r2 r3
    clear HAO
    go_upto_region 17 with (fail)
    obtain ⟨⟨s00, s01, s02, s03, s04, s05, s06⟩, _⟩ := Xx.out.seven
    go_wp2_with fail
    clear s00 s01 s02 s03 s04 s05 s06
    refine (CU2.out _ _ Ox.out.is).mono ?_
    rintro e w13 ⟨v, rfl, own, hb⟩
    obtain ⟨A13, c13, D13, q13, C13, f13, rfl⟩ := own.form
    have hb2 : Below uw12.heap.size uw12 (w13.alloc (.cells #[.int .u8 u2.ph, .int .i64 u2.ba, .slice A13 u2.ms.length c13, .string u2.wi, .string u2.va, .slice D13 u2.ps.length q13, .slice C13 u2.ac.length f13] 25)) := hb.alloc hb.size _
    have hgs : W0.heap.size ≤ w13.heap.size := Nat.le_trans BB.out.size hb.size
    have hnx : g1 ≠ w13.heap.size := by have := Xx.out.lt; have := hb.size; omega
    have hny : g2 ≠ w13.heap.size := by have := Xy.out.lt; have := hb.size; omega
    replace Xx := Lib.hid (Xx.out.below hb2 Xx.out.lt)
    replace Ox := Lib.hid (Ox.out.below hb2)
    replace Xy := Lib.hid (Xy.out.below hb2 Xy.out.lt)
    replace Oy := Lib.hid (Oy.out.below hb2)
    replace BB := Lib.hid (bmore BB.out hb2 (Nat.le_refl _))
    have Xu := Lib.hid (Box.new w13 25 #[.int .u8 u2.ph, .int .i64 u2.ba, .slice A13 u2.ms.length c13, .string u2.wi, .string u2.va, .slice D13 u2.ps.length q13, .slice C13 u2.ac.length f13])
    have Ou := Lib.hid (own.alloc (.cells #[.int .u8 u2.ph, .int .i64 u2.ba, .slice A13 u2.ms.length c13, .string u2.wi, .string u2.va, .slice D13 u2.ps.length q13, .slice C13 u2.ac.length f13] 25))
    clear hb hb2 own
    go_upto_region 18 with (fail)
    generalize w13.alloc (.cells #[.int .u8 u2.ph, .int .i64 u2.ba, .slice A13 u2.ms.length c13, .string u2.wi, .string u2.va, .slice D13 u2.ps.length q13, .slice C13 u2.ac.length f13] 25) = uw13 at Xx Ox Xy Oy Xu Ou BB ⊢
    generalize w13.heap.size = g13 at Xu hgs hnx hny ⊢
    have G13 := Lib.hid hgs; clear hgs
    have Nxu := Lib.hid hnx; clear hnx
    have Nyu := Lib.hid hny; clear hny
    obtain ⟨⟨s00, s01, s02, s03, s04, s05, s06⟩, _⟩ := Xy.out.seven
    go_wp2_with fail
    clear s00 s01 s02 s03 s04 s05 s06
    refine (CV2.out _ _ Oy.out.is).mono ?_
    rintro e w14 ⟨v, rfl, own, hb⟩
    obtain ⟨A14, c14, D14, q14, C14, f14, rfl⟩ := own.form
    have hb2 : Below uw13.heap.size uw13 (w14.alloc (.cells #[.int .u8 u2.ph, .int .i64 u2.ba, .slice A14 u2.ms.length c14, .string u2.wi, .string u2.va, .slice D14 u2.ps.length q14, .slice C14 u2.ac.length f14] 25)) := hb.alloc hb.size _
    have hgs : W0.heap.size ≤ w14.heap.size := Nat.le_trans BB.out.size hb.size
    have hnx : g1 ≠ w14.heap.size := by have := Xx.out.lt; have := hb.size; omega
    have hny : g2 ≠ w14.heap.size := by have := Xy.out.lt; have := hb.size; omega
    have hnu : g13 ≠ w14.heap.size := by have := Xu.out.lt; have := hb.size; omega
    replace Xx := Lib.hid (Xx.out.below hb2 Xx.out.lt)
    replace Ox := Lib.hid (Ox.out.below hb2)
    replace Xy := Lib.hid (Xy.out.below hb2 Xy.out.lt)
    replace Oy := Lib.hid (Oy.out.below hb2)
    replace Xu := Lib.hid (Xu.out.below hb2 Xu.out.lt)
    replace Ou := Lib.hid (Ou.out.below hb2)
    replace BB := Lib.hid (bmore BB.out hb2 (Nat.le_refl _))
    have Xv := Lib.hid (Box.new w14 25 #[.int .u8 u2.ph, .int .i64 u2.ba, .slice A14 u2.ms.length c14, .string u2.wi, .string u2.va, .slice D14 u2.ps.length q14, .slice C14 u2.ac.length f14])
    have Ov := Lib.hid (own.alloc (.cells #[.int .u8 u2.ph, .int .i64 u2.ba, .slice A14 u2.ms.length c14, .string u2.wi, .string u2.va, .slice D14 u2.ps.length q14, .slice C14 u2.ac.length f14] 25))
    clear hb hb2 own
    go_upto_region 19 with (fail)
    generalize w14.alloc (.cells #[.int .u8 u2.ph, .int .i64 u2.ba, .slice A14 u2.ms.length c14, .string u2.wi, .string u2.va, .slice D14 u2.ps.length q14, .slice C14 u2.ac.length f14] 25) = uw14 at Xx Ox Xy Oy Xu Ou Xv Ov BB ⊢
    generalize w14.heap.size = g14 at Xv hgs hnx hny hnu ⊢
    have G14 := Lib.hid hgs; clear hgs
    have Nxv := Lib.hid hnx; clear hnx
    have Nyv := Lib.hid hny; clear hny
    have Nuv := Lib.hid hnu; clear hnu
    obtain ⟨⟨s00, s01, s02, s03, s04, s05, s06⟩, _⟩ := Xu.out.seven
    obtain ⟨⟨s10, s11, s12, s13, s14, s15, s16⟩, _⟩ := Xv.out.seven
    go_wp2_with fail
    refine (CS2.out _ _ _ Ou.out.is Ov.out.is).mono ?_
    rintro e ws ⟨rfl, hb⟩
    replace BB := Lib.hid (bmore BB.out hb (Nat.le_refl _))
    clear hb
    first | rw [show decide (u2 = u2) = true by simp] | simp only [decide_true]
    go_wp2_with fail
    go_ret
    exact ⟨rfl, bmore B0.out BB.out (Nat.le_refl _)⟩
  rcases b3 : (y1.ph == 1) with _ | _
  ·
    obtain ⟨⟨s00, s01, s02, s03, s04, s05, s06⟩, _⟩ := Xx.out.seven
    obtain ⟨⟨s10, s11, s12, s13, s14, s15, s16⟩, _⟩ := Xy.out.seven
    obtain ⟨tp0, tp1, tp2, _⟩ := (Xp.out.below BB.out Xp.out.lt).three
    obtain ⟨tq0, tq1, tq2, _⟩ := (Xq.out.below BB.out Xq.out.lt).three
    go_upto_region 13 with (fail)
    clear s00 s01 s02 s03 s04 s05 s06
    clear s10 s11 s12 s13 s14 s15 s16
    clear tp0 tp1 tp2
    clear tq0 tq1 tq2
    clear HPO b0 b1 b2 b3
    obtain ⟨⟨ta0, ta1, ta2, ta3, ta4, ta5, ta6⟩, _⟩ := (XA.out.below BB.out XA.out.lt).seven
    go_wp2_with fail
    clear ta0 ta1 ta2 ta3 ta4 ta5 ta6
    refine (CX2.out _ BB.out).mono ?_
    rintro e w15 ⟨v, rfl, own, hb⟩
    obtain ⟨A15, c15, D15, q15, C15, f15, rfl⟩ := own.form
    have xs := Xx.out.below hb Xx.out.lt
    replace Xy := Lib.hid ((Xy.out.below hb Xy.out.lt).putFar7 (g' := g1) (by have := Nxy.out; exact fun e => this e.symm) (.int .u8 x2.ph) (.int .i64 x2.ba) (.slice A15 x2.ms.length c15) (.string x2.wi) (.string x2.va) (.slice D15 x2.ps.length q15) (.slice C15 x2.ac.length f15))
    replace Oy := Lib.hid ((Oy.out.below hb).far7 xs (.int .u8 x2.ph) (.int .i64 x2.ba) (.slice A15 x2.ms.length c15) (.string x2.wi) (.string x2.va) (.slice D15 x2.ps.length q15) (.slice C15 x2.ac.length f15))
    replace Xx := Lib.hid (xs.put7 (.int .u8 x2.ph) (.int .i64 x2.ba) (.slice A15 x2.ms.length c15) (.string x2.wi) (.string x2.va) (.slice D15 x2.ps.length q15) (.slice C15 x2.ac.length f15))
    replace Ox := Lib.hid (own.far7 xs (.int .u8 x2.ph) (.int .i64 x2.ba) (.slice A15 x2.ms.length c15) (.string x2.wi) (.string x2.va) (.slice D15 x2.ps.length q15) (.slice C15 x2.ac.length f15))
    replace BB := Lib.hid (below_put7 (bmore BB.out hb (Nat.le_refl _)) (g := g1) G1.out (.int .u8 x2.ph) (.int .i64 x2.ba) (.slice A15 x2.ms.length c15) (.string x2.wi) (.string x2.va) (.slice D15 x2.ps.length q15) (.slice C15 x2.ac.length f15))
    obtain ⟨_, z0, z1, z2, z3, z4, z5, z6⟩ := xs.seven
    unfold put7 at Xx Ox Xy Oy BB
    clear xs hb own
    go_upto_region 14 with (fail)
    generalize (((((((w15).setCell ⟨g1, 0, none⟩ (.int .u8 x2.ph)).setCell ⟨g1, 1, none⟩ (.int .i64 x2.ba)).setCell ⟨g1, 2, none⟩ (.slice A15 x2.ms.length c15)).setCell ⟨g1, 3, none⟩ (.string x2.wi)).setCell ⟨g1, 4, none⟩ (.string x2.va)).setCell ⟨g1, 5, none⟩ (.slice D15 x2.ps.length q15)).setCell ⟨g1, 6, none⟩ (.slice C15 x2.ac.length f15) = uw15 at Xx Ox Xy Oy BB ⊢
    clear z0 z1 z2 z3 z4 z5 z6
    obtain ⟨⟨ta0, ta1, ta2, ta3, ta4, ta5, ta6⟩, _⟩ := (XA.out.below BB.out XA.out.lt).seven
    go_wp2_with fail
    clear ta0 ta1 ta2 ta3 ta4 ta5 ta6
    refine (CY2.out _ BB.out).mono ?_
    rintro e w16 ⟨v, rfl, own, hb⟩
    obtain ⟨A16, c16, D16, q16, C16, f16, rfl⟩ := own.form
    have xs := Xy.out.below hb Xy.out.lt
    replace Xx := Lib.hid ((Xx.out.below hb Xx.out.lt).putFar7 (g' := g2) (by have := Nxy.out; exact this) (.int .u8 y2.ph) (.int .i64 y2.ba) (.slice A16 y2.ms.length c16) (.string y2.wi) (.string y2.va) (.slice D16 y2.ps.length q16) (.slice C16 y2.ac.length f16))
    replace Ox := Lib.hid ((Ox.out.below hb).far7 xs (.int .u8 y2.ph) (.int .i64 y2.ba) (.slice A16 y2.ms.length c16) (.string y2.wi) (.string y2.va) (.slice D16 y2.ps.length q16) (.slice C16 y2.ac.length f16))
    replace Xy := Lib.hid (xs.put7 (.int .u8 y2.ph) (.int .i64 y2.ba) (.slice A16 y2.ms.length c16) (.string y2.wi) (.string y2.va) (.slice D16 y2.ps.length q16) (.slice C16 y2.ac.length f16))
    replace Oy := Lib.hid (own.far7 xs (.int .u8 y2.ph) (.int .i64 y2.ba) (.slice A16 y2.ms.length c16) (.string y2.wi) (.string y2.va) (.slice D16 y2.ps.length q16) (.slice C16 y2.ac.length f16))
    replace BB := Lib.hid (below_put7 (bmore BB.out hb (Nat.le_refl _)) (g := g2) G2.out (.int .u8 y2.ph) (.int .i64 y2.ba) (.slice A16 y2.ms.length c16) (.string y2.wi) (.string y2.va) (.slice D16 y2.ps.length q16) (.slice C16 y2.ac.length f16))
    obtain ⟨_, z0, z1, z2, z3, z4, z5, z6⟩ := xs.seven
    unfold put7 at Xx Ox Xy Oy BB
    clear xs hb own
    go_upto_region 15 with (fail)
    generalize (((((((w16).setCell ⟨g2, 0, none⟩ (.int .u8 y2.ph)).setCell ⟨g2, 1, none⟩ (.int .i64 y2.ba)).setCell ⟨g2, 2, none⟩ (.slice A16 y2.ms.length c16)).setCell ⟨g2, 3, none⟩ (.string y2.wi)).setCell ⟨g2, 4, none⟩ (.string y2.va)).setCell ⟨g2, 5, none⟩ (.slice D16 y2.ps.length q16)).setCell ⟨g2, 6, none⟩ (.slice C16 y2.ac.length f16) = uw16 at Xx Ox Xy Oy BB ⊢
    clear z0 z1 z2 z3 z4 z5 z6
    by_cases z5 : e5 = 0
    rotate_left
    ·
      have z5b : (e5 != 0) = true := by simpa using z5
      clear z5
      go_wp2_with fail
      go_ret
      exact ⟨rfl, bmore B0.out BB.out (Nat.le_refl _)⟩
    by_cases z6 : e6 = 0
    rotate_left
    ·
      have z6b : (e6 != 0) = true := by simpa using z6
      clear z6
      subst z5
      go_wp2_with fail
      go_ret
      exact ⟨rfl, bmore B0.out BB.out (Nat.le_refl _)⟩
    obtain ⟨r1, r2, r3⟩ := HAO.out z5 z6
    subst z5 z6 r1 r2 r3
    clear HAO
    go_upto_region 17 with (fail)
    obtain ⟨⟨s00, s01, s02, s03, s04, s05, s06⟩, _⟩ := Xx.out.seven
    go_wp2_with fail
    clear s00 s01 s02 s03 s04 s05 s06
    refine (CU2.out _ _ Ox.out.is).mono ?_
    rintro e w17 ⟨v, rfl, own, hb⟩
    obtain ⟨A17, c17, D17, q17, C17, f17, rfl⟩ := own.form
    have hb2 : Below uw16.heap.size uw16 (w17.alloc (.cells #[.int .u8 u2.ph, .int .i64 u2.ba, .slice A17 u2.ms.length c17, .string u2.wi, .string u2.va, .slice D17 u2.ps.length q17, .slice C17 u2.ac.length f17] 25)) := hb.alloc hb.size _
    have hgs : W0.heap.size ≤ w17.heap.size := Nat.le_trans BB.out.size hb.size
    have hnx : g1 ≠ w17.heap.size := by have := Xx.out.lt; have := hb.size; omega
    have hny : g2 ≠ w17.heap.size := by have := Xy.out.lt; have := hb.size; omega
    replace Xx := Lib.hid (Xx.out.below hb2 Xx.out.lt)
    replace Ox := Lib.hid (Ox.out.below hb2)
    replace Xy := Lib.hid (Xy.out.below hb2 Xy.out.lt)
    replace Oy := Lib.hid (Oy.out.below hb2)
    replace BB := Lib.hid (bmore BB.out hb2 (Nat.le_refl _))
    have Xu := Lib.hid (Box.new w17 25 #[.int .u8 u2.ph, .int .i64 u2.ba, .slice A17 u2.ms.length c17, .string u2.wi, .string u2.va, .slice D17 u2.ps.length q17, .slice C17 u2.ac.length f17])
    have Ou := Lib.hid (own.alloc (.cells #[.int .u8 u2.ph, .int .i64 u2.ba, .slice A17 u2.ms.length c17, .string u2.wi, .string u2.va, .slice D17 u2.ps.length q17, .slice C17 u2.ac.length f17] 25))
    clear hb hb2 own
    go_upto_region 18 with (fail)
    generalize w17.alloc (.cells #[.int .u8 u2.ph, .int .i64 u2.ba, .slice A17 u2.ms.length c17, .string u2.wi, .string u2.va, .slice D17 u2.ps.length q17, .slice C17 u2.ac.length f17] 25) = uw17 at Xx Ox Xy Oy Xu Ou BB ⊢
    generalize w17.heap.size = g17 at Xu hgs hnx hny ⊢
    have G17 := Lib.hid hgs; clear hgs
    have Nxu := Lib.hid hnx; clear hnx
    have Nyu := Lib.hid hny; clear hny
    obtain ⟨⟨s00, s01, s02, s03, s04, s05, s06⟩, _⟩ := Xy.out.seven
    go_wp2_with fail
    clear s00 s01 s02 s03 s04 s05 s06
    refine (CV2.out _ _ Oy.out.is).mono ?_
    rintro e w18 ⟨v, rfl, own, hb⟩
    obtain ⟨A18, c18, D18, q18, C18, f18, rfl⟩ := own.form
    have hb2 : Below uw17.heap.size uw17 (w18.alloc (.cells #[.int .u8 u2.ph, .int .i64 u2.ba, .slice A18 u2.ms.length c18, .string u2.wi, .string u2.va, .slice D18 u2.ps.length q18, .slice C18 u2.ac.length f18] 25)) := hb.alloc hb.size _
    have hgs : W0.heap.size ≤ w18.heap.size := Nat.le_trans BB.out.size hb.size
    have hnx : g1 ≠ w18.heap.size := by have := Xx.out.lt; have := hb.size; omega
    have hny : g2 ≠ w18.heap.size := by have := Xy.out.lt; have := hb.size; omega
    have hnu : g17 ≠ w18.heap.size := by have := Xu.out.lt; have := hb.size; omega
    replace Xx := Lib.hid (Xx.out.below hb2 Xx.out.lt)
    replace Ox := Lib.hid (Ox.out.below hb2)
    replace Xy := Lib.hid (Xy.out.below hb2 Xy.out.lt)
    replace Oy := Lib.hid (Oy.out.below hb2)
    replace Xu := Lib.hid (Xu.out.below hb2 Xu.out.lt)
    replace Ou := Lib.hid (Ou.out.below hb2)
    replace BB := Lib.hid (bmore BB.out hb2 (Nat.le_refl _))
    have Xv := Lib.hid (Box.new w18 25 #[.int .u8 u2.ph, .int .i64 u2.ba, .slice A18 u2.ms.length c18, .string u2.wi, .string u2.va, .slice D18 u2.ps.length q18, .slice C18 u2.ac.length f18])
    have Ov := Lib.hid (own.alloc (.cells #[.int .u8 u2.ph, .int .i64 u2.ba, .slice A18 u2.ms.length c18, .string u2.wi, .string u2.va, .slice D18 u2.ps.length q18, .slice C18 u2.ac.length f18] 25))
    clear hb hb2 own
    go_upto_region 19 with (fail)
    generalize w18.alloc (.cells #[.int .u8 u2.ph, .int .i64 u2.ba, .slice A18 u2.ms.length c18, .string u2.wi, .string u2.va, .slice D18 u2.ps.length q18, .slice C18 u2.ac.length f18] 25) = uw18 at Xx Ox Xy Oy Xu Ou Xv Ov BB ⊢
    generalize w18.heap.size = g18 at Xv hgs hnx hny hnu ⊢
    have G18 := Lib.hid hgs; clear hgs
    have Nxv := Lib.hid hnx; clear hnx
    have Nyv := Lib.hid hny; clear hny
    have Nuv := Lib.hid hnu; clear hnu
    obtain ⟨⟨s00, s01, s02, s03, s04, s05, s06⟩, _⟩ := Xu.out.seven
    obtain ⟨⟨s10, s11, s12, s13, s14, s15, s16⟩, _⟩ := Xv.out.seven
    go_wp2_with fail
    refine (CS2.out _ _ _ Ou.out.is Ov.out.is).mono ?_
    rintro e ws ⟨rfl, hb⟩
    replace BB := Lib.hid (bmore BB.out hb (Nat.le_refl _))
    clear hb
    first | rw [show decide (u2 = u2) = true by simp] | simp only [decide_true]
    go_wp2_with fail
    go_ret
    exact ⟨rfl, bmore B0.out BB.out (Nat.le_refl _)⟩
  rcases b4 : (p.n != q.n) with _ | _
  ·
    obtain ⟨⟨s00, s01, s02, s03, s04, s05, s06⟩, _⟩ := Xx.out.seven
    obtain ⟨⟨s10, s11, s12, s13, s14, s15, s16⟩, _⟩ := Xy.out.seven
    obtain ⟨tp0, tp1, tp2, _⟩ := (Xp.out.below BB.out Xp.out.lt).three
    obtain ⟨tq0, tq1, tq2, _⟩ := (Xq.out.below BB.out Xq.out.lt).three
    go_upto_region 13 with (fail)
    clear s00 s01 s02 s03 s04 s05 s06
    clear s10 s11 s12 s13 s14 s15 s16
    clear tp0 tp1 tp2
    clear tq0 tq1 tq2
    clear HPO b0 b1 b2 b3 b4
    obtain ⟨⟨ta0, ta1, ta2, ta3, ta4, ta5, ta6⟩, _⟩ := (XA.out.below BB.out XA.out.lt).seven
    go_wp2_with fail
    clear ta0 ta1 ta2 ta3 ta4 ta5 ta6
    refine (CX2.out _ BB.out).mono ?_
    rintro e w19 ⟨v, rfl, own, hb⟩
    obtain ⟨A19, c19, D19, q19, C19, f19, rfl⟩ := own.form
    have xs := Xx.out.below hb Xx.out.lt
    replace Xy := Lib.hid ((Xy.out.below hb Xy.out.lt).putFar7 (g' := g1) (by have := Nxy.out; exact fun e => this e.symm) (.int .u8 x2.ph) (.int .i64 x2.ba) (.slice A19 x2.ms.length c19) (.string x2.wi) (.string x2.va) (.slice D19 x2.ps.length q19) (.slice C19 x2.ac.length f19))
    replace Oy := Lib.hid ((Oy.out.below hb).far7 xs (.int .u8 x2.ph) (.int .i64 x2.ba) (.slice A19 x2.ms.length c19) (.string x2.wi) (.string x2.va) (.slice D19 x2.ps.length q19) (.slice C19 x2.ac.length f19))
    replace Xx := Lib.hid (xs.put7 (.int .u8 x2.ph) (.int .i64 x2.ba) (.slice A19 x2.ms.length c19) (.string x2.wi) (.string x2.va) (.slice D19 x2.ps.length q19) (.slice C19 x2.ac.length f19))
    replace Ox := Lib.hid (own.far7 xs (.int .u8 x2.ph) (.int .i64 x2.ba) (.slice A19 x2.ms.length c19) (.string x2.wi) (.string x2.va) (.slice D19 x2.ps.length q19) (.slice C19 x2.ac.length f19))
    replace BB := Lib.hid (below_put7 (bmore BB.out hb (Nat.le_refl _)) (g := g1) G1.out (.int .u8 x2.ph) (.int .i64 x2.ba) (.slice A19 x2.ms.length c19) (.string x2.wi) (.string x2.va) (.slice D19 x2.ps.length q19) (.slice C19 x2.ac.length f19))
    obtain ⟨_, z0, z1, z2, z3, z4, z5, z6⟩ := xs.seven
    unfold put7 at Xx Ox Xy Oy BB
    clear xs hb own
    go_upto_region 14 with (fail)
    generalize (((((((w19).setCell ⟨g1, 0, none⟩ (.int .u8 x2.ph)).setCell ⟨g1, 1, none⟩ (.int .i64 x2.ba)).setCell ⟨g1, 2, none⟩ (.slice A19 x2.ms.length c19)).setCell ⟨g1, 3, none⟩ (.string x2.wi)).setCell ⟨g1, 4, none⟩ (.string x2.va)).setCell ⟨g1, 5, none⟩ (.slice D19 x2.ps.length q19)).setCell ⟨g1, 6, none⟩ (.slice C19 x2.ac.length f19) = uw19 at Xx Ox Xy Oy BB ⊢
    clear z0 z1 z2 z3 z4 z5 z6
    obtain ⟨⟨ta0, ta1, ta2, ta3, ta4, ta5, ta6⟩, _⟩ := (XA.out.below BB.out XA.out.lt).seven
    go_wp2_with fail
    clear ta0 ta1 ta2 ta3 ta4 ta5 ta6
    refine (CY2.out _ BB.out).mono ?_
    rintro e w20 ⟨v, rfl, own, hb⟩
    obtain ⟨A20, c20, D20, q20, C20, f20, rfl⟩ := own.form
    have xs := Xy.out.below hb Xy.out.lt
    replace Xx := Lib.hid ((Xx.out.below hb Xx.out.lt).putFar7 (g' := g2) (by have := Nxy.out; exact this) (.int .u8 y2.ph) (.int .i64 y2.ba) (.slice A20 y2.ms.length c20) (.string y2.wi) (.string y2.va) (.slice D20 y2.ps.length q20) (.slice C20 y2.ac.length f20))
    replace Ox := Lib.hid ((Ox.out.below hb).far7 xs (.int .u8 y2.ph) (.int .i64 y2.ba) (.slice A20 y2.ms.length c20) (.string y2.wi) (.string y2.va) (.slice D20 y2.ps.length q20) (.slice C20 y2.ac.length f20))
    replace Xy := Lib.hid (xs.put7 (.int .u8 y2.ph) (.int .i64 y2.ba) (.slice A20 y2.ms.length c20) (.string y2.wi) (.string y2.va) (.slice D20 y2.ps.length q20) (.slice C20 y2.ac.length f20))
    replace Oy := Lib.hid (own.far7 xs (.int .u8 y2.ph) (.int .i64 y2.ba) (.slice A20 y2.ms.length c20) (.string y2.wi) (.string y2.va) (.slice D20 y2.ps.length q20) (.slice C20 y2.ac.length f20))
    replace BB := Lib.hid (below_put7 (bmore BB.out hb (Nat.le_refl _)) (g := g2) G2.out (.int .u8 y2.ph) (.int .i64 y2.ba) (.slice A20 y2.ms.length c20) (.string y2.wi) (.string y2.va) (.slice D20 y2.ps.length q20) (.slice C20 y2.ac.length f20))
    obtain ⟨_, z0, z1, z2, z3, z4, z5, z6⟩ := xs.seven
    unfold put7 at Xx Ox Xy Oy BB
    clear xs hb own
    go_upto_region 15 with (fail)
    generalize (((((((w20).setCell ⟨g2, 0, none⟩ (.int .u8 y2.ph)).setCell ⟨g2, 1, none⟩ (.int .i64 y2.ba)).setCell ⟨g2, 2, none⟩ (.slice A20 y2.ms.length c20)).setCell ⟨g2, 3, none⟩ (.string y2.wi)).setCell ⟨g2, 4, none⟩ (.string y2.va)).setCell ⟨g2, 5, none⟩ (.slice D20 y2.ps.length q20)).setCell ⟨g2, 6, none⟩ (.slice C20 y2.ac.length f20) = uw20 at Xx Ox Xy Oy BB ⊢
    clear z0 z1 z2 z3 z4 z5 z6
    by_cases z5 : e5 = 0
    rotate_left
    ·
      have z5b : (e5 != 0) = true := by simpa using z5
      clear z5
      go_wp2_with fail
      go_ret
      exact ⟨rfl, bmore B0.out BB.out (Nat.le_refl _)⟩
    by_cases z6 : e6 = 0
    rotate_left
    ·
      have z6b : (e6 != 0) = true := by simpa using z6
      clear z6
      subst z5
      go_wp2_with fail
      go_ret
      exact ⟨rfl, bmore B0.out BB.out (Nat.le_refl _)⟩
    obtain ⟨r1, r2, r3⟩ := HAO.out z5 z6
    subst z5 z6 r1 r2 r3
    clear HAO
    go_upto_region 17 with (fail)
    obtain ⟨⟨s00, s01, s02, s03, s04, s05, s06⟩, _⟩ := Xx.out.seven
    go_wp2_with fail
    clear s00 s01 s02 s03 s04 s05 s06
    refine (CU2.out _ _ Ox.out.is).mono ?_
    rintro e w21 ⟨v, rfl, own, hb⟩
    obtain ⟨A21, c21, D21, q21, C21, f21, rfl⟩ := own.form
    have hb2 : Below uw20.heap.size uw20 (w21.alloc (.cells #[.int .u8 u2.ph, .int .i64 u2.ba, .slice A21 u2.ms.length c21, .string u2.wi, .string u2.va, .slice D21 u2.ps.length q21, .slice C21 u2.ac.length f21] 25)) := hb.alloc hb.size _
    have hgs : W0.heap.size ≤ w21.heap.size := Nat.le_trans BB.out.size hb.size
    have hnx : g1 ≠ w21.heap.size := by have := Xx.out.lt; have := hb.size; omega
    have hny : g2 ≠ w21.heap.size := by have := Xy.out.lt; have := hb.size; omega
    replace Xx := Lib.hid (Xx.out.below hb2 Xx.out.lt)
    replace Ox := Lib.hid (Ox.out.below hb2)
    replace Xy := Lib.hid (Xy.out.below hb2 Xy.out.lt)
    replace Oy := Lib.hid (Oy.out.below hb2)
    replace BB := Lib.hid (bmore BB.out hb2 (Nat.le_refl _))
    have Xu := Lib.hid (Box.new w21 25 #[.int .u8 u2.ph, .int .i64 u2.ba, .slice A21 u2.ms.length c21, .string u2.wi, .string u2.va, .slice D21 u2.ps.length q21, .slice C21 u2.ac.length f21])
    have Ou := Lib.hid (own.alloc (.cells #[.int .u8 u2.ph, .int .i64 u2.ba, .slice A21 u2.ms.length c21, .string u2.wi, .string u2.va, .slice D21 u2.ps.length q21, .slice C21 u2.ac.length f21] 25))
    clear hb hb2 own
    go_upto_region 18 with (fail)
    generalize w21.alloc (.cells #[.int .u8 u2.ph, .int .i64 u2.ba, .slice A21 u2.ms.length c21, .string u2.wi, .string u2.va, .slice D21 u2.ps.length q21, .slice C21 u2.ac.length f21] 25) = uw21 at Xx Ox Xy Oy Xu Ou BB ⊢
    generalize w21.heap.size = g21 at Xu hgs hnx hny ⊢
    have G21 := Lib.hid hgs; clear hgs
    have Nxu := Lib.hid hnx; clear hnx
    have Nyu := Lib.hid hny; clear hny
    obtain ⟨⟨s00, s01, s02, s03, s04, s05, s06⟩, _⟩ := Xy.out.seven
    go_wp2_with fail
    clear s00 s01 s02 s03 s04 s05 s06
    refine (CV2.out _ _ Oy.out.is).mono ?_
    rintro e w22 ⟨v, rfl, own, hb⟩
    obtain ⟨A22, c22, D22, q22, C22, f22, rfl⟩ := own.form
    have hb2 : Below uw21.heap.size uw21 (w22.alloc (.cells #[.int .u8 u2.ph, .int .i64 u2.ba, .slice A22 u2.ms.length c22, .string u2.wi, .string u2.va, .slice D22 u2.ps.length q22, .slice C22 u2.ac.length f22] 25)) := hb.alloc hb.size _
    have hgs : W0.heap.size ≤ w22.heap.size := Nat.le_trans BB.out.size hb.size
    have hnx : g1 ≠ w22.heap.size := by have := Xx.out.lt; have := hb.size; omega
    have hny : g2 ≠ w22.heap.size := by have := Xy.out.lt; have := hb.size; omega
    have hnu : g21 ≠ w22.heap.size := by have := Xu.out.lt; have := hb.size; omega
    replace Xx := Lib.hid (Xx.out.below hb2 Xx.out.lt)
    replace Ox := Lib.hid (Ox.out.below hb2)
    replace Xy := Lib.hid (Xy.out.below hb2 Xy.out.lt)
    replace Oy := Lib.hid (Oy.out.below hb2)
    replace Xu := Lib.hid (Xu.out.below hb2 Xu.out.lt)
    replace Ou := Lib.hid (Ou.out.below hb2)
    replace BB := Lib.hid (bmore BB.out hb2 (Nat.le_refl _))
    have Xv := Lib.hid (Box.new w22 25 #[.int .u8 u2.ph, .int .i64 u2.ba, .slice A22 u2.ms.length c22, .string u2.wi, .string u2.va, .slice D22 u2.ps.length q22, .slice C22 u2.ac.length f22])
    have Ov := Lib.hid (own.alloc (.cells #[.int .u8 u2.ph, .int .i64 u2.ba, .slice A22 u2.ms.length c22, .string u2.wi, .string u2.va, .slice D22 u2.ps.length q22, .slice C22 u2.ac.length f22] 25))
    clear hb hb2 own
    go_upto_region 19 with (fail)
    generalize w22.alloc (.cells #[.int .u8 u2.ph, .int .i64 u2.ba, .slice A22 u2.ms.length c22, .string u2.wi, .string u2.va, .slice D22 u2.ps.length q22, .slice C22 u2.ac.length f22] 25) = uw22 at Xx Ox Xy Oy Xu Ou Xv Ov BB ⊢
    generalize w22.heap.size = g22 at Xv hgs hnx hny hnu ⊢
    have G22 := Lib.hid hgs; clear hgs
    have Nxv := Lib.hid hnx; clear hnx
    have Nyv := Lib.hid hny; clear hny
    have Nuv := Lib.hid hnu; clear hnu
    obtain ⟨⟨s00, s01, s02, s03, s04, s05, s06⟩, _⟩ := Xu.out.seven
    obtain ⟨⟨s10, s11, s12, s13, s14, s15, s16⟩, _⟩ := Xv.out.seven
    go_wp2_with fail
    refine (CS2.out _ _ _ Ou.out.is Ov.out.is).mono ?_
    rintro e ws ⟨rfl, hb⟩
    replace BB := Lib.hid (bmore BB.out hb (Nat.le_refl _))
    clear hb
    first | rw [show decide (u2 = u2) = true by simp] | simp only [decide_true]
    go_wp2_with fail
    go_ret
    exact ⟨rfl, bmore B0.out BB.out (Nat.le_refl _)⟩
  obtain ⟨r1, r2, r3⟩ := HPO.out (by simpa using b0) (by simpa using b1) (by simpa using b2) (by simpa using b3) (by simpa using b4)
  subst r1 r2 r3
  clear HPO
  obtain ⟨⟨s00, s01, s02, s03, s04, s05, s06⟩, _⟩ := Xx.out.seven
  obtain ⟨⟨s10, s11, s12, s13, s14, s15, s16⟩, _⟩ := Xy.out.seven
  obtain ⟨tp0, tp1, tp2, _⟩ := (Xp.out.below BB.out Xp.out.lt).three
  obtain ⟨tq0, tq1, tq2, _⟩ := (Xq.out.below BB.out Xq.out.lt).three
  go_upto_region 9 with (fail)
  clear s00 s01 s02 s03 s04 s05 s06
  clear s10 s11 s12 s13 s14 s15 s16
  clear tp0 tp1 tp2
  clear tq0 tq1 tq2
  clear b0 b1 b2 b3 b4
  obtain ⟨⟨s00, s01, s02, s03, s04, s05, s06⟩, _⟩ := Xx.out.seven
  obtain ⟨tq0, tq1, tq2, _⟩ := (Xq.out.below BB.out Xq.out.lt).three
  go_wp2_with fail
  clear s00 s01 s02 s03 s04 s05 s06
  clear tq0 tq1 tq2
  refine (CU1.out _ _ Ox.out.is).mono ?_
  rintro e w23 ⟨v, rfl, own, hb⟩
  obtain ⟨A23, c23, D23, q23, C23, f23, rfl⟩ := own.form
  have hb2 : Below uw2.heap.size uw2 (w23.alloc (.cells #[.int .u8 u1.ph, .int .i64 u1.ba, .slice A23 u1.ms.length c23, .string u1.wi, .string u1.va, .slice D23 u1.ps.length q23, .slice C23 u1.ac.length f23] 25)) := hb.alloc hb.size _
  have hgs : W0.heap.size ≤ w23.heap.size := Nat.le_trans BB.out.size hb.size
  have hnx : g1 ≠ w23.heap.size := by have := Xx.out.lt; have := hb.size; omega
  have hny : g2 ≠ w23.heap.size := by have := Xy.out.lt; have := hb.size; omega
  replace Xx := Lib.hid (Xx.out.below hb2 Xx.out.lt)
  replace Ox := Lib.hid (Ox.out.below hb2)
  replace Xy := Lib.hid (Xy.out.below hb2 Xy.out.lt)
  replace Oy := Lib.hid (Oy.out.below hb2)
  replace BB := Lib.hid (bmore BB.out hb2 (Nat.le_refl _))
  have Xu1v := Lib.hid (Box.new w23 25 #[.int .u8 u1.ph, .int .i64 u1.ba, .slice A23 u1.ms.length c23, .string u1.wi, .string u1.va, .slice D23 u1.ps.length q23, .slice C23 u1.ac.length f23])
  have Ou1v := Lib.hid (own.alloc (.cells #[.int .u8 u1.ph, .int .i64 u1.ba, .slice A23 u1.ms.length c23, .string u1.wi, .string u1.va, .slice D23 u1.ps.length q23, .slice C23 u1.ac.length f23] 25))
  clear hb hb2 own
  go_upto_region 10 with (fail)
  generalize w23.alloc (.cells #[.int .u8 u1.ph, .int .i64 u1.ba, .slice A23 u1.ms.length c23, .string u1.wi, .string u1.va, .slice D23 u1.ps.length q23, .slice C23 u1.ac.length f23] 25) = uw23 at Xx Ox Xy Oy Xu1v Ou1v BB ⊢
  generalize w23.heap.size = g23 at Xu1v hgs hnx hny ⊢
  have G23 := Lib.hid hgs; clear hgs
  have Nxu1v := Lib.hid hnx; clear hnx
  have Nyu1v := Lib.hid hny; clear hny
  obtain ⟨⟨s00, s01, s02, s03, s04, s05, s06⟩, _⟩ := Xy.out.seven
  obtain ⟨tp0, tp1, tp2, _⟩ := (Xp.out.below BB.out Xp.out.lt).three
  go_wp2_with fail
  clear s00 s01 s02 s03 s04 s05 s06
  clear tp0 tp1 tp2
  refine (CV1.out _ _ Oy.out.is).mono ?_
  rintro e w24 ⟨v, rfl, own, hb⟩
  obtain ⟨A24, c24, D24, q24, C24, f24, rfl⟩ := own.form
  have hb2 : Below uw23.heap.size uw23 (w24.alloc (.cells #[.int .u8 u1.ph, .int .i64 u1.ba, .slice A24 u1.ms.length c24, .string u1.wi, .string u1.va, .slice D24 u1.ps.length q24, .slice C24 u1.ac.length f24] 25)) := hb.alloc hb.size _
  have hgs : W0.heap.size ≤ w24.heap.size := Nat.le_trans BB.out.size hb.size
  have hnx : g1 ≠ w24.heap.size := by have := Xx.out.lt; have := hb.size; omega
  have hny : g2 ≠ w24.heap.size := by have := Xy.out.lt; have := hb.size; omega
  have hnu1v : g23 ≠ w24.heap.size := by have := Xu1v.out.lt; have := hb.size; omega
  replace Xx := Lib.hid (Xx.out.below hb2 Xx.out.lt)
  replace Ox := Lib.hid (Ox.out.below hb2)
  replace Xy := Lib.hid (Xy.out.below hb2 Xy.out.lt)
  replace Oy := Lib.hid (Oy.out.below hb2)
  replace Xu1v := Lib.hid (Xu1v.out.below hb2 Xu1v.out.lt)
  replace Ou1v := Lib.hid (Ou1v.out.below hb2)
  replace BB := Lib.hid (bmore BB.out hb2 (Nat.le_refl _))
  have Xv1v := Lib.hid (Box.new w24 25 #[.int .u8 u1.ph, .int .i64 u1.ba, .slice A24 u1.ms.length c24, .string u1.wi, .string u1.va, .slice D24 u1.ps.length q24, .slice C24 u1.ac.length f24])
  have Ov1v := Lib.hid (own.alloc (.cells #[.int .u8 u1.ph, .int .i64 u1.ba, .slice A24 u1.ms.length c24, .string u1.wi, .string u1.va, .slice D24 u1.ps.length q24, .slice C24 u1.ac.length f24] 25))
  clear hb hb2 own
  go_upto_region 11 with (fail)
  generalize w24.alloc (.cells #[.int .u8 u1.ph, .int .i64 u1.ba, .slice A24 u1.ms.length c24, .string u1.wi, .string u1.va, .slice D24 u1.ps.length q24, .slice C24 u1.ac.length f24] 25) = uw24 at Xx Ox Xy Oy Xu1v Ou1v Xv1v Ov1v BB ⊢
  generalize w24.heap.size = g24 at Xv1v hgs hnx hny hnu1v ⊢
  have G24 := Lib.hid hgs; clear hgs
  have Nxv1v := Lib.hid hnx; clear hnx
  have Nyv1v := Lib.hid hny; clear hny
  have Nu1vv1v := Lib.hid hnu1v; clear hnu1v
  obtain ⟨⟨s00, s01, s02, s03, s04, s05, s06⟩, _⟩ := Xu1v.out.seven
  obtain ⟨⟨s10, s11, s12, s13, s14, s15, s16⟩, _⟩ := Xv1v.out.seven
  go_wp2_with fail
  clear s00 s01 s02 s03 s04 s05 s06
  clear s10 s11 s12 s13 s14 s15 s16
  refine (CS1.out _ _ _ Ou1v.out.is Ov1v.out.is).mono ?_
  rintro e ws ⟨rfl, hb⟩
  first | rw [show decide (u1 = u1) = true by simp] | simp only [decide_true]
  clear Xu1v Ou1v
  clear Xv1v Ov1v
  replace Xx := Lib.hid (Xx.out.below hb Xx.out.lt)
  replace Ox := Lib.hid (Ox.out.below hb)
  replace Xy := Lib.hid (Xy.out.below hb Xy.out.lt)
  replace Oy := Lib.hid (Oy.out.below hb)
  replace BB := Lib.hid (bmore BB.out hb (Nat.le_refl _))
  clear hb
  go_upto_region 13 with (fail)
  obtain ⟨⟨ta0, ta1, ta2, ta3, ta4, ta5, ta6⟩, _⟩ := (XA.out.below BB.out XA.out.lt).seven
  go_wp2_with fail
  clear ta0 ta1 ta2 ta3 ta4 ta5 ta6
  refine (CX2.out _ BB.out).mono ?_
  rintro e w25 ⟨v, rfl, own, hb⟩
  obtain ⟨A25, c25, D25, q25, C25, f25, rfl⟩ := own.form
  have xs := Xx.out.below hb Xx.out.lt
  replace Xy := Lib.hid ((Xy.out.below hb Xy.out.lt).putFar7 (g' := g1) (by have := Nxy.out; exact fun e => this e.symm) (.int .u8 x2.ph) (.int .i64 x2.ba) (.slice A25 x2.ms.length c25) (.string x2.wi) (.string x2.va) (.slice D25 x2.ps.length q25) (.slice C25 x2.ac.length f25))
  replace Oy := Lib.hid ((Oy.out.below hb).far7 xs (.int .u8 x2.ph) (.int .i64 x2.ba) (.slice A25 x2.ms.length c25) (.string x2.wi) (.string x2.va) (.slice D25 x2.ps.length q25) (.slice C25 x2.ac.length f25))
  replace Xx := Lib.hid (xs.put7 (.int .u8 x2.ph) (.int .i64 x2.ba) (.slice A25 x2.ms.length c25) (.string x2.wi) (.string x2.va) (.slice D25 x2.ps.length q25) (.slice C25 x2.ac.length f25))
  replace Ox := Lib.hid (own.far7 xs (.int .u8 x2.ph) (.int .i64 x2.ba) (.slice A25 x2.ms.length c25) (.string x2.wi) (.string x2.va) (.slice D25 x2.ps.length q25) (.slice C25 x2.ac.length f25))
  replace BB := Lib.hid (below_put7 (bmore BB.out hb (Nat.le_refl _)) (g := g1) G1.out (.int .u8 x2.ph) (.int .i64 x2.ba) (.slice A25 x2.ms.length c25) (.string x2.wi) (.string x2.va) (.slice D25 x2.ps.length q25) (.slice C25 x2.ac.length f25))
  obtain ⟨_, z0, z1, z2, z3, z4, z5, z6⟩ := xs.seven
  unfold put7 at Xx Ox Xy Oy BB
  clear xs hb own
  go_upto_region 14 with (fail)
  generalize (((((((w25).setCell ⟨g1, 0, none⟩ (.int .u8 x2.ph)).setCell ⟨g1, 1, none⟩ (.int .i64 x2.ba)).setCell ⟨g1, 2, none⟩ (.slice A25 x2.ms.length c25)).setCell ⟨g1, 3, none⟩ (.string x2.wi)).setCell ⟨g1, 4, none⟩ (.string x2.va)).setCell ⟨g1, 5, none⟩ (.slice D25 x2.ps.length q25)).setCell ⟨g1, 6, none⟩ (.slice C25 x2.ac.length f25) = uw25 at Xx Ox Xy Oy BB ⊢
  clear z0 z1 z2 z3 z4 z5 z6
  obtain ⟨⟨ta0, ta1, ta2, ta3, ta4, ta5, ta6⟩, _⟩ := (XA.out.below BB.out XA.out.lt).seven
  go_wp2_with fail
  clear ta0 ta1 ta2 ta3 ta4 ta5 ta6
  refine (CY2.out _ BB.out).mono ?_
  rintro e w26 ⟨v, rfl, own, hb⟩
  obtain ⟨A26, c26, D26, q26, C26, f26, rfl⟩ := own.form
  have xs := Xy.out.below hb Xy.out.lt
  replace Xx := Lib.hid ((Xx.out.below hb Xx.out.lt).putFar7 (g' := g2) (by have := Nxy.out; exact this) (.int .u8 y2.ph) (.int .i64 y2.ba) (.slice A26 y2.ms.length c26) (.string y2.wi) (.string y2.va) (.slice D26 y2.ps.length q26) (.slice C26 y2.ac.length f26))
  replace Ox := Lib.hid ((Ox.out.below hb).far7 xs (.int .u8 y2.ph) (.int .i64 y2.ba) (.slice A26 y2.ms.length c26) (.string y2.wi) (.string y2.va) (.slice D26 y2.ps.length q26) (.slice C26 y2.ac.length f26))
  replace Xy := Lib.hid (xs.put7 (.int .u8 y2.ph) (.int .i64 y2.ba) (.slice A26 y2.ms.length c26) (.string y2.wi) (.string y2.va) (.slice D26 y2.ps.length q26) (.slice C26 y2.ac.length f26))
  replace Oy := Lib.hid (own.far7 xs (.int .u8 y2.ph) (.int .i64 y2.ba) (.slice A26 y2.ms.length c26) (.string y2.wi) (.string y2.va) (.slice D26 y2.ps.length q26) (.slice C26 y2.ac.length f26))
  replace BB := Lib.hid (below_put7 (bmore BB.out hb (Nat.le_refl _)) (g := g2) G2.out (.int .u8 y2.ph) (.int .i64 y2.ba) (.slice A26 y2.ms.length c26) (.string y2.wi) (.string y2.va) (.slice D26 y2.ps.length q26) (.slice C26 y2.ac.length f26))
  obtain ⟨_, z0, z1, z2, z3, z4, z5, z6⟩ := xs.seven
  unfold put7 at Xx Ox Xy Oy BB
  clear xs hb own
  go_upto_region 15 with (fail)
  generalize (((((((w26).setCell ⟨g2, 0, none⟩ (.int .u8 y2.ph)).setCell ⟨g2, 1, none⟩ (.int .i64 y2.ba)).setCell ⟨g2, 2, none⟩ (.slice A26 y2.ms.length c26)).setCell ⟨g2, 3, none⟩ (.string y2.wi)).setCell ⟨g2, 4, none⟩ (.string y2.va)).setCell ⟨g2, 5, none⟩ (.slice D26 y2.ps.length q26)).setCell ⟨g2, 6, none⟩ (.slice C26 y2.ac.length f26) = uw26 at Xx Ox Xy Oy BB ⊢
  clear z0 z1 z2 z3 z4 z5 z6
  by_cases z5 : e5 = 0
  rotate_left
  ·
    have z5b : (e5 != 0) = true := by simpa using z5
    clear z5
    go_wp2_with fail
    go_ret
    exact ⟨rfl, bmore B0.out BB.out (Nat.le_refl _)⟩
  by_cases z6 : e6 = 0
  rotate_left
  ·
    have z6b : (e6 != 0) = true := by simpa using z6
    clear z6
    subst z5
    go_wp2_with fail
    go_ret
    exact ⟨rfl, bmore B0.out BB.out (Nat.le_refl _)⟩
  obtain ⟨r1, r2, r3⟩ := HAO.out z5 z6
  subst z5 z6 r1 r2 r3
  clear HAO
  go_upto_region 17 with (fail)
  obtain ⟨⟨s00, s01, s02, s03, s04, s05, s06⟩, _⟩ := Xx.out.seven
  go_wp2_with fail
  clear s00 s01 s02 s03 s04 s05 s06
  refine (CU2.out _ _ Ox.out.is).mono ?_
  rintro e w27 ⟨v, rfl, own, hb⟩
  obtain ⟨A27, c27, D27, q27, C27, f27, rfl⟩ := own.form
  have hb2 : Below uw26.heap.size uw26 (w27.alloc (.cells #[.int .u8 u2.ph, .int .i64 u2.ba, .slice A27 u2.ms.length c27, .string u2.wi, .string u2.va, .slice D27 u2.ps.length q27, .slice C27 u2.ac.length f27] 25)) := hb.alloc hb.size _
  have hgs : W0.heap.size ≤ w27.heap.size := Nat.le_trans BB.out.size hb.size
  have hnx : g1 ≠ w27.heap.size := by have := Xx.out.lt; have := hb.size; omega
  have hny : g2 ≠ w27.heap.size := by have := Xy.out.lt; have := hb.size; omega
  replace Xx := Lib.hid (Xx.out.below hb2 Xx.out.lt)
  replace Ox := Lib.hid (Ox.out.below hb2)
  replace Xy := Lib.hid (Xy.out.below hb2 Xy.out.lt)
  replace Oy := Lib.hid (Oy.out.below hb2)
  replace BB := Lib.hid (bmore BB.out hb2 (Nat.le_refl _))
  have Xu := Lib.hid (Box.new w27 25 #[.int .u8 u2.ph, .int .i64 u2.ba, .slice A27 u2.ms.length c27, .string u2.wi, .string u2.va, .slice D27 u2.ps.length q27, .slice C27 u2.ac.length f27])
  have Ou := Lib.hid (own.alloc (.cells #[.int .u8 u2.ph, .int .i64 u2.ba, .slice A27 u2.ms.length c27, .string u2.wi, .string u2.va, .slice D27 u2.ps.length q27, .slice C27 u2.ac.length f27] 25))
  clear hb hb2 own
  go_upto_region 18 with (fail)
  generalize w27.alloc (.cells #[.int .u8 u2.ph, .int .i64 u2.ba, .slice A27 u2.ms.length c27, .string u2.wi, .string u2.va, .slice D27 u2.ps.length q27, .slice C27 u2.ac.length f27] 25) = uw27 at Xx Ox Xy Oy Xu Ou BB ⊢
  generalize w27.heap.size = g27 at Xu hgs hnx hny ⊢
  have G27 := Lib.hid hgs; clear hgs
  have Nxu := Lib.hid hnx; clear hnx
  have Nyu := Lib.hid hny; clear hny
  obtain ⟨⟨s00, s01, s02, s03, s04, s05, s06⟩, _⟩ := Xy.out.seven
  go_wp2_with fail
  clear s00 s01 s02 s03 s04 s05 s06
  refine (CV2.out _ _ Oy.out.is).mono ?_
  rintro e w28 ⟨v, rfl, own, hb⟩
  obtain ⟨A28, c28, D28, q28, C28, f28, rfl⟩ := own.form
  have hb2 : Below uw27.heap.size uw27 (w28.alloc (.cells #[.int .u8 u2.ph, .int .i64 u2.ba, .slice A28 u2.ms.length c28, .string u2.wi, .string u2.va, .slice D28 u2.ps.length q28, .slice C28 u2.ac.length f28] 25)) := hb.alloc hb.size _
  have hgs : W0.heap.size ≤ w28.heap.size := Nat.le_trans BB.out.size hb.size
  have hnx : g1 ≠ w28.heap.size := by have := Xx.out.lt; have := hb.size; omega
  have hny : g2 ≠ w28.heap.size := by have := Xy.out.lt; have := hb.size; omega
  have hnu : g27 ≠ w28.heap.size := by have := Xu.out.lt; have := hb.size; omega
  replace Xx := Lib.hid (Xx.out.below hb2 Xx.out.lt)
  replace Ox := Lib.hid (Ox.out.below hb2)
  replace Xy := Lib.hid (Xy.out.below hb2 Xy.out.lt)
  replace Oy := Lib.hid (Oy.out.below hb2)
  replace Xu := Lib.hid (Xu.out.below hb2 Xu.out.lt)
  replace Ou := Lib.hid (Ou.out.below hb2)
  replace BB := Lib.hid (bmore BB.out hb2 (Nat.le_refl _))
  have Xv := Lib.hid (Box.new w28 25 #[.int .u8 u2.ph, .int .i64 u2.ba, .slice A28 u2.ms.length c28, .string u2.wi, .string u2.va, .slice D28 u2.ps.length q28, .slice C28 u2.ac.length f28])
  have Ov := Lib.hid (own.alloc (.cells #[.int .u8 u2.ph, .int .i64 u2.ba, .slice A28 u2.ms.length c28, .string u2.wi, .string u2.va, .slice D28 u2.ps.length q28, .slice C28 u2.ac.length f28] 25))
  clear hb hb2 own
  go_upto_region 19 with (fail)
  generalize w28.alloc (.cells #[.int .u8 u2.ph, .int .i64 u2.ba, .slice A28 u2.ms.length c28, .string u2.wi, .string u2.va, .slice D28 u2.ps.length q28, .slice C28 u2.ac.length f28] 25) = uw28 at Xx Ox Xy Oy Xu Ou Xv Ov BB ⊢
  generalize w28.heap.size = g28 at Xv hgs hnx hny hnu ⊢
  have G28 := Lib.hid hgs; clear hgs
  have Nxv := Lib.hid hnx; clear hnx
  have Nyv := Lib.hid hny; clear hny
  have Nuv := Lib.hid hnu; clear hnu
  obtain ⟨⟨s00, s01, s02, s03, s04, s05, s06⟩, _⟩ := Xu.out.seven
  obtain ⟨⟨s10, s11, s12, s13, s14, s15, s16⟩, _⟩ := Xv.out.seven
  go_wp2_with fail
  refine (CS2.out _ _ _ Ou.out.is Ov.out.is).mono ?_
  rintro e ws ⟨rfl, hb⟩
  replace BB := Lib.hid (bmore BB.out hb (Nat.le_refl _))
  clear hb
  first | rw [show decide (u2 = u2) = true by simp] | simp only [decide_true]
  go_wp2_with fail
  go_ret
  exact ⟨rfl, bmore B0.out BB.out (Nat.le_refl _)⟩
end Go.Proofs.Ytmcfamoicdmkdaa
