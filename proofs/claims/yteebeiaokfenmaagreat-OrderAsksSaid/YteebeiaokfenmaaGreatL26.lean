/- Contracts of functions, L26: each as its theorem says. -/
import Derived.BigRegion
import Derived.Test.YteebeiaokfenmaaGreatL22
set_option linter.unusedVariables false
set_option linter.unusedSimpArgs false
set_option maxRecDepth 100000
set_option maxHeartbeats 16000000
namespace Go.Proofs.YteebeiaokfenmaaGreat
namespace KP
open Go.RowKit CP TP
open CM (Mg Cm)
open TM (Sp)
open KM (Wt Sk)
theorem delK_any (b q n c i : Nat) (l : List Wt) (w : World) (h : KO KW w b 78 (.slice (some ⟨q, 0, none⟩) n c) l) (hi : i < n) (hn : n ≤ 2000) :
  Calls Tryz.prog 139 #[.slice (some ⟨q, 0, none⟩) n c, .int .i64 i, .int .i64 ((i : Int) + 1)] w fun e w' =>
   ∃ A' c', e = .returned (.slice A' (n - 1) c') ∧ KO KW w' b 78 (.slice A' (n - 1) c') (l.eraseIdx i) ∧ w.grownBy w' (some q) := by
 obtain ⟨es, rfl, ho, hr⟩ := h
 have hln : es.length = n := by
  obtain ⟨_, _, e, _⟩ := own_form ho
  injection e with _ e2
  exact e2.symm
 rw [hln] at ho
 rcases ho.2 with ⟨e, _⟩ | ⟨g, cap, cur, hs, hb, hx, hnc, hcm, hsz, htk⟩
 ·injection e with e; cases e
 ·injection hs with e1 e2 e3
  injection e1 with e1
  injection e1 with e1
  subst e1 e3
  refine (delW_any b q n c i (flat (exc KW) es) cur w hi hn hnc hcm hb hx hsz htk ho.1 (exc_one KW es)).mono ?_
  rintro e w' ⟨A', c', rfl, o2, g2⟩
  exact ⟨A', c', rfl, kO_del (K := KW) (v := .slice (some ⟨q, 0, none⟩) n c) es hln hi hr g2 o2 (by decide), g2⟩
theorem ptake15_any (w0 : World) (b p : Nat) (sc : Int) (A : Option Addr) (n cw : Nat) (B : Option Addr) (m cd : Nat) (ws : List Wt) (ds : List Sp) (k : Nat) (x : Wt) (Q : Option Addr) (q9 : Nat) (W : World)
  (h : PtC w0 b p sc (.slice A n cw) (.slice B m cd) ws ds W) (hx : ws[k]? = some x) (hp : ws.Pairwise fun a b => a.m.id < b.m.id) (hn : ws.length ≤ 200) (hd : ds.length ≤ 200) :
  Calls Tryz.prog 109 #[.pointer (some ⟨p, 0, none⟩), vwt Q q9 x] W fun e w' => e = .returned (.tuple #[]) ∧ (∃ vW vD, PtC w0 b p sc vW vD (ws.eraseIdx k) (ds ++ [KM.stp x]) w') ∧ Kept isC W w' ∧ ∀ g cs, A ≠ some ⟨g, 0, none⟩ → g ≠ p → Box W g 78 cs → Box w' g 78 cs := by
 obtain ⟨i0, hi, hz0, hz1, hz2⟩ := info_parts info_sp
 have hsl := h.ow.slice
 have hn2 : n ≤ 200 := by have := hsl.1; omega
 obtain ⟨_, cd', ed, h4, h5⟩ := own_form h.od
 injection ed with ed1 ed2 ed3
 subst ed1 ed2 ed3
 clear h4 h5
 have hwp : KM.wpos ws x.m.id = k := KM.wpos_of (Nat.le_of_lt (List.getElem?_eq_some_iff.1 hx).1) (fun t a ht ha => KM.rise_get hp ht ha hx) (fun a ha => by rw [hx] at ha; injection ha with ha; rw [ha]; exact Int.le_refl _)
 have KP1 := h! (fun W' (hb : Below W.heap.size W W') => pplace_any A n cw ws x.m.id W' (hsl.2.2.2.r.below hb) hp (by omega))
 rw [hwp] at KP1
 obtain ⟨R, hR⟩ : ∃ R, R = KM.whit ws x.m.id := ⟨_, rfl⟩
 rw [← hR] at KP1
 have hkn : k < n := by have := (List.getElem?_eq_some_iff.1 hx).1; have := hsl.1; omega
 obtain ⟨q, rfl⟩ := h.ow.some hx
 have CSt := h! (fun W' => pstampOf_any Q q9 x W')
 have HT := h! h
 have HQLT := h! (show q < W.heap.size from (h.ow.blk (g := q) rfl).2)
 have HPLT := h! h.bx.lt
 clear h hx hp hwp hsl hR
 obtain ⟨ds2, hds2⟩ : ∃ l, l = ds ++ [KM.stp x] := ⟨_, rfl⟩
 have HD2 := h! hds2
 rw [← hds2]
 clear hds2
 obtain ⟨xs, hxs⟩ : ∃ xs : Sp, xs = KM.stp x := ⟨_, rfl⟩
 have HXS := h! hxs
 rw [← hxs] at HD2
 clear hxs
 obtain ⟨⟨xi, xg, xt, xk, xb⟩, xm, xf⟩ := x
 unfold vwt at CSt ⊢
 unfold KM.stp at CSt HXS
 simp only at CSt KP1 HXS ⊢
 have HB := h! (show Below W.heap.size W (W.alloc (.cells #[.int .i64 xi, .slice Q xg.length q9, .int .i64 xt, .string xk, .string xb, .int .i64 xm, .bool xf] 78)) from (Below.refl _ _).alloc n! _)
 have Y := h! (Box.new W 78 #[.int .i64 xi, .slice Q xg.length q9, .int .i64 xt, .string xk, .string xb, .int .i64 xm, .bool xf])
 have HKA := h! (Kept.of_below (S := isC) HB.out)
 have HORD := h! (show b ≤ W.heap.size from HT.out.ord.2)
 go_enter Tryz.func109, Tryz.ntmps109
 go_upto_region 1 with (fail)
 replace HT := h! (HT.out.below HB.out)
 generalize W.alloc (.cells #[.int .i64 xi, .slice Q xg.length q9, .int .i64 xt, .string xk, .string xb, .int .i64 xm, .bool xf] 78) = w1 at HB Y HT HKA ⊢
 obtain ⟨g3, hg3⟩ : ∃ g3, W.heap.size = g3 := ⟨_, rfl⟩
 rw [hg3] at Y HORD
 simp only [hg3]
 have HG3 := h! hg3
 clear hg3
 have HPG := h! (show g3 ≠ p from fun e => by
  have h1 := HPLT.out
  have h2 := HG3.out
  omega)
 have HQG := h! (show q ≠ g3 from fun e => by
  have h1 := HQLT.out
  have h2 := HG3.out
  omega)
 obtain ⟨x0, x1, x2⟩ := box_sk HT.out.bx
 obtain ⟨a0, a1, a2, a3, a4, a5, a6⟩ := box_wt Y.out
 have HSS := h! (fun (w' : World) (h : Below w1.heap.size w1 w') => show w'.cell? ⟨p, 1, none⟩ = some (.slice (some ⟨q, 0, none⟩) n cw) ∧ w'.cell? ⟨g3, 0, none⟩ = some (.int .i64 xi) from
  ⟨(h.cell (cell_block x1)).trans x1, (h.cell (cell_block a0)).trans a0⟩)
 have bb1 : Below w1.heap.size w1 w1.drew := (Below.refl _ _).drew
 obtain ⟨ud, hud⟩ : ∃ ud, ud = w1.drew := ⟨_, rfl⟩
 refine wp_region_held_drew (S := fun w' => w'.cell? ⟨p, 1, none⟩ = some (.slice (some ⟨q, 0, none⟩) n cw) ∧ w'.cell? ⟨g3, 0, none⟩ = some (.int .i64 xi)) (by kernel_rfl) (HSS.out _ bb1) (fun hHeld => ?_)
 rw [← hud] at bb1 hHeld ⊢
 clear hud
 refine qT 0 ?_; try simp only [Act.put, qq]
 refine qT 1 ?_; try simp only [Act.put, qq]
 refine qT 2 ?_; try simp only [Act.put, qq]
 refine qT 3 ?_; try simp only [Act.put, qq]
 refine qT 4 ?_; try simp only [Act.put, qq]
 refine qT 5 ?_; try simp only [Act.put, qq]
 refine qT 6 ?_; try simp only [Act.put, qq]
 refine qR 7 fun K hK => ?_
 go_simp
 refine (KP1.out ud (bmore HB.out bb1 n!)).mono ?_
 rintro e w2 ⟨rfl, hb⟩
 have bb2 := bmore bb1 hb n!
 clear hb
 refine hK.out _ _ (HSS.out _ bb2) (fun hHeld => ?_)
 clear hK
 try simp only [Act.put, qq]
 refine qT 8 ?_; try simp only [Act.put, qq]
 refine qT 9 ?_; try simp only [Act.put, qq]
 refine qT 10 ?_; try simp only [Act.put, qq]
 refine qT 11 ?_; try simp only [Act.put, qq]
 refine qT 12 ?_; try simp only [Act.put, qq]
 refine wpAnyH_done (by kernel_rfl) ?_ _
 clear hHeld HSS
 have HT2 := h! (HT.out.below bb2)
 have Y2 := h! (Y.out.below bb2 Y.out.lt)
 have HK2 := h! (HKA.out.trans (Kept.of_below (S := isC) bb2))
 clear KP1 x0 x1 x2 a0 a1 a2 a3 a4 a5 a6
 obtain ⟨x0, x1, x2⟩ := box_sk HT2.out.bx
 have CD := h! (delK_any b q n cw k ws w2 HT2.out.ow hkn (by omega))
 have hk0 : (0 : Int) ≤ (k : Int) := by omega
 have hw1 : IntKind.i64.wrap ((k : Int) + 1) = (k : Int) + 1 := by rw [IntKind.wrap_i64]; omega
 go_wp2_with fail
 refine (CD.out).mono ?_
 rintro e w3 ⟨A3, c3, rfl, hko, hg⟩
 clear x0 x1 x2 CD
 have hkp3 : Kept (fun e => e = 78) w2 w3 := by
  obtain ⟨es, _, ho, _⟩ := HT2.out.ow
  exact Kept.grown (S := fun e => e = 78) ho rfl hg
 have hb3 := hkp3.box _ _ _ (by decide) HT2.out.bx
 have HNW := h! (HT2.out.newW (Below.refl _ _) hg hko)
 have hY3 := Y2.out.grown hg (by intro e; injection e with e; exact HQG.out e.symm)
 have Y4 := h! (show Box (w3.setCell ⟨p, 1, none⟩ (.slice A3 (n - 1) c3)) g3 78 #[.int .i64 xi, .slice Q xg.length q9, .int .i64 xt, .string xk, .string xb, .int .i64 xm, .bool xf] from hY3.far (p := ⟨p, 1, none⟩) (by exact HPG.out) _)
 have HK4 := h! (HK2.out.trans HNW.out.2)
 have HBX := h! (show ∀ g cs, (some ⟨q, 0, none⟩ : Option Addr) ≠ some ⟨g, 0, none⟩ → g ≠ p → Box W g 78 cs → Box (w3.setCell ⟨p, 1, none⟩ (.slice A3 (n - 1) c3)) g 78 cs from fun g cs n1 n2 hbx => by
  have h1 := hbx.below HB.out hbx.lt
  have h2 := h1.below bb2 h1.lt
  have h3 := h2.grown hg (by intro e; injection e with e; exact n1 (by rw [e]))
  exact h3.far (p := ⟨p, 1, none⟩) n2 _)
 have HT4 := h! HNW.out.1
 obtain ⟨x0, x1, x2, f0, f1, f2⟩ := hb3.three
 clear hko hg hkp3 hY3 HNW hb3
 go_upto_region 3 with (fail)
 generalize w3.setCell ⟨p, 1, none⟩ (.slice A3 (n - 1) c3) = w4 at Y4 HK4 HT4 HBX ⊢
 clear x0 x1 x2 f0 f1 f2 HT2 Y2 HK2 HT Y HB HKA w3
 obtain ⟨a0, a1, a2, a3, a4, a5, a6⟩ := box_wt Y4.out
 have HSS := h! (fun (w' : World) (h : Below w4.heap.size w4 w') => show w'.cell? ⟨g3, 0, none⟩ = some (.int .i64 xi) ∧ w'.cell? ⟨g3, 1, none⟩ = some (.slice Q xg.length q9) ∧ w'.cell? ⟨g3, 2, none⟩ = some (.int .i64 xt) ∧ w'.cell? ⟨g3, 3, none⟩ = some (.string xk) ∧ w'.cell? ⟨g3, 4, none⟩ = some (.string xb) ∧ w'.cell? ⟨g3, 5, none⟩ = some (.int .i64 xm) ∧ w'.cell? ⟨g3, 6, none⟩ = some (.bool xf) from
  ⟨(h.cell (cell_block a0)).trans a0, (h.cell (cell_block a1)).trans a1, (h.cell (cell_block a2)).trans a2, (h.cell (cell_block a3)).trans a3, (h.cell (cell_block a4)).trans a4, (h.cell (cell_block a5)).trans a5, (h.cell (cell_block a6)).trans a6⟩)
 have bb1 : Below w4.heap.size w4 w4.drew := (Below.refl _ _).drew
 have HSP := h! (fun (w' : World) (h2 : Box w' g3 78 #[.int .i64 xi, .slice Q xg.length q9, .int .i64 xt, .string xk, .string xb, .int .i64 xm, .bool xf]) => show w'.cell? ⟨g3, 0, none⟩ = some (.int .i64 xi) ∧ w'.cell? ⟨g3, 1, none⟩ = some (.slice Q xg.length q9) ∧ w'.cell? ⟨g3, 2, none⟩ = some (.int .i64 xt) ∧ w'.cell? ⟨g3, 3, none⟩ = some (.string xk) ∧ w'.cell? ⟨g3, 4, none⟩ = some (.string xb) ∧ w'.cell? ⟨g3, 5, none⟩ = some (.int .i64 xm) ∧ w'.cell? ⟨g3, 6, none⟩ = some (.bool xf) from box_wt h2)
 obtain ⟨ud, hud⟩ : ∃ ud, ud = w4.drew := ⟨_, rfl⟩
 refine wp_region_held_drew (S := fun w' => w'.cell? ⟨g3, 0, none⟩ = some (.int .i64 xi) ∧ w'.cell? ⟨g3, 1, none⟩ = some (.slice Q xg.length q9) ∧ w'.cell? ⟨g3, 2, none⟩ = some (.int .i64 xt) ∧ w'.cell? ⟨g3, 3, none⟩ = some (.string xk) ∧ w'.cell? ⟨g3, 4, none⟩ = some (.string xb) ∧ w'.cell? ⟨g3, 5, none⟩ = some (.int .i64 xm) ∧ w'.cell? ⟨g3, 6, none⟩ = some (.bool xf)) (by kernel_rfl) (HSS.out _ bb1) (fun hHeld => ?_)
 rw [← hud] at bb1 hHeld ⊢
 clear hud a0 a1 a2 a3 a4 a5 a6
 refine qT 0 ?_; try simp only [Act.put, qq]
 refine qT 1 ?_; try simp only [Act.put, qq]
 refine qT 2 ?_; try simp only [Act.put, qq]
 refine qT 3 ?_; try simp only [Act.put, qq]
 refine qT 5 ?_; try simp only [Act.put, qq]
 refine wpAnyH_ready (rs := [4, 6]) (by kernel_rfl) (by simp) ?_
 refine AllReadyH.cons rfl (fun K hK => ?_) (AllReadyH.cons rfl (fun K hK => ?_) AllReadyH.nil)
 ·have hx1 := (HT4.out.below bb1).bx.cell 2
  simp at hx1
  go_simp
  refine hK.out _ _ (HSS.out _ bb1) (fun hHeld => ?_)
  clear hK hx1
  try simp only [Act.put, qq]
  refine qR 6 fun K hK => ?_
  go_simp
  refine (CSt.out _).mono ?_
  rintro e w5 ⟨rfl, hbs⟩
  unfold vsp
  simp only
  have bb4 := bmore bb1 hbs n!
  clear hbs
  refine hK.out _ _ (HSS.out _ bb4) (fun hHeld => ?_)
  clear hK
  try simp only [Act.put, qq]
  refine qR 7 fun K hK => ?_
  go_simp
  have HRG := h! (rdG_box (s := 2) (n := 1) (Box.new w5 46 #[.int .i64 xm, .int .i64 xi]) (xs := spc xs) (by rw [HXS.out]; rfl) rfl)
  have bb5 : Below w4.heap.size w4 (w5.alloc (.cells #[.int .i64 xm, .int .i64 xi] 46)) := bmore bb4 ((Below.refl _ _).alloc n! _) n!
  refine hK.out _ _ (HSS.out _ bb5) (fun hHeld => ?_)
  clear hK
  try simp only [Act.put, qq]
  generalize w5.alloc (.cells #[.int .i64 xm, .int .i64 xi] 46) = w6 at HRG bb5 hHeld ⊢
  generalize w5.heap.size = blk at HRG ⊢
  refine qR 8 fun K hK => ?_
  refine step_append_h rfl (.tmp 32) (.tmp 35) 22 rfl b 46 i0 _ 2 16 Tryz.underlying22 hi hz0 hz1 hz2 rfl (by omega) (.slice B ds.length cd) ds.length (flat spc ds) (by simp [Act.eval, Act.put]) (HT4.out.below bb5).od (some ⟨blk, 0, none⟩) 1 1 (spc xs) (by simp [Act.eval, Act.put]) HRG.out (spc_one _) (by unfold maxLen; omega) (by omega) (HT4.out.below bb5).ord.2 ?_
  intro v2 w7 hown hgr hob
  obtain ⟨A7, c7, rfl, _, _⟩ := own_form hown
  have hkp := Kept.grown (S := fun e => e = 46) (HT4.out.below bb5).od rfl hgr
  have hb6 := hkp.box _ _ _ (by decide) (HT4.out.below bb5).bx
  have hq6 := hkp.box _ _ _ (by decide) (Y4.out.below bb5 Y4.out.lt)
  refine hK.out _ _ (HSP.out _ hq6) (fun hHeld => ?_)
  clear hK
  try simp only [Act.put, qq]
  refine qT 9 ?_; try simp only [Act.put, qq]
  refine qT 10 ?_; try simp only [Act.put, qq]
  have s2 := hb6.cell 2
  have g2 := hb6.frozen 2
  simp at s2
  refine qR 11 fun K hK => ?_
  go_simp
  have HAD := h! (HT4.out.addD bb5 hgr hown)
  refine hK.out _ _ (HSP.out _ ((Kept.set (S := fun e => e = 147) hb6 rfl _).box _ _ _ (by decide) hq6)) (fun hHeld => ?_)
  clear hK
  try simp only [Act.put, qq]
  refine wpAnyH_done (by kernel_rfl) ?_ _
  go_wp2_with fail
  go_end0
  exact ⟨rfl, ⟨_, _, by rw [HD2.out]; exact HAD.out.1⟩, HK4.out.trans HAD.out.2, fun g cs n1 n2 hbx => by
   have h1 := HBX.out g cs n1 n2 hbx
   have h2 := hkp.box _ _ _ (by decide) (h1.below bb5 h1.lt)
   exact h2.far (p := ⟨p, 2, none⟩) n2 _⟩
 ·go_simp
  refine (CSt.out _).mono ?_
  rintro e w5 ⟨rfl, hbs⟩
  unfold vsp
  simp only
  have bb4 := bmore bb1 hbs n!
  clear hbs
  refine hK.out _ _ (HSS.out _ bb4) (fun hHeld => ?_)
  clear hK
  try simp only [Act.put, qq]
  refine wpAnyH_ready (rs := [4, 7]) (by kernel_rfl) (by simp) ?_
  refine AllReadyH.cons rfl (fun K hK => ?_) (AllReadyH.cons rfl (fun K hK => ?_) AllReadyH.nil)
  ·have hx1 := (HT4.out.below bb4).bx.cell 2
   simp at hx1
   go_simp
   refine hK.out _ _ (HSS.out _ bb4) (fun hHeld => ?_)
   clear hK hx1
   try simp only [Act.put, qq]
   refine qR 7 fun K hK => ?_
   go_simp
   have HRG := h! (rdG_box (s := 2) (n := 1) (Box.new w5 46 #[.int .i64 xm, .int .i64 xi]) (xs := spc xs) (by rw [HXS.out]; rfl) rfl)
   have bb5 : Below w4.heap.size w4 (w5.alloc (.cells #[.int .i64 xm, .int .i64 xi] 46)) := bmore bb4 ((Below.refl _ _).alloc n! _) n!
   refine hK.out _ _ (HSS.out _ bb5) (fun hHeld => ?_)
   clear hK
   try simp only [Act.put, qq]
   generalize w5.alloc (.cells #[.int .i64 xm, .int .i64 xi] 46) = w6 at HRG bb5 hHeld ⊢
   generalize w5.heap.size = blk at HRG ⊢
   refine qR 8 fun K hK => ?_
   refine step_append_h rfl (.tmp 32) (.tmp 35) 22 rfl b 46 i0 _ 2 16 Tryz.underlying22 hi hz0 hz1 hz2 rfl (by omega) (.slice B ds.length cd) ds.length (flat spc ds) (by simp [Act.eval, Act.put]) (HT4.out.below bb5).od (some ⟨blk, 0, none⟩) 1 1 (spc xs) (by simp [Act.eval, Act.put]) HRG.out (spc_one _) (by unfold maxLen; omega) (by omega) (HT4.out.below bb5).ord.2 ?_
   intro v2 w7 hown hgr hob
   obtain ⟨A7, c7, rfl, _, _⟩ := own_form hown
   have hkp := Kept.grown (S := fun e => e = 46) (HT4.out.below bb5).od rfl hgr
   have hb6 := hkp.box _ _ _ (by decide) (HT4.out.below bb5).bx
   have hq6 := hkp.box _ _ _ (by decide) (Y4.out.below bb5 Y4.out.lt)
   refine hK.out _ _ (HSP.out _ hq6) (fun hHeld => ?_)
   clear hK
   try simp only [Act.put, qq]
   refine qT 9 ?_; try simp only [Act.put, qq]
   refine qT 10 ?_; try simp only [Act.put, qq]
   have s2 := hb6.cell 2
   have g2 := hb6.frozen 2
   simp at s2
   refine qR 11 fun K hK => ?_
   go_simp
   have HAD := h! (HT4.out.addD bb5 hgr hown)
   refine hK.out _ _ (HSP.out _ ((Kept.set (S := fun e => e = 147) hb6 rfl _).box _ _ _ (by decide) hq6)) (fun hHeld => ?_)
   clear hK
   try simp only [Act.put, qq]
   refine wpAnyH_done (by kernel_rfl) ?_ _
   go_wp2_with fail
   go_end0
   exact ⟨rfl, ⟨_, _, by rw [HD2.out]; exact HAD.out.1⟩, HK4.out.trans HAD.out.2, fun g cs n1 n2 hbx => by
    have h1 := HBX.out g cs n1 n2 hbx
    have h2 := hkp.box _ _ _ (by decide) (h1.below bb5 h1.lt)
    exact h2.far (p := ⟨p, 2, none⟩) n2 _⟩
  ·go_simp
   have HRG := h! (rdG_box (s := 2) (n := 1) (Box.new w5 46 #[.int .i64 xm, .int .i64 xi]) (xs := spc xs) (by rw [HXS.out]; rfl) rfl)
   have bb5 : Below w4.heap.size w4 (w5.alloc (.cells #[.int .i64 xm, .int .i64 xi] 46)) := bmore bb4 ((Below.refl _ _).alloc n! _) n!
   refine hK.out _ _ (HSS.out _ bb5) (fun hHeld => ?_)
   clear hK
   try simp only [Act.put, qq]
   generalize w5.alloc (.cells #[.int .i64 xm, .int .i64 xi] 46) = w6 at HRG bb5 hHeld ⊢
   generalize w5.heap.size = blk at HRG ⊢
   refine qR 4 fun K hK => ?_
   have hx1 := (HT4.out.below bb5).bx.cell 2
   simp at hx1
   go_simp
   refine hK.out _ _ (HSS.out _ bb5) (fun hHeld => ?_)
   clear hK hx1
   try simp only [Act.put, qq]
   refine qR 8 fun K hK => ?_
   refine step_append_h rfl (.tmp 32) (.tmp 35) 22 rfl b 46 i0 _ 2 16 Tryz.underlying22 hi hz0 hz1 hz2 rfl (by omega) (.slice B ds.length cd) ds.length (flat spc ds) (by simp [Act.eval, Act.put]) (HT4.out.below bb5).od (some ⟨blk, 0, none⟩) 1 1 (spc xs) (by simp [Act.eval, Act.put]) HRG.out (spc_one _) (by unfold maxLen; omega) (by omega) (HT4.out.below bb5).ord.2 ?_
   intro v2 w7 hown hgr hob
   obtain ⟨A7, c7, rfl, _, _⟩ := own_form hown
   have hkp := Kept.grown (S := fun e => e = 46) (HT4.out.below bb5).od rfl hgr
   have hb6 := hkp.box _ _ _ (by decide) (HT4.out.below bb5).bx
   have hq6 := hkp.box _ _ _ (by decide) (Y4.out.below bb5 Y4.out.lt)
   refine hK.out _ _ (HSP.out _ hq6) (fun hHeld => ?_)
   clear hK
   try simp only [Act.put, qq]
   refine qT 9 ?_; try simp only [Act.put, qq]
   refine qT 10 ?_; try simp only [Act.put, qq]
   have s2 := hb6.cell 2
   have g2 := hb6.frozen 2
   simp at s2
   refine qR 11 fun K hK => ?_
   go_simp
   have HAD := h! (HT4.out.addD bb5 hgr hown)
   refine hK.out _ _ (HSP.out _ ((Kept.set (S := fun e => e = 147) hb6 rfl _).box _ _ _ (by decide) hq6)) (fun hHeld => ?_)
   clear hK
   try simp only [Act.put, qq]
   refine wpAnyH_done (by kernel_rfl) ?_ _
   go_wp2_with fail
   go_end0
   exact ⟨rfl, ⟨_, _, by rw [HD2.out]; exact HAD.out.1⟩, HK4.out.trans HAD.out.2, fun g cs n1 n2 hbx => by
    have h1 := HBX.out g cs n1 n2 hbx
    have h2 := hkp.box _ _ _ (by decide) (h1.below bb5 h1.lt)
    exact h2.far (p := ⟨p, 2, none⟩) n2 _⟩
theorem pfinal15_any (w0 : World) (b p : Nat) (sc : Int) (A : Option Addr) (n cw : Nat) (vD : Value) (ws : List Wt) (ds : List Sp) (cm : Cm) (hk2 : cm.k = 2) (W : World) (h : PtC w0 b p sc (.slice A n cw) vD ws ds W)
  (hp : ws.Pairwise fun a b => a.m.id < b.m.id) (hn : ws.length ≤ 200) :
  Calls Tryz.prog 106 #[.pointer (some ⟨p, 0, none⟩), .int .i64 cm.id, .int .i64 cm.tm] W fun e w' => e = .returned (.tuple #[]) ∧ PtC w0 b p (KM.fnl ⟨sc, ws, ds⟩ cm).c (.slice A n cw) vD (KM.fnl ⟨sc, ws, ds⟩ cm).ws ds w' := by
 have hsl := h.ow.slice
 have HL := h! hsl.1
 have KP1 := h! (pplace_any A n cw ws cm.id W hsl.2.2.2.r hp (by have := HL.out; omega))
 have HWW := h! (KM.whit_wat (l := ws) (id := cm.id) hp)
 have HWN := h! (KM.whit_no (l := ws) (id := cm.id) hp)
 have HWS := h! (KM.whit_some (l := ws) (id := cm.id))
 have HT := h! h
 obtain ⟨k, hk⟩ : ∃ k, k = KM.wpos ws cm.id := ⟨_, rfl⟩
 obtain ⟨R, hR⟩ : ∃ R, R = KM.whit ws cm.id := ⟨_, rfl⟩
 rw [← hk] at KP1 HWW HWS
 rw [← hR] at KP1 HWW HWN HWS
 obtain ⟨S2, hS2⟩ : ∃ S2, S2 = KM.fnl ⟨sc, ws, ds⟩ cm := ⟨_, rfl⟩
 rw [← hS2]
 have HS0 := h! (fun (e : (⟨sc, ws, ds⟩ : Sk).ws[KM.wat ws cm.id]? = none) => show S2 = ⟨sc, ws, ds⟩ from by rw [hS2]; unfold KM.fnl; rw [e])
 have HS1 := h! (fun x (e : (⟨sc, ws, ds⟩ : Sk).ws[KM.wat ws cm.id]? = some x) (hx : ¬ (x.f = false ∧ x.t ≤ cm.tm)) => show S2 = ⟨sc, ws, ds⟩ from by rw [hS2]; unfold KM.fnl; rw [e]; exact if_neg fun q => hx q.2)
 have HS2 := h! (fun x (e : (⟨sc, ws, ds⟩ : Sk).ws[KM.wat ws cm.id]? = some x) (hx : x.f = false ∧ x.t ≤ cm.tm) => show S2 = ⟨max sc cm.tm, ws.set (KM.wat ws cm.id) ⟨x.m, cm.tm, true⟩, ds⟩ from by rw [hS2]; unfold KM.fnl; rw [e]; exact if_pos ⟨hk2, hx⟩)
 obtain ⟨id, hid⟩ : ∃ id, id = cm.id := ⟨_, rfl⟩
 obtain ⟨tm, htm⟩ : ∃ tm, tm = cm.tm := ⟨_, rfl⟩
 rw [← hid] at KP1 HWW HWN HS0 HS1 HS2 HWS ⊢
 rw [← htm] at HS1 HS2 ⊢
 have hn2 : n ≤ 200 := by have := HL.out; omega
 clear h hsl hk hR hS2 hid htm hp hk2
 obtain ⟨x0, x1, x2⟩ := box_sk HT.out.bx
 go_enter Tryz.func106, Tryz.ntmps106
 go_wp2_with fail
 refine (KP1.out).mono ?_
 rintro e w2 ⟨rfl, hb⟩
 replace HT := h! (HT.out.below hb)
 clear hb x0 x1 x2 KP1
 obtain ⟨x0, x1, x2⟩ := box_sk HT.out.bx
 rcases R with _ | _
 ·have HF := h! (HS0.out (List.getElem?_eq_none (by show ws.length ≤ _; have := HWN.out rfl; omega)))
  go_wp2_with fail
  exact bodyPost_ret (v := .tuple #[]) (by simp [results, Tryz.results106, go_sem]; try rfl) rfl ⟨rfl, by rw [HF.out]; exact HT.out⟩
 obtain ⟨x, hx, hxi⟩ := HWS.out rfl
 have hkw : KM.wat ws id = k := HWW.out rfl
 have HX := h! hx
 have HKW := h! hkw
 have H1 := h! (HS1.out x (by rw [hkw]; exact hx))
 have H2 := h! (HS2.out x (by rw [hkw]; exact hx))
 have hkl := (List.getElem?_eq_some_iff.1 hx).1
 obtain ⟨q, hA⟩ := HT.out.ow.some hx
 subst hA
 obtain ⟨Q, q2, hat, hfz, hrow⟩ := wtc_store HT.out.ow hx
 obtain ⟨a0, a1, a2, a3, a4, a5, a6⟩ := hat
 have hk0 : (0 : Int) ≤ (k : Int) := by omega
 have hk1 : (k : Int) < (n : Int) := by have := HL.out; omega
 clear hx hxi hkw hrow HS0 HS1 HS2 HWW HWN HWS
 obtain ⟨⟨xi, xg, xt, xk, xb⟩, xm, xf⟩ := x
 simp only at a0 a1 a2 a3 a4 a5 a6 H1 H2
 rcases xf with _ | _
 ·by_cases ht : xm ≤ tm
  ·have HF := h! (H2.out ⟨rfl, ht⟩)
   have ht2 : ¬ tm < xm := by omega
   obtain ⟨s1, k1⟩ := HT.out.storeW HX.out (j := 5) (u := .int .i64 tm) (x' := ⟨⟨xi, xg, xt, xk, xb⟩, tm, false⟩) (by omega) (fun A d => rfl) rfl
   obtain ⟨s2, k2⟩ := s1.storeW (k := k) (x := ⟨⟨xi, xg, xt, xk, xb⟩, tm, false⟩) (by rw [List.getElem?_set_self hkl]) (j := 6) (u := .bool true) (x' := ⟨⟨xi, xg, xt, xk, xb⟩, tm, true⟩) (by omega) (fun A d => rfl) rfl
   rw [List.set_set] at s2
   have HS2 := h! s2
   have ⟨p0, p1, p2⟩ := box_sk s2.bx
   have f5 := hfz (k * 7 + 5)
   have f6 := hfz (k * 7 + 6)
   have g0 := HT.out.bx.frozen 0
   clear hfz s1 k1 k2 s2
   go_upto_region 2 with (fail)
   have hqp : p ≠ q := by
    obtain ⟨es, _, ho, _⟩ := HT.out.ow
    intro e
    exact own_ne ho HT.out.bx (by decide) (by rw [e]; rfl)
   have hqp2 : q ≠ p := Ne.symm hqp
   go_region
   have HS3 := h! ((HS2.out.below (show Below _ _ ((w2.setCell ⟨q, k * 7 + 5, none⟩ (.int .i64 tm)).setCell ⟨q, k * 7 + 6, none⟩ (.bool true)).drew from (Below.refl _ _).drew)).setC (max sc tm)).1
   have g1 := HS2.out.bx.frozen 0
   clear a0 a1 a2 a3 a4 a5 a6 f5 f6 x0 x1 x2 g0
   go_wp2_with fail
   go_end0
   exact ⟨rfl, by rw [HF.out, HKW.out]; exact HS3.out⟩
  ·have HF := h! (H1.out (fun q => ht q.2))
   have ht2 : tm < xm := by omega
   clear hfz
   go_wp2_with fail
   exact bodyPost_ret (v := .tuple #[]) (by simp [results, Tryz.results106, go_sem]; try rfl) rfl ⟨rfl, by rw [HF.out]; exact HT.out⟩
 ·have HF := h! (H1.out (fun q => by cases q.1))
  clear hfz
  go_wp2_with fail
  exact bodyPost_ret (v := .tuple #[]) (by simp [results, Tryz.results106, go_sem]; try rfl) rfl ⟨rfl, by rw [HF.out]; exact HT.out⟩
end KP
namespace CP
open Go.RowKit
open CM (Mg Cm)
theorem nums_no {v : Value} {many : Nat} {l : List UInt8} {w : World} {b : Nat} (hq : nums many l = none) (hbw : b ≤ w.heap.size) (h : BsIs w b v l) (hm : many ≤ 4) (hm1 : 1 ≤ many) :
  Calls Tryz.prog 141 #[v, .int .i64 many] w fun e w' => e = .returned (.tuple #[.slice none 0 0, .slice none 0 0, .bool false]) ∧ Below w.heap.size w w' := by
 refine (numbers12_any v many l w b hbw h hm hm1).mono ?_
 rintro e w' ⟨hb, ⟨_, rfl⟩ | ⟨xs, r, bl, d, v', ho, _⟩⟩
 ·exact ⟨rfl, hb⟩
 ·rw [hq] at ho; cases ho
theorem nums_yes {v : Value} {many : Nat} {l r : List UInt8} {xs : List Nat} {w : World} {b : Nat} (hq : nums many l = some (xs, r)) (hbw : b ≤ w.heap.size) (h : BsIs w b v l) (hm : many ≤ 4) (hm1 : 1 ≤ many) :
  Calls Tryz.prog 141 #[v, .int .i64 many] w fun e w' => ∃ bl d v', e = .returned (.tuple #[.slice (some ⟨bl, 0, none⟩) xs.length d, v', .bool true]) ∧ RowN w' w.heap.size bl xs ∧ BsIs w' b v' r ∧ Below w.heap.size w w' := by
 refine (numbers12_any v many l w b hbw h hm hm1).mono ?_
 rintro e w' ⟨hb, ⟨ho, rfl⟩ | ⟨xs', r', bl, d, v', ho, rfl, h1, h2⟩⟩
 ·rw [hq] at ho; cases ho
 ·rw [hq] at ho
  simp only [Option.some.injEq, Prod.mk.injEq] at ho
  obtain ⟨rfl, rfl⟩ := ho
  exact ⟨bl, d, v', rfl, h1, h2, hb⟩
theorem list_no {v : Value} {most : Nat} {l : List UInt8} {w : World} {b : Nat} (hq : CM.lst most l = none) (h : BsIs w b v l) (hm : most ≤ 4096) :
  Calls Tryz.prog 142 #[v, .int .i64 most] w fun e w' => e = .returned (.tuple #[.slice none 0 0, .slice none 0 0, .bool false]) ∧ Below w.heap.size w w' := by
 refine (list12_any v most l w b h hm).mono ?_
 rintro e w' ⟨hb, ⟨_, rfl⟩ | ⟨xs, r, B, d, v', ho, _⟩⟩
 ·exact ⟨rfl, hb⟩
 ·rw [hq] at ho; cases ho
theorem list_yes {v : Value} {most : Nat} {l r : List UInt8} {xs : List Nat} {w : World} {b : Nat} (hq : CM.lst most l = some (xs, r)) (h : BsIs w b v l) (hm : most ≤ 4096) :
  Calls Tryz.prog 142 #[v, .int .i64 most] w fun e w' => ∃ B d v', e = .returned (.tuple #[.slice B (CM.zs xs).length d, v', .bool true]) ∧ RowGe w' w.heap.size B d (CM.zs xs) ∧ BsIs w' b v' r ∧ Below w.heap.size w w' := by
 refine (list12_any v most l w b h hm).mono ?_
 rintro e w' ⟨hb, ⟨ho, rfl⟩ | ⟨xs', r', B, d, v', ho, rfl, h1, h2⟩⟩
 ·rw [hq] at ho; cases ho
 ·rw [hq] at ho
  simp only [Option.some.injEq, Prod.mk.injEq] at ho
  obtain ⟨rfl, rfl⟩ := ho
  exact ⟨B, d, v', by rw [zs_len], h1, h2, hb⟩
theorem texts_no {v : Value} {l : List UInt8} {w : World} {b : Nat} (hq : tx2 l = none) (h : BsIs w b v l) :
  Calls Tryz.prog 143 #[v] w fun e w' => e = .returned (.tuple #[.string .empty, .string .empty, .slice none 0 0, .bool false]) ∧ Below w.heap.size w w' := by
 refine (texts12_any v l w b h).mono ?_
 rintro e w' ⟨hb, ⟨_, rfl⟩ | ⟨s, t, r, v', ho, _⟩⟩
 ·exact ⟨rfl, hb⟩
 ·rw [hq] at ho; cases ho
theorem texts_yes {v : Value} {l r s t : List UInt8} {w : World} {b : Nat} (hq : tx2 l = some ((s, t), r)) (h : BsIs w b v l) :
  Calls Tryz.prog 143 #[v] w fun e w' => ∃ v', e = .returned (.tuple #[.string ⟨s.toArray⟩, .string ⟨t.toArray⟩, v', .bool true]) ∧ BsIs w' b v' r ∧ Below w.heap.size w w' := by
 refine (texts12_any v l w b h).mono ?_
 rintro e w' ⟨hb, ⟨ho, rfl⟩ | ⟨s', t', r', v', ho, rfl, h2⟩⟩
 ·rw [hq] at ho; cases ho
 ·rw [hq] at ho
  simp only [Option.some.injEq, Prod.mk.injEq] at ho
  obtain ⟨⟨rfl, rfl⟩, rfl⟩ := ho
  exact ⟨v', rfl, h2, hb⟩
theorem nums1 (l : List UInt8) : nums 1 l = (CM.nm l).bind fun a => some ([a.1], a.2) := by
 show ((CM.nm l).bind fun a => (nums 0 a.2).bind fun r => some (a.1 :: r.1, r.2)) = _
 rfl
theorem nums2 (l : List UInt8) : nums 2 l = (CM.nm l).bind fun a => (CM.nm a.2).bind fun c => some ([a.1, c.1], c.2) := by
 show ((CM.nm l).bind fun a => (nums 1 a.2).bind fun r => some (a.1 :: r.1, r.2)) = _
 congr; funext a; rw [nums1]; cases CM.nm a.2 <;> rfl
theorem nums3 (l : List UInt8) : nums 3 l = (CM.nm l).bind fun a => (CM.nm a.2).bind fun c => (CM.nm c.2).bind fun d => some ([a.1, c.1, d.1], d.2) := by
 show ((CM.nm l).bind fun a => (nums 2 a.2).bind fun r => some (a.1 :: r.1, r.2)) = _
 congr; funext a; rw [nums2]; rcases CM.nm a.2 with _ | ⟨c, r⟩
 ·rfl
 ·simp only [Option.bind_some]; cases CM.nm r <;> rfl
theorem nums4 (l : List UInt8) : nums 4 l = (CM.nm l).bind fun a => (CM.nm a.2).bind fun c => (CM.nm c.2).bind fun d => (CM.nm d.2).bind fun e => some ([a.1, c.1, d.1, e.1], e.2) := by
 show ((CM.nm l).bind fun a => (nums 3 a.2).bind fun r => some (a.1 :: r.1, r.2)) = _
 congr; funext a; rw [nums3]; rcases CM.nm a.2 with _ | ⟨c, r⟩
 ·rfl
 ·simp only [Option.bind_some]
  rcases CM.nm r with _ | ⟨d, r2⟩
  ·rfl
  ·simp only [Option.bind_some]; cases CM.nm r2 <;> rfl
def Pa (w0 w : World) (g : Nat) (X : Array Value) : Prop := Box w w0.heap.size 91 #[.int .u8 0, .int .i64 0, .slice none 0 0, .int .i64 0, .string ⟨#[]⟩, .string ⟨#[]⟩, .int .i64 0, .int .i64 0, .slice none 0 0, .int .i64 0, .int .i64 0, .int .i64 0] ∧ Box w g 91 X ∧ w0.heap.size < g ∧ Below w0.heap.size w0 w
section
variable {w0 w w' : World} {g b : Nat} {X : Array Value}
theorem Pa.below (h : Pa w0 w g X) (hb : Below w.heap.size w w') : Pa w0 w' g X := ⟨h.1.below hb h.1.lt, h.2.1.below hb h.2.1.lt, h.2.2.1, bmore h.2.2.2 hb n!⟩
theorem Pa.put (h : Pa w0 w g X) (i : Nat) (v : Value) : Pa w0 (w.setCell ⟨g, i, none⟩ v) g (X.setIfInBounds i v) :=
 ⟨h.1.far (p := ⟨g, i, none⟩) (by have := h.2.2.1; simp; omega) v, h.2.1.stored i v, h.2.2.1, h.2.2.2.setCell (p := ⟨g, i, none⟩) (by have := h.2.2.1; simp; omega) v⟩
theorem pa_new (h : Box w w0.heap.size 91 #[.int .u8 0, .int .i64 0, .slice none 0 0, .int .i64 0, .string ⟨#[]⟩, .string ⟨#[]⟩, .int .i64 0, .int .i64 0, .slice none 0 0, .int .i64 0, .int .i64 0, .int .i64 0]) (hb : Below w0.heap.size w0 w) (X : Array Value) : Pa w0 (w.alloc (.cells X 91)) w.heap.size X :=
 ⟨h.alloc _, Box.new w _ _, h.lt, hb.alloc hb.size _⟩
theorem BsIs.put12 {v : Value} {l : List UInt8} (h : BsIs w b v l) (hg : b ≤ g) (a0 a1 a2 a3 a4 a5 a6 a7 a8 a9 a10 a11 : Value) : BsIs (put12 w g a0 a1 a2 a3 a4 a5 a6 a7 a8 a9 a10 a11) b v l := by
 unfold CP.put12
 exact ((((((((((((h.set hg _).set hg _).set hg _).set hg _).set hg _).set hg _).set hg _).set hg _).set hg _).set hg _).set hg _).set hg _)
theorem RowGe.put12p {A : Option Addr} {c : Nat} {L : List Int} (hr : RowGe w b A c L) (hg : g < b) (a0 a1 a2 a3 a4 a5 a6 a7 a8 a9 a10 a11 : Value) : RowGe (CP.put12 w g a0 a1 a2 a3 a4 a5 a6 a7 a8 a9 a10 a11) b A c L := by
 unfold CP.put12
 exact ((((((((((((hr.set hg _).set hg _).set hg _).set hg _).set hg _).set hg _).set hg _).set hg _).set hg _).set hg _).set hg _).set hg _)
end
def ParseIs (o : Option (Cm × List UInt8)) (w : World) (e : Ending) (w' : World) : Prop :=
 Below w.heap.size w w' ∧ ((o = none ∧ ∃ A c B d x u, e = .returned (.tuple #[.agg (ccells A c B d x), u, .bool false])) ∨
  ∃ x r v u, o = some (x, r) ∧ e = .returned (.tuple #[v, u, .bool true]) ∧ CmGe w' w.heap.size v x ∧ CmFit x ∧ BsIs w' w.heap.size u r)
theorem nm_le {l r : List UInt8} {n : Nat} (h : CM.nm l = some (n, r)) : n ≤ 1099511627776 := (CM.enc_nm h).1
theorem i64_nat {n : Nat} (h : n ≤ 1099511627776) : i64In (n : Int) := by unfold i64In; omega
theorem i64_zero : i64In 0 := by unfold i64In; omega
theorem mz_fit : MgFit CM.mz := ⟨i64_zero, i64_zero, Nat.zero_le _, Nat.zero_le _⟩
theorem tx_size {l r s : List UInt8} (h : CM.tx l = some (s, r)) : (⟨s.toArray⟩ : ByteArray).size ≤ maxLen := by
 have := (CM.text_tx h).1
 show s.toArray.size ≤ _
 unfold maxLen
 simp
 omega
theorem parse_none (v : Value) (l : List UInt8) (w : World) (h : BsIs w w.heap.size v l) (hk : nums 1 l = none) (ho : CM.parse l = none) :
  Calls Tryz.prog 113 #[v] w (ParseIs (CM.parse l) w) := by
 have HX := h! (Box.new w 91 #[.int .u8 0, .int .i64 0, .slice none 0 0, .int .i64 0, .string ⟨#[]⟩, .string ⟨#[]⟩, .int .i64 0, .int .i64 0, .slice none 0 0, .int .i64 0, .int .i64 0, .int .i64 0])
 have hb0 : Below w.heap.size w (w.alloc (.cells #[.int .u8 0, .int .i64 0, .slice none 0 0, .int .i64 0, .string ⟨#[]⟩, .string ⟨#[]⟩, .int .i64 0, .int .i64 0, .slice none 0 0, .int .i64 0, .int .i64 0, .int .i64 0] 91)) := b!
 have HV := h! (h.below hb0)
 have HB := h! hb0
 clear h hb0
 have HO := h! ho
 have HK := h! hk
 clear ho hk
 generalize CM.parse l = oo at HO ⊢
 go_enter Tryz.func113, Tryz.ntmps113
 go_upto_region 1 with (fail)
 generalize w.alloc (.cells #[.int .u8 0, .int .i64 0, .slice none 0 0, .int .i64 0, .string ⟨#[]⟩, .string ⟨#[]⟩, .int .i64 0, .int .i64 0, .slice none 0 0, .int .i64 0, .int .i64 0, .int .i64 0] 91) = w1 at HX HV HB ⊢
 have HW := h! (Nat.le_of_lt HX.out.lt)
 go_wp2_with fail
 refine (nums_no HK.out HW.out HV.out (by omega) (by omega)).mono ?_
 rintro e w2 ⟨rfl, hb⟩
 have HX2 := h! (HX.out.below hb HX.out.lt)
 have HB2 := h! (bmore HB.out hb n!)
 clear HX HB HW HV HK hb
 obtain ⟨d0, d1, d2, d3, d4, d5, d6, d7, d8, d9, d10, d11⟩ := box_cm HX2.out
 have g0 := HX2.out.frozen 0
 have g1 := HX2.out.frozen 1
 have g2 := HX2.out.frozen 2
 have g3 := HX2.out.frozen 3
 have g4 := HX2.out.frozen 4
 have g5 := HX2.out.frozen 5
 have g6 := HX2.out.frozen 6
 have g7 := HX2.out.frozen 7
 have g8 := HX2.out.frozen 8
 have g9 := HX2.out.frozen 9
 have g10 := HX2.out.frozen 10
 have g11 := HX2.out.frozen 11
 go_wp2_with fail
 refine bodyPost_ret (v := .tuple #[.agg #[.int .u8 0, .int .i64 0, .slice none 0 0, .int .i64 0, .string ⟨#[]⟩, .string ⟨#[]⟩, .int .i64 0, .int .i64 0, .slice none 0 0, .int .i64 0, .int .i64 0, .int .i64 0], .slice none 0 0, .bool false]) (by simp [results, Tryz.results113, go_sem, d0, d1, d2, d3, d4, d5, d6, d7, d8, d9, d10, d11]; try rfl) rfl ?_
 exact ⟨put12_below HB2.out n! (.int .u8 0) (.int .i64 0) (.slice none 0 0) (.int .i64 0) (.string ⟨#[]⟩) (.string ⟨#[]⟩) (.int .i64 0) (.int .i64 0) (.slice none 0 0) (.int .i64 0) (.int .i64 0) (.int .i64 0), .inl ⟨HO.out, none, 0, none, 0, CM.zero, _, rfl⟩⟩
theorem parse_big (v : Value) (l : List UInt8) (w : World) (h : BsIs w w.heap.size v l) (r0 : List UInt8) (kk : Nat) (h6 : 6 < kk) (hk : nums 1 l = some ([kk], r0)) (ho : CM.parse l = none) :
  Calls Tryz.prog 113 #[v] w (ParseIs (CM.parse l) w) := by
 have HX := h! (Box.new w 91 #[.int .u8 0, .int .i64 0, .slice none 0 0, .int .i64 0, .string ⟨#[]⟩, .string ⟨#[]⟩, .int .i64 0, .int .i64 0, .slice none 0 0, .int .i64 0, .int .i64 0, .int .i64 0])
 have hb0 : Below w.heap.size w (w.alloc (.cells #[.int .u8 0, .int .i64 0, .slice none 0 0, .int .i64 0, .string ⟨#[]⟩, .string ⟨#[]⟩, .int .i64 0, .int .i64 0, .slice none 0 0, .int .i64 0, .int .i64 0, .int .i64 0] 91)) := b!
 have HV := h! (h.below hb0)
 have HB := h! hb0
 clear h hb0
 have HO := h! ho
 have HK := h! hk
 clear ho hk
 generalize CM.parse l = oo at HO ⊢
 go_enter Tryz.func113, Tryz.ntmps113
 go_upto_region 1 with (fail)
 generalize w.alloc (.cells #[.int .u8 0, .int .i64 0, .slice none 0 0, .int .i64 0, .string ⟨#[]⟩, .string ⟨#[]⟩, .int .i64 0, .int .i64 0, .slice none 0 0, .int .i64 0, .int .i64 0, .int .i64 0] 91) = w1 at HX HV HB ⊢
 have HW := h! (Nat.le_of_lt HX.out.lt)
 go_wp2_with fail
 refine (nums_yes HK.out HW.out HV.out (by omega) (by omega)).mono ?_
 rintro e w2 ⟨bl, dd, v0, rfl, hrow, hv, hb⟩
 have y0 := hrow.2.2 0 _ rfl
 simp at y0
 have HX2 := h! (HX.out.below hb HX.out.lt)
 have HB2 := h! (bmore HB.out hb n!)
 have HV2 := h! hv
 clear HX HB HW HV HK hb hrow hv
 have h6i : (6 : Int) < (kk : Int) := by omega
 obtain ⟨d0, d1, d2, d3, d4, d5, d6, d7, d8, d9, d10, d11⟩ := box_cm HX2.out
 have g0 := HX2.out.frozen 0
 have g1 := HX2.out.frozen 1
 have g2 := HX2.out.frozen 2
 have g3 := HX2.out.frozen 3
 have g4 := HX2.out.frozen 4
 have g5 := HX2.out.frozen 5
 have g6 := HX2.out.frozen 6
 have g7 := HX2.out.frozen 7
 have g8 := HX2.out.frozen 8
 have g9 := HX2.out.frozen 9
 have g10 := HX2.out.frozen 10
 have g11 := HX2.out.frozen 11
 go_wp2_with fail
 refine bodyPost_ret (v := .tuple #[.agg #[.int .u8 0, .int .i64 0, .slice none 0 0, .int .i64 0, .string ⟨#[]⟩, .string ⟨#[]⟩, .int .i64 0, .int .i64 0, .slice none 0 0, .int .i64 0, .int .i64 0, .int .i64 0], .slice none 0 0, .bool false]) (by simp [results, Tryz.results113, go_sem, d0, d1, d2, d3, d4, d5, d6, d7, d8, d9, d10, d11]; try rfl) rfl ?_
 exact ⟨put12_below HB2.out n! (.int .u8 0) (.int .i64 0) (.slice none 0 0) (.int .i64 0) (.string ⟨#[]⟩) (.string ⟨#[]⟩) (.int .i64 0) (.int .i64 0) (.slice none 0 0) (.int .i64 0) (.int .i64 0) (.int .i64 0), .inl ⟨HO.out, none, 0, none, 0, CM.zero, _, rfl⟩⟩
theorem parse_0 (v : Value) (l : List UInt8) (w : World) (h : BsIs w w.heap.size v l) (r0 : List UInt8) (hk : nums 1 l = some ([0], r0)) (ho : CM.parse l = some (CM.zero, r0)) :
  Calls Tryz.prog 113 #[v] w (ParseIs (CM.parse l) w) := by
 have HX := h! (Box.new w 91 #[.int .u8 0, .int .i64 0, .slice none 0 0, .int .i64 0, .string ⟨#[]⟩, .string ⟨#[]⟩, .int .i64 0, .int .i64 0, .slice none 0 0, .int .i64 0, .int .i64 0, .int .i64 0])
 have hb0 : Below w.heap.size w (w.alloc (.cells #[.int .u8 0, .int .i64 0, .slice none 0 0, .int .i64 0, .string ⟨#[]⟩, .string ⟨#[]⟩, .int .i64 0, .int .i64 0, .slice none 0 0, .int .i64 0, .int .i64 0, .int .i64 0] 91)) := b!
 have HV := h! (h.below hb0)
 have HB := h! hb0
 clear h hb0
 have HO := h! ho
 have HK := h! hk
 clear ho hk
 generalize CM.parse l = oo at HO ⊢
 go_enter Tryz.func113, Tryz.ntmps113
 go_upto_region 1 with (fail)
 generalize w.alloc (.cells #[.int .u8 0, .int .i64 0, .slice none 0 0, .int .i64 0, .string ⟨#[]⟩, .string ⟨#[]⟩, .int .i64 0, .int .i64 0, .slice none 0 0, .int .i64 0, .int .i64 0, .int .i64 0] 91) = w1 at HX HV HB ⊢
 have HW := h! (Nat.le_of_lt HX.out.lt)
 go_wp2_with fail
 refine (nums_yes HK.out HW.out HV.out (by omega) (by omega)).mono ?_
 rintro e w2 ⟨bl, dd, v0, rfl, hrow, hv, hb⟩
 have y0 := hrow.2.2 0 _ rfl
 simp at y0
 have HX2 := h! (HX.out.below hb HX.out.lt)
 have HB2 := h! (bmore HB.out hb n!)
 have HV2 := h! hv
 clear HX HB HW HV HK hb hrow hv
 go_upto_region 5 with (fail)
 clear y0
 have S := h! (pa_new HX2.out HB2.out #[.int .u8 0, .int .i64 0, .slice none 0 0, .int .i64 0, .string ⟨#[]⟩, .string ⟨#[]⟩, .int .i64 0, .int .i64 0, .slice none 0 0, .int .i64 0, .int .i64 0, .int .i64 0])
 have HV := h! (HV2.out.below (show Below w2.heap.size w2 (w2.alloc (.cells #[.int .u8 0, .int .i64 0, .slice none 0 0, .int .i64 0, .string ⟨#[]⟩, .string ⟨#[]⟩, .int .i64 0, .int .i64 0, .slice none 0 0, .int .i64 0, .int .i64 0, .int .i64 0] 91)) from (Below.refl _ _).alloc n! _))
 generalize w2.alloc (.cells #[.int .u8 0, .int .i64 0, .slice none 0 0, .int .i64 0, .string ⟨#[]⟩, .string ⟨#[]⟩, .int .i64 0, .int .i64 0, .slice none 0 0, .int .i64 0, .int .i64 0, .int .i64 0] 91) = w4 at S HV ⊢
 generalize w2.heap.size = g at S ⊢
 clear HX2 HB2 HV2
 obtain ⟨c0, c1, c2, c3, c4, c5, c6, c7, c8, c9, c10, c11⟩ := box_cm S.out.2.1
 obtain ⟨d0, d1, d2, d3, d4, d5, d6, d7, d8, d9, d10, d11⟩ := box_cm S.out.1
 have g0 := S.out.1.frozen 0
 have g1 := S.out.1.frozen 1
 have g2 := S.out.1.frozen 2
 have g3 := S.out.1.frozen 3
 have g4 := S.out.1.frozen 4
 have g5 := S.out.1.frozen 5
 have g6 := S.out.1.frozen 6
 have g7 := S.out.1.frozen 7
 have g8 := S.out.1.frozen 8
 have g9 := S.out.1.frozen 9
 have g10 := S.out.1.frozen 10
 have g11 := S.out.1.frozen 11
 have HBF := h! S.out.2.2.2
 clear S
 go_wp2_with fail
 refine bodyPost_ret (v := .tuple #[.agg #[.int .u8 0, .int .i64 0, .slice none 0 0, .int .i64 0, .string ⟨#[]⟩, .string ⟨#[]⟩, .int .i64 0, .int .i64 0, .slice none 0 0, .int .i64 0, .int .i64 0, .int .i64 0], v0, .bool true]) (by simp [results, Tryz.results113, go_sem, d0, d1, d2, d3, d4, d5, d6, d7, d8, d9, d10, d11]; try rfl) rfl ?_
 exact ⟨put12_below HBF.out n! (.int .u8 0) (.int .i64 0) (.slice none 0 0) (.int .i64 0) (.string ⟨#[]⟩) (.string ⟨#[]⟩) (.int .i64 0) (.int .i64 0) (.slice none 0 0) (.int .i64 0) (.int .i64 0) (.int .i64 0), .inr ⟨CM.zero, r0, _, _, HO.out, rfl, ⟨none, 0, none, 0, rfl, RowGe.none _ _, RowGe.none _ _⟩, ⟨⟨Int.le_refl _, by show (0 : Int) ≤ 255; omega⟩, mz_fit, i64_zero, i64_zero, i64_zero, i64_zero, i64_zero⟩, HV.out.put12 n! (.int .u8 0) (.int .i64 0) (.slice none 0 0) (.int .i64 0) (.string ⟨#[]⟩) (.string ⟨#[]⟩) (.int .i64 0) (.int .i64 0) (.slice none 0 0) (.int .i64 0) (.int .i64 0) (.int .i64 0)⟩⟩
end CP
end Go.Proofs.YteebeiaokfenmaaGreat
