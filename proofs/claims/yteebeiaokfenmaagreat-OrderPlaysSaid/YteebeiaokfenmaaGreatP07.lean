/- Contracts of functions, P07: each as its theorem says. -/
import Derived.Test.YteebeiaokfenmaaGreatP03
import Derived.Test.YteebeiaokfenmaaGreatK22
import Derived.Test.YteebeiaokfenmaaGreatP04
set_option linter.unusedVariables false
set_option linter.unusedSimpArgs false
set_option maxRecDepth 100000
set_option maxHeartbeats 16000000
namespace Go.Proofs.YteebeiaokfenmaaGreat
namespace KP
open Go.RowKit CP TP
open CM (Mg Cm)
open TM (Sp)
open KM (Wt Sk)
theorem delK_any (b q n c i : Nat) (l : List Wt) (w : World) (h : KO KW w b 78 (.slice (some ⟨q, 0, none⟩) n c) l) (hi : i < n) (hn : n ≤ 2000) :
  Calls Tryz.prog 139 #[.slice (some ⟨q, 0, none⟩) n c, .int .i64 i, .int .i64 ((i : Int) + 1)] w fun e w' =>
   ∃ A' c', e = .returned (.slice A' (n - 1) c') ∧ KO KW w' b 78 (.slice A' (n - 1) c') (l.eraseIdx i) ∧ w.grownBy w' (some q) := by
 obtain ⟨es, rfl, ho, hr⟩ := h
 have hln : es.length = n := by
  obtain ⟨_, _, e, _⟩ := own_form ho
  injection e with _ e2
  exact e2.symm
 rw [hln] at ho
 rcases ho.2 with ⟨e, _⟩ | ⟨g, cap, cur, hs, hb, hx, hnc, hcm, hsz, htk⟩
 ·injection e with e; cases e
 ·injection hs with e1 e2 e3
  injection e1 with e1
  injection e1 with e1
  subst e1 e3
  refine (delW_any b q n c i (flat (exc KW) es) cur w hi hn hnc hcm hb hx hsz htk ho.1 (exc_one KW es)).mono ?_
  rintro e w' ⟨A', c', rfl, o2, g2⟩
  exact ⟨A', c', rfl, kO_del (K := KW) (v := .slice (some ⟨q, 0, none⟩) n c) es hln hi hr g2 o2 (by decide), g2⟩
theorem ptake15_any (w0 : World) (b p : Nat) (sc : Int) (A : Option Addr) (n cw : Nat) (B : Option Addr) (m cd : Nat) (ws : List Wt) (ds : List Sp) (k : Nat) (x : Wt) (Q : Option Addr) (q9 : Nat) (W : World)
  (h : PtC w0 b p sc (.slice A n cw) (.slice B m cd) ws ds W) (hx : ws[k]? = some x) (hp : ws.Pairwise fun a b => a.m.id < b.m.id) (hn : ws.length ≤ 200) (hd : ds.length ≤ 200) :
  Calls Tryz.prog 109 #[.pointer (some ⟨p, 0, none⟩), vwt Q q9 x] W fun e w' => e = .returned (.tuple #[]) ∧ (∃ vW vD, PtC w0 b p sc vW vD (ws.eraseIdx k) (ds ++ [KM.stp x]) w') ∧ Kept isC W w' ∧ ∀ g cs, A ≠ some ⟨g, 0, none⟩ → g ≠ p → Box W g 78 cs → Box w' g 78 cs := by
 obtain ⟨i0, hi, hz0, hz1, hz2⟩ := info_parts info_sp
 have hsl := h.ow.slice
 have hn2 : n ≤ 200 := by have := hsl.1; omega
 obtain ⟨_, cd', ed, h4, h5⟩ := own_form h.od
 injection ed with ed1 ed2 ed3
 subst ed1 ed2 ed3
 clear h4 h5
 have hwp : KM.wpos ws x.m.id = k := KM.wpos_of (Nat.le_of_lt (List.getElem?_eq_some_iff.1 hx).1) (fun t a ht ha => KM.rise_get hp ht ha hx) (fun a ha => by rw [hx] at ha; injection ha with ha; rw [ha]; exact Int.le_refl _)
 have KP1 := h! (fun W' (hb : Below W.heap.size W W') => pplace_any A n cw ws x.m.id W' (hsl.2.2.2.r.below hb) hp (by omega))
 rw [hwp] at KP1
 obtain ⟨R, hR⟩ : ∃ R, R = KM.whit ws x.m.id := ⟨_, rfl⟩
 rw [← hR] at KP1
 have hkn : k < n := by have := (List.getElem?_eq_some_iff.1 hx).1; have := hsl.1; omega
 obtain ⟨q, rfl⟩ := h.ow.some hx
 have CSt := h! (fun W' => pstampOf_any Q q9 x W')
 have HT := h! h
 have HQLT := h! (show q < W.heap.size from (h.ow.blk (g := q) rfl).2)
 have HPLT := h! h.bx.lt
 clear h hx hp hwp hsl hR
 obtain ⟨ds2, hds2⟩ : ∃ l, l = ds ++ [KM.stp x] := ⟨_, rfl⟩
 have HD2 := h! hds2
 rw [← hds2]
 clear hds2
 obtain ⟨xs, hxs⟩ : ∃ xs : Sp, xs = KM.stp x := ⟨_, rfl⟩
 have HXS := h! hxs
 rw [← hxs] at HD2
 clear hxs
 obtain ⟨⟨xi, xg, xt, xk, xb⟩, xm, xf⟩ := x
 unfold vwt at CSt ⊢
 unfold KM.stp at CSt HXS
 simp only at CSt KP1 HXS ⊢
 have HB := h! (show Below W.heap.size W (W.alloc (.cells #[.int .i64 xi, .slice Q xg.length q9, .int .i64 xt, .string xk, .string xb, .int .i64 xm, .bool xf] 78)) from (Below.refl _ _).alloc n! _)
 have Y := h! (Box.new W 78 #[.int .i64 xi, .slice Q xg.length q9, .int .i64 xt, .string xk, .string xb, .int .i64 xm, .bool xf])
 have HKA := h! (Kept.of_below (S := isC) HB.out)
 have HORD := h! (show b ≤ W.heap.size from HT.out.ord.2)
 go_enter Tryz.func109, Tryz.ntmps109
 go_upto_region 1 with (fail)
 replace HT := h! (HT.out.below HB.out)
 generalize W.alloc (.cells #[.int .i64 xi, .slice Q xg.length q9, .int .i64 xt, .string xk, .string xb, .int .i64 xm, .bool xf] 78) = w1 at HB Y HT HKA ⊢
 obtain ⟨g3, hg3⟩ : ∃ g3, W.heap.size = g3 := ⟨_, rfl⟩
 rw [hg3] at Y HORD
 simp only [hg3]
 have HG3 := h! hg3
 clear hg3
 have HPG := h! (show g3 ≠ p from fun e => by
  have h1 := HPLT.out
  have h2 := HG3.out
  omega)
 have HQG := h! (show q ≠ g3 from fun e => by
  have h1 := HQLT.out
  have h2 := HG3.out
  omega)
 obtain ⟨x0, x1, x2⟩ := box_sk HT.out.bx
 obtain ⟨a0, a1, a2, a3, a4, a5, a6⟩ := box_wt Y.out
 have HSS := h! (fun (w' : World) (h : Below w1.heap.size w1 w') => show w'.cell? ⟨p, 1, none⟩ = some (.slice (some ⟨q, 0, none⟩) n cw) ∧ w'.cell? ⟨g3, 0, none⟩ = some (.int .i64 xi) from
  ⟨(h.cell (cell_block x1)).trans x1, (h.cell (cell_block a0)).trans a0⟩)
 have bb1 : Below w1.heap.size w1 w1.drew := (Below.refl _ _).drew
 obtain ⟨ud, hud⟩ : ∃ ud, ud = w1.drew := ⟨_, rfl⟩
 refine wp_region_held_drew (S := fun w' => w'.cell? ⟨p, 1, none⟩ = some (.slice (some ⟨q, 0, none⟩) n cw) ∧ w'.cell? ⟨g3, 0, none⟩ = some (.int .i64 xi)) (by kernel_rfl) (HSS.out _ bb1) (fun hHeld => ?_)
 rw [← hud] at bb1 hHeld ⊢
 clear hud
 refine qT 0 ?_; try simp only [Act.put, qq]
 refine qT 1 ?_; try simp only [Act.put, qq]
 refine qT 2 ?_; try simp only [Act.put, qq]
 refine qT 3 ?_; try simp only [Act.put, qq]
 refine qT 4 ?_; try simp only [Act.put, qq]
 refine qT 5 ?_; try simp only [Act.put, qq]
 refine qT 6 ?_; try simp only [Act.put, qq]
 refine qR 7 fun K hK => ?_
 go_simp
 refine (KP1.out ud (bmore HB.out bb1 n!)).mono ?_
 rintro e w2 ⟨rfl, hb⟩
 have bb2 := bmore bb1 hb n!
 clear hb
 refine hK.out _ _ (HSS.out _ bb2) (fun hHeld => ?_)
 clear hK
 try simp only [Act.put, qq]
 refine qT 8 ?_; try simp only [Act.put, qq]
 refine qT 9 ?_; try simp only [Act.put, qq]
 refine qT 10 ?_; try simp only [Act.put, qq]
 refine qT 11 ?_; try simp only [Act.put, qq]
 refine qT 12 ?_; try simp only [Act.put, qq]
 refine wpAnyH_done (by kernel_rfl) ?_ _
 clear hHeld HSS
 have HT2 := h! (HT.out.below bb2)
 have Y2 := h! (Y.out.below bb2 Y.out.lt)
 have HK2 := h! (HKA.out.trans (Kept.of_below (S := isC) bb2))
 clear KP1 x0 x1 x2 a0 a1 a2 a3 a4 a5 a6
 obtain ⟨x0, x1, x2⟩ := box_sk HT2.out.bx
 have CD := h! (delK_any b q n cw k ws w2 HT2.out.ow hkn (by omega))
 have hk0 : (0 : Int) ≤ (k : Int) := by omega
 have hw1 : IntKind.i64.wrap ((k : Int) + 1) = (k : Int) + 1 := by rw [IntKind.wrap_i64]; omega
 go_wp2_with fail
 refine (CD.out).mono ?_
 rintro e w3 ⟨A3, c3, rfl, hko, hg⟩
 clear x0 x1 x2 CD
 have hkp3 : Kept (fun e => e = 78) w2 w3 := by
  obtain ⟨es, _, ho, _⟩ := HT2.out.ow
  exact Kept.grown (S := fun e => e = 78) ho rfl hg
 have hb3 := hkp3.box _ _ _ (by decide) HT2.out.bx
 have HNW := h! (HT2.out.newW (Below.refl _ _) hg hko)
 have hY3 := Y2.out.grown hg (by intro e; injection e with e; exact HQG.out e.symm)
 have Y4 := h! (show Box (w3.setCell ⟨p, 1, none⟩ (.slice A3 (n - 1) c3)) g3 78 #[.int .i64 xi, .slice Q xg.length q9, .int .i64 xt, .string xk, .string xb, .int .i64 xm, .bool xf] from hY3.far (p := ⟨p, 1, none⟩) (by exact HPG.out) _)
 have HK4 := h! (HK2.out.trans HNW.out.2)
 have HBX := h! (show ∀ g cs, (some ⟨q, 0, none⟩ : Option Addr) ≠ some ⟨g, 0, none⟩ → g ≠ p → Box W g 78 cs → Box (w3.setCell ⟨p, 1, none⟩ (.slice A3 (n - 1) c3)) g 78 cs from fun g cs n1 n2 hbx => by
  have h1 := hbx.below HB.out hbx.lt
  have h2 := h1.below bb2 h1.lt
  have h3 := h2.grown hg (by intro e; injection e with e; exact n1 (by rw [e]))
  exact h3.far (p := ⟨p, 1, none⟩) n2 _)
 have HT4 := h! HNW.out.1
 obtain ⟨x0, x1, x2, f0, f1, f2⟩ := hb3.three
 clear hko hg hkp3 hY3 HNW hb3
 go_upto_region 3 with (fail)
 generalize w3.setCell ⟨p, 1, none⟩ (.slice A3 (n - 1) c3) = w4 at Y4 HK4 HT4 HBX ⊢
 clear x0 x1 x2 f0 f1 f2 HT2 Y2 HK2 HT Y HB HKA w3
 obtain ⟨a0, a1, a2, a3, a4, a5, a6⟩ := box_wt Y4.out
 have HSS := h! (fun (w' : World) (h : Below w4.heap.size w4 w') => show w'.cell? ⟨g3, 0, none⟩ = some (.int .i64 xi) ∧ w'.cell? ⟨g3, 1, none⟩ = some (.slice Q xg.length q9) ∧ w'.cell? ⟨g3, 2, none⟩ = some (.int .i64 xt) ∧ w'.cell? ⟨g3, 3, none⟩ = some (.string xk) ∧ w'.cell? ⟨g3, 4, none⟩ = some (.string xb) ∧ w'.cell? ⟨g3, 5, none⟩ = some (.int .i64 xm) ∧ w'.cell? ⟨g3, 6, none⟩ = some (.bool xf) from
  ⟨(h.cell (cell_block a0)).trans a0, (h.cell (cell_block a1)).trans a1, (h.cell (cell_block a2)).trans a2, (h.cell (cell_block a3)).trans a3, (h.cell (cell_block a4)).trans a4, (h.cell (cell_block a5)).trans a5, (h.cell (cell_block a6)).trans a6⟩)
 have bb1 : Below w4.heap.size w4 w4.drew := (Below.refl _ _).drew
 have HSP := h! (fun (w' : World) (h2 : Box w' g3 78 #[.int .i64 xi, .slice Q xg.length q9, .int .i64 xt, .string xk, .string xb, .int .i64 xm, .bool xf]) => show w'.cell? ⟨g3, 0, none⟩ = some (.int .i64 xi) ∧ w'.cell? ⟨g3, 1, none⟩ = some (.slice Q xg.length q9) ∧ w'.cell? ⟨g3, 2, none⟩ = some (.int .i64 xt) ∧ w'.cell? ⟨g3, 3, none⟩ = some (.string xk) ∧ w'.cell? ⟨g3, 4, none⟩ = some (.string xb) ∧ w'.cell? ⟨g3, 5, none⟩ = some (.int .i64 xm) ∧ w'.cell? ⟨g3, 6, none⟩ = some (.bool xf) from box_wt h2)
 obtain ⟨ud, hud⟩ : ∃ ud, ud = w4.drew := ⟨_, rfl⟩
 refine wp_region_held_drew (S := fun w' => w'.cell? ⟨g3, 0, none⟩ = some (.int .i64 xi) ∧ w'.cell? ⟨g3, 1, none⟩ = some (.slice Q xg.length q9) ∧ w'.cell? ⟨g3, 2, none⟩ = some (.int .i64 xt) ∧ w'.cell? ⟨g3, 3, none⟩ = some (.string xk) ∧ w'.cell? ⟨g3, 4, none⟩ = some (.string xb) ∧ w'.cell? ⟨g3, 5, none⟩ = some (.int .i64 xm) ∧ w'.cell? ⟨g3, 6, none⟩ = some (.bool xf)) (by kernel_rfl) (HSS.out _ bb1) (fun hHeld => ?_)
 rw [← hud] at bb1 hHeld ⊢
 clear hud a0 a1 a2 a3 a4 a5 a6
 refine qT 0 ?_; try simp only [Act.put, qq]
 refine qT 1 ?_; try simp only [Act.put, qq]
 refine qT 2 ?_; try simp only [Act.put, qq]
 refine qT 3 ?_; try simp only [Act.put, qq]
 refine qT 5 ?_; try simp only [Act.put, qq]
 refine wpAnyH_ready (rs := [4, 6]) (by kernel_rfl) (by simp) ?_
 refine AllReadyH.cons rfl (fun K hK => ?_) (AllReadyH.cons rfl (fun K hK => ?_) AllReadyH.nil)
 ·have hx1 := (HT4.out.below bb1).bx.cell 2
  simp at hx1
  go_simp
  refine hK.out _ _ (HSS.out _ bb1) (fun hHeld => ?_)
  clear hK hx1
  try simp only [Act.put, qq]
  refine qR 6 fun K hK => ?_
  go_simp
  refine (CSt.out _).mono ?_
  rintro e w5 ⟨rfl, hbs⟩
  unfold vsp
  simp only
  have bb4 := bmore bb1 hbs n!
  clear hbs
  refine hK.out _ _ (HSS.out _ bb4) (fun hHeld => ?_)
  clear hK
  try simp only [Act.put, qq]
  refine qR 7 fun K hK => ?_
  go_simp
  have HRG := h! (rdG_box (s := 2) (n := 1) (Box.new w5 46 #[.int .i64 xm, .int .i64 xi]) (xs := spc xs) (by rw [HXS.out]; rfl) rfl)
  have bb5 : Below w4.heap.size w4 (w5.alloc (.cells #[.int .i64 xm, .int .i64 xi] 46)) := bmore bb4 ((Below.refl _ _).alloc n! _) n!
  refine hK.out _ _ (HSS.out _ bb5) (fun hHeld => ?_)
  clear hK
  try simp only [Act.put, qq]
  generalize w5.alloc (.cells #[.int .i64 xm, .int .i64 xi] 46) = w6 at HRG bb5 hHeld ⊢
  generalize w5.heap.size = blk at HRG ⊢
  refine qR 8 fun K hK => ?_
  refine step_append_h rfl (.tmp 32) (.tmp 35) 22 rfl b 46 i0 _ 2 16 Tryz.underlying22 hi hz0 hz1 hz2 rfl (by omega) (.slice B ds.length cd) ds.length (flat spc ds) (by simp [Act.eval, Act.put]) (HT4.out.below bb5).od (some ⟨blk, 0, none⟩) 1 1 (spc xs) (by simp [Act.eval, Act.put]) HRG.out (spc_one _) (by unfold maxLen; omega) (by omega) (HT4.out.below bb5).ord.2 ?_
  intro v2 w7 hown hgr hob
  obtain ⟨A7, c7, rfl, _, _⟩ := own_form hown
  have hkp := Kept.grown (S := fun e => e = 46) (HT4.out.below bb5).od rfl hgr
  have hb6 := hkp.box _ _ _ (by decide) (HT4.out.below bb5).bx
  have hq6 := hkp.box _ _ _ (by decide) (Y4.out.below bb5 Y4.out.lt)
  refine hK.out _ _ (HSP.out _ hq6) (fun hHeld => ?_)
  clear hK
  try simp only [Act.put, qq]
  refine qT 9 ?_; try simp only [Act.put, qq]
  refine qT 10 ?_; try simp only [Act.put, qq]
  have s2 := hb6.cell 2
  have g2 := hb6.frozen 2
  simp at s2
  refine qR 11 fun K hK => ?_
  go_simp
  have HAD := h! (HT4.out.addD bb5 hgr hown)
  refine hK.out _ _ (HSP.out _ ((Kept.set (S := fun e => e = 147) hb6 rfl _).box _ _ _ (by decide) hq6)) (fun hHeld => ?_)
  clear hK
  try simp only [Act.put, qq]
  refine wpAnyH_done (by kernel_rfl) ?_ _
  go_wp2_with fail
  go_end0
  exact ⟨rfl, ⟨_, _, by rw [HD2.out]; exact HAD.out.1⟩, HK4.out.trans HAD.out.2, fun g cs n1 n2 hbx => by
   have h1 := HBX.out g cs n1 n2 hbx
   have h2 := hkp.box _ _ _ (by decide) (h1.below bb5 h1.lt)
   exact h2.far (p := ⟨p, 2, none⟩) n2 _⟩
 ·go_simp
  refine (CSt.out _).mono ?_
  rintro e w5 ⟨rfl, hbs⟩
  unfold vsp
  simp only
  have bb4 := bmore bb1 hbs n!
  clear hbs
  refine hK.out _ _ (HSS.out _ bb4) (fun hHeld => ?_)
  clear hK
  try simp only [Act.put, qq]
  refine wpAnyH_ready (rs := [4, 7]) (by kernel_rfl) (by simp) ?_
  refine AllReadyH.cons rfl (fun K hK => ?_) (AllReadyH.cons rfl (fun K hK => ?_) AllReadyH.nil)
  ·have hx1 := (HT4.out.below bb4).bx.cell 2
   simp at hx1
   go_simp
   refine hK.out _ _ (HSS.out _ bb4) (fun hHeld => ?_)
   clear hK hx1
   try simp only [Act.put, qq]
   refine qR 7 fun K hK => ?_
   go_simp
   have HRG := h! (rdG_box (s := 2) (n := 1) (Box.new w5 46 #[.int .i64 xm, .int .i64 xi]) (xs := spc xs) (by rw [HXS.out]; rfl) rfl)
   have bb5 : Below w4.heap.size w4 (w5.alloc (.cells #[.int .i64 xm, .int .i64 xi] 46)) := bmore bb4 ((Below.refl _ _).alloc n! _) n!
   refine hK.out _ _ (HSS.out _ bb5) (fun hHeld => ?_)
   clear hK
   try simp only [Act.put, qq]
   generalize w5.alloc (.cells #[.int .i64 xm, .int .i64 xi] 46) = w6 at HRG bb5 hHeld ⊢
   generalize w5.heap.size = blk at HRG ⊢
   refine qR 8 fun K hK => ?_
   refine step_append_h rfl (.tmp 32) (.tmp 35) 22 rfl b 46 i0 _ 2 16 Tryz.underlying22 hi hz0 hz1 hz2 rfl (by omega) (.slice B ds.length cd) ds.length (flat spc ds) (by simp [Act.eval, Act.put]) (HT4.out.below bb5).od (some ⟨blk, 0, none⟩) 1 1 (spc xs) (by simp [Act.eval, Act.put]) HRG.out (spc_one _) (by unfold maxLen; omega) (by omega) (HT4.out.below bb5).ord.2 ?_
   intro v2 w7 hown hgr hob
   obtain ⟨A7, c7, rfl, _, _⟩ := own_form hown
   have hkp := Kept.grown (S := fun e => e = 46) (HT4.out.below bb5).od rfl hgr
   have hb6 := hkp.box _ _ _ (by decide) (HT4.out.below bb5).bx
   have hq6 := hkp.box _ _ _ (by decide) (Y4.out.below bb5 Y4.out.lt)
   refine hK.out _ _ (HSP.out _ hq6) (fun hHeld => ?_)
   clear hK
   try simp only [Act.put, qq]
   refine qT 9 ?_; try simp only [Act.put, qq]
   refine qT 10 ?_; try simp only [Act.put, qq]
   have s2 := hb6.cell 2
   have g2 := hb6.frozen 2
   simp at s2
   refine qR 11 fun K hK => ?_
   go_simp
   have HAD := h! (HT4.out.addD bb5 hgr hown)
   refine hK.out _ _ (HSP.out _ ((Kept.set (S := fun e => e = 147) hb6 rfl _).box _ _ _ (by decide) hq6)) (fun hHeld => ?_)
   clear hK
   try simp only [Act.put, qq]
   refine wpAnyH_done (by kernel_rfl) ?_ _
   go_wp2_with fail
   go_end0
   exact ⟨rfl, ⟨_, _, by rw [HD2.out]; exact HAD.out.1⟩, HK4.out.trans HAD.out.2, fun g cs n1 n2 hbx => by
    have h1 := HBX.out g cs n1 n2 hbx
    have h2 := hkp.box _ _ _ (by decide) (h1.below bb5 h1.lt)
    exact h2.far (p := ⟨p, 2, none⟩) n2 _⟩
  ·go_simp
   have HRG := h! (rdG_box (s := 2) (n := 1) (Box.new w5 46 #[.int .i64 xm, .int .i64 xi]) (xs := spc xs) (by rw [HXS.out]; rfl) rfl)
   have bb5 : Below w4.heap.size w4 (w5.alloc (.cells #[.int .i64 xm, .int .i64 xi] 46)) := bmore bb4 ((Below.refl _ _).alloc n! _) n!
   refine hK.out _ _ (HSS.out _ bb5) (fun hHeld => ?_)
   clear hK
   try simp only [Act.put, qq]
   generalize w5.alloc (.cells #[.int .i64 xm, .int .i64 xi] 46) = w6 at HRG bb5 hHeld ⊢
   generalize w5.heap.size = blk at HRG ⊢
   refine qR 4 fun K hK => ?_
   have hx1 := (HT4.out.below bb5).bx.cell 2
   simp at hx1
   go_simp
   refine hK.out _ _ (HSS.out _ bb5) (fun hHeld => ?_)
   clear hK hx1
   try simp only [Act.put, qq]
   refine qR 8 fun K hK => ?_
   refine step_append_h rfl (.tmp 32) (.tmp 35) 22 rfl b 46 i0 _ 2 16 Tryz.underlying22 hi hz0 hz1 hz2 rfl (by omega) (.slice B ds.length cd) ds.length (flat spc ds) (by simp [Act.eval, Act.put]) (HT4.out.below bb5).od (some ⟨blk, 0, none⟩) 1 1 (spc xs) (by simp [Act.eval, Act.put]) HRG.out (spc_one _) (by unfold maxLen; omega) (by omega) (HT4.out.below bb5).ord.2 ?_
   intro v2 w7 hown hgr hob
   obtain ⟨A7, c7, rfl, _, _⟩ := own_form hown
   have hkp := Kept.grown (S := fun e => e = 46) (HT4.out.below bb5).od rfl hgr
   have hb6 := hkp.box _ _ _ (by decide) (HT4.out.below bb5).bx
   have hq6 := hkp.box _ _ _ (by decide) (Y4.out.below bb5 Y4.out.lt)
   refine hK.out _ _ (HSP.out _ hq6) (fun hHeld => ?_)
   clear hK
   try simp only [Act.put, qq]
   refine qT 9 ?_; try simp only [Act.put, qq]
   refine qT 10 ?_; try simp only [Act.put, qq]
   have s2 := hb6.cell 2
   have g2 := hb6.frozen 2
   simp at s2
   refine qR 11 fun K hK => ?_
   go_simp
   have HAD := h! (HT4.out.addD bb5 hgr hown)
   refine hK.out _ _ (HSP.out _ ((Kept.set (S := fun e => e = 147) hb6 rfl _).box _ _ _ (by decide) hq6)) (fun hHeld => ?_)
   clear hK
   try simp only [Act.put, qq]
   refine wpAnyH_done (by kernel_rfl) ?_ _
   go_wp2_with fail
   go_end0
   exact ⟨rfl, ⟨_, _, by rw [HD2.out]; exact HAD.out.1⟩, HK4.out.trans HAD.out.2, fun g cs n1 n2 hbx => by
    have h1 := HBX.out g cs n1 n2 hbx
    have h2 := hkp.box _ _ _ (by decide) (h1.below bb5 h1.lt)
    exact h2.far (p := ⟨p, 2, none⟩) n2 _⟩
section
variable {w0 W W' : World} {b p : Nat} {c : Int} {vW vD : Value} {ws : List Wt} {ds : List Sp}
theorem PtC.kept {S : TypeId → Prop} (h : PtC w0 b p c vW vD ws ds W) (hk : Kept S W W') (hb : Below b W W') (s1 : ¬ S 147) (s2 : ¬ S 78) (s3 : ¬ S 46) (s5 : ¬ S 3) : PtC w0 b p c vW vD ws ds W' :=
 ⟨h.bl.trans hb, ⟨h.ord.1, Nat.le_trans h.ord.2 hb.size⟩, hk.box _ _ _ s1 h.bx, KO.kept hk s5 s2 h.ow, hk.own h.od s3⟩
end
def AsQ (w0 : World) (b p : Nat) (S : Sk) (g : Int) (cm : Cm) (vD : Value) (e : Ending) (w' : World) : Prop :=
 (¬ (KM.asg S g cm ∧ KM.full S) ∧ e = .returned (.int .i64 0) ∧ ∃ vW, PtC w0 b p (KM.pre S g cm).c vW vD (KM.pre S g cm).ws S.ds w') ∨
  (KM.asg S g cm ∧ KM.full S ∧ e = .returned (.int .i64 9) ∧ ∃ vW, PtC w0 b p S.c vW vD S.ws S.ds w')
theorem asQ_no {w0 : World} {b p : Nat} {S : Sk} {g : Int} {cm : Cm} {vW vD : Value} {w' : World} (h : ¬ KM.asg S g cm) (ht : PtC w0 b p S.c vW vD S.ws S.ds w') : AsQ w0 b p S g cm vD (.returned (.int .i64 0)) w' := by
 refine .inl ⟨fun k => h k.1, rfl, vW, ?_⟩
 unfold KM.pre
 rw [if_neg h]
 exact ht
theorem passign15_any (w0 : World) (b p : Nat) (sc : Int) (A : Option Addr) (n cw : Nat) (B : Option Addr) (m cd : Nat) (ws : List Wt) (ds : List Sp) (g : Int) (cm : Cm) (hk1 : cm.k = 1) (P0 : Option Addr) (q0 : Nat) (W : World)
  (h : PtC w0 b p sc (.slice A n cw) (.slice B m cd) ws ds W) (hm : ∀ W', Below b w0 W' → RowIs W' P0 q0 cm.m.gs) (hgs : cm.m.gs.length ≤ 17592186044416) (hp : ws.Pairwise fun a b => a.m.id < b.m.id) (hn : ws.length ≤ 200) (hc : 0 ≤ sc ∧ sc ≤ 1073741824) :
  Calls Tryz.prog 105 #[.pointer (some ⟨p, 0, none⟩), .int .i64 g, .agg (mcells P0 q0 cm.m)] W (AsQ w0 b p ⟨sc, ws, ds⟩ g cm (.slice B m cd)) := by
 have hsl := h.ow.slice
 have HL := h! hsl.1
 have hn2 : n ≤ 200 := by have := hsl.1; omega
 obtain ⟨_, cd', ed, h4, h5⟩ := own_form h.od
 injection ed with ed1 ed2 ed3
 subst ed1 ed2 ed3
 clear h4 h5
 have KP1 := h! (fun W' (hb : Below W.heap.size W W') => pplace_any A n cw ws cm.m.id W' (hsl.2.2.2.r.below hb) hp (by omega))
 have KD1 := h! (fun W' (t : PtC w0 b p sc (.slice A n cw) (.slice B ds.length cd) ws ds W') => isDone_any p B ds.length cd ds cm.m.id W' ⟨rdg_own t.od, rfl, (by obtain ⟨_, _, e, g1, g2⟩ := own_form t.od; injection e with e1 e2 e3; subst e3; exact ⟨g1, g2⟩)⟩ (by have := t.bx.cell 2; simpa using this))
 have KC1 := h! (fun W' (hb : Below b w0 W') => contains_any P0 cm.m.gs.length q0 cm.m.gs g W' (hm W' hb).1 (by omega))
 have KL1 := h! (fun W' (hb : Below b w0 W') => cloneN_any P0 cm.m.gs.length q0 (ic cm.m.gs) W' (hm W' hb).1.g (ic_one _) hgs)
 have HWN := h! (KM.whit_iff (l := ws) (id := cm.m.id) hp)
 have HIN := h! (fun w (hw : w.m = cm.m) => show KM.whit ws cm.m.id = false → ws.take (KM.wpos ws cm.m.id) ++ [w] ++ ws.drop (KM.wpos ws cm.m.id) = KM.ins ws w from fun hh => by rw [← hw] at hh ⊢; exact KM.wpos_ins hp hh)
 have HKL := h! (KM.wpos_le ws cm.m.id)
 have HASG := h! (show KM.asg ⟨sc, ws, ds⟩ g cm ↔ KM.wat ws cm.m.id = ws.length ∧ KM.doneF ds cm.m.id = false ∧ QM.has cm.m.gs g = true from by
  unfold KM.asg QM.has
  simp [hk1])
 have HFUL := h! (show KM.full ⟨sc, ws, ds⟩ ↔ sc = 1073741824 ∨ n = 200 from by rw [hsl.1]; rfl)
 have HNO := h! (fun (k : ¬ KM.asg ⟨sc, ws, ds⟩ g cm) vW w' (t : PtC w0 b p sc vW (.slice B ds.length cd) ws ds w') => asQ_no (S := ⟨sc, ws, ds⟩) k t)
 have HFU := h! (fun (k : KM.asg ⟨sc, ws, ds⟩ g cm) (f : KM.full ⟨sc, ws, ds⟩) vW w' (t : PtC w0 b p sc vW (.slice B ds.length cd) ws ds w') => show AsQ w0 b p ⟨sc, ws, ds⟩ g cm (.slice B ds.length cd) (.returned (.int .i64 9)) w' from .inr ⟨k, f, rfl, vW, t⟩)
 have HYE := h! (fun (k : KM.asg ⟨sc, ws, ds⟩ g cm) (f : ¬ KM.full ⟨sc, ws, ds⟩) vW w' (t : PtC w0 b p (sc + 1) vW (.slice B ds.length cd) (KM.ins ws ⟨cm.m, sc + 1, false⟩) ds w') => show AsQ w0 b p ⟨sc, ws, ds⟩ g cm (.slice B ds.length cd) (.returned (.int .i64 0)) w' from .inl ⟨fun q => f q.2, rfl, vW, by unfold KM.pre; rw [if_pos k]; exact t⟩)
 obtain ⟨AS, hAS⟩ : ∃ AS, AS = KM.asg ⟨sc, ws, ds⟩ g cm := ⟨_, rfl⟩
 obtain ⟨FU, hFU⟩ : ∃ FU, FU = KM.full ⟨sc, ws, ds⟩ := ⟨_, rfl⟩
 obtain ⟨QQ, hQQ⟩ : ∃ QQ, QQ = AsQ w0 b p ⟨sc, ws, ds⟩ g cm (.slice B ds.length cd) := ⟨_, rfl⟩
 rw [← hQQ] at HNO HFU HYE ⊢
 rw [← hAS] at HASG HNO HFU HYE
 rw [← hFU] at HFUL HFU HYE
 clear hAS hFU hQQ hk1 hsl hp
 obtain ⟨mg, hmg⟩ : ∃ mg, mg = cm.m := ⟨_, rfl⟩
 rw [← hmg] at KP1 KD1 KC1 KL1 HWN HIN HKL HASG HYE hgs hm ⊢
 clear hmg cm
 obtain ⟨k, hk⟩ : ∃ k, k = KM.wpos ws mg.id := ⟨_, rfl⟩
 obtain ⟨R, hR⟩ : ∃ R, R = KM.whit ws mg.id := ⟨_, rfl⟩
 rw [← hk] at KP1 HIN HKL
 rw [← hR] at KP1 HWN HIN
 obtain ⟨d, hd⟩ : ∃ d, d = KM.doneF ds mg.id := ⟨_, rfl⟩
 rw [← hd] at KD1 HASG
 obtain ⟨hs, hhs⟩ : ∃ hs, hs = QM.has mg.gs g := ⟨_, rfl⟩
 rw [← hhs] at KC1 HASG
 clear hk hR hd hhs
 have HT := h! h
 have hgs64 : mg.gs.length ≤ 9223372036854775807 := by omega
 have HORD := h! (show b ≤ W.heap.size from HT.out.ord.2)
 clear h hm
 obtain ⟨mi, gs, mt, mk, mb⟩ := mg
 unfold mcells
 simp only at KP1 KD1 KC1 KL1 HWN HASG hgs hgs64 ⊢
 have HB := h! (show Below W.heap.size W (W.alloc (.cells #[.int .i64 mi, .slice P0 gs.length q0, .int .i64 mt, .string mk, .string mb] 33)) from (Below.refl _ _).alloc n! _)
 have Y := h! (Box.new W 33 #[.int .i64 mi, .slice P0 gs.length q0, .int .i64 mt, .string mk, .string mb])
 go_enter Tryz.func105, Tryz.ntmps105
 go_upto_region 1 with (fail)
 replace HT := h! (HT.out.below HB.out)
 have HBW := HORD
 generalize W.alloc (.cells #[.int .i64 mi, .slice P0 gs.length q0, .int .i64 mt, .string mk, .string mb] 33) = w1 at HB Y HT ⊢
 obtain ⟨g5, hg5⟩ : ∃ g5, W.heap.size = g5 := ⟨_, rfl⟩
 rw [hg5] at Y HBW
 simp only [hg5]
 clear hg5
 obtain ⟨x0, x1, x2⟩ := box_sk HT.out.bx
 obtain ⟨y0, y1, y2, y3, y4⟩ := (box_mg5 Y.out).1
 have HSS := h! (fun (w' : World) (h : Below w1.heap.size w1 w') => show w'.cell? ⟨p, 1, none⟩ = some (.slice A n cw) ∧ w'.cell? ⟨g5, 0, none⟩ = some (.int .i64 mi) from
  ⟨(h.cell (cell_block x1)).trans x1, (h.cell (cell_block y0)).trans y0⟩)
 have bb1 : Below w1.heap.size w1 w1.drew := (Below.refl _ _).drew
 obtain ⟨ud, hud⟩ : ∃ ud, ud = w1.drew := ⟨_, rfl⟩
 refine wp_region_held_drew (S := fun w' => w'.cell? ⟨p, 1, none⟩ = some (.slice A n cw) ∧ w'.cell? ⟨g5, 0, none⟩ = some (.int .i64 mi)) (by kernel_rfl) (HSS.out _ bb1) (fun hHeld => ?_)
 rw [← hud] at bb1 hHeld ⊢
 clear hud
 refine qT 0 ?_; try simp only [Act.put, qq]
 refine qT 1 ?_; try simp only [Act.put, qq]
 refine qT 2 ?_; try simp only [Act.put, qq]
 refine qT 3 ?_; try simp only [Act.put, qq]
 refine qT 4 ?_; try simp only [Act.put, qq]
 refine qT 5 ?_; try simp only [Act.put, qq]
 refine qR 6 fun K hK => ?_
 go_simp
 refine (KP1.out ud (bmore HB.out bb1 n!)).mono ?_
 rintro e w2 ⟨rfl, hb⟩
 have bb2 := bmore bb1 hb n!
 clear hb
 refine hK.out _ _ (HSS.out _ bb2) (fun hHeld => ?_)
 clear hK
 try simp only [Act.put, qq]
 refine qT 7 ?_; try simp only [Act.put, qq]
 refine qT 8 ?_; try simp only [Act.put, qq]
 refine qT 9 ?_; try simp only [Act.put, qq]
 refine qT 10 ?_; try simp only [Act.put, qq]
 refine qT 11 ?_; try simp only [Act.put, qq]
 refine wpAnyH_done (by kernel_rfl) ?_ _
 clear hHeld HSS
 have HB2 := h! (bmore HB.out bb2 n!)
 have HT2 := h! (HT.out.below bb2)
 have Y2 := h! (Y.out.below bb2 Y.out.lt)
 clear KP1 x0 x1 x2 y0 y1 y2 y3 y4
 obtain ⟨x0, x1, x2⟩ := box_sk HT2.out.bx
 obtain ⟨y0, y1, y2, y3, y4⟩ := (box_mg5 Y2.out).1
 rcases R with _ | _
 rotate_left
 ·have hna : ¬ AS := fun q => by
   have h1 := (HASG.out.1 q).1
   exact HWN.out.1 rfl h1
  go_wp2_with fail
  exact HNO.out hna _ _ HT2.out
 have hwat : KM.wat ws mi = ws.length := Classical.byContradiction fun q => by have := HWN.out.2 q; cases this
 have HWAT := h! hwat
 clear hwat
 go_wp2_with fail
 refine (KD1.out _ HT2.out).mono ?_
 rintro e w3 ⟨rfl, hb⟩
 have HB3 := h! (bmore HB2.out hb n!)
 have HT3 := h! (HT2.out.below hb)
 have Y3 := h! (Y2.out.below hb Y2.out.lt)
 clear hb KD1 x0 x1 x2 y0 y1 y2 y3 y4
 obtain ⟨x0, x1, x2⟩ := box_sk HT3.out.bx
 obtain ⟨y0, y1, y2, y3, y4⟩ := (box_mg5 Y3.out).1
 rcases d with _ | _
 rotate_left
 ·have hna : ¬ AS := fun q => by
   have h1 := (HASG.out.1 q).2.1
   cases h1
  go_wp2_with fail
  exact HNO.out hna _ _ HT3.out
 go_wp2_with fail
 refine (KC1.out _ HT3.out.bl).mono ?_
 rintro e w4 ⟨rfl, rfl⟩
 rcases hs with _ | _
 ·have hna : ¬ AS := fun q => by
   have h1 := (HASG.out.1 q).2.2
   cases h1
  go_wp2_with fail
  exact HNO.out hna _ _ HT3.out
 have HAS := h! (show AS from HASG.out.2 ⟨HWAT.out, (by first | rfl | trivial), (by first | rfl | trivial)⟩)
 by_cases hf1 : sc = 1073741824
 ·have HF := h! (HFUL.out.2 (.inl hf1))
  subst hf1
  go_wp2_with fail
  exact HFU.out HAS.out HF.out _ _ HT3.out
 by_cases hf2 : n = 200
 ·have HF := h! (HFUL.out.2 (.inr hf2))
  subst hf2
  have hf3 : (sc == 1073741824) = false := by simpa using hf1
  go_wp2_with fail
  exact HFU.out HAS.out HF.out _ _ HT3.out
 have HF := h! (show ¬ FU from fun q => (HFUL.out.1 q).elim hf1 hf2)
 have hf3 : (sc == 1073741824) = false := by simpa using hf1
 have hf4 : ((n : Int) == 200) = false := by simp; omega
 have hf5 : ¬ ((n : Int) = 200) := by omega
 have hw1 : IntKind.i64.wrap (sc + 1) = sc + 1 := by rw [IntKind.wrap_i64]; omega
 have z0 := HT3.out.bx.frozen 0
 go_upto_region 7 with (fail)
 have HT5 := h! (HT3.out.setC (sc + 1)).1
 have KS5 := h! (HT3.out.setC (sc + 1)).2
 have Y5 := h! (KS5.out.box _ _ _ (by unfold isC; decide) Y3.out)
 clear hf1 hf2 hf3 hf4 hf5 hw1 z0 x0 x1 x2 y0 y1 y2 y3 y4
 generalize w3.setCell ⟨p, 0, none⟩ (.int .i64 (sc + 1)) = w5 at HT5 Y5 ⊢
 clear KS5 HT3 Y3 HB3
 obtain ⟨y0, y1, y2, y3, y4⟩ := (box_mg5 Y5.out).1
 go_wp2_with fail
 refine (KL1.out _ HT5.out.bl).mono ?_
 rintro e w6 ⟨A6, c6, rfl, o6, hb6⟩
 obtain ⟨_, c6', ed6, g61, g62⟩ := own_form o6
 injection ed6 with ed1 ed2 ed3
 subst ed1 ed3
 have HT6 := h! (HT5.out.below hb6)
 have Y6 := h! (Y5.out.below hb6 Y5.out.lt)
 have HR6 := h! ((rowGe_own o6 rfl g61 g62).mono HT5.out.ord.2)
 clear o6 hb6 g61 g62 y0 y1 y2 y3 y4 KL1 ed2
 obtain ⟨⟨y0, y1, y2, y3, y4⟩, e0, e1, e2, e3, e4⟩ := box_mg5 Y6.out
 go_upto_region 8 with (fail)
 have HK7 := h! (Kept.set (S := fun e => e = 33) Y6.out rfl (i := 1) (.slice A6 gs.length c6))
 have HT7 := h! (HT6.out.kept HK7.out ((Below.refl b w6).setCell (p := ⟨g5, 1, none⟩) HBW.out _) (by decide) (by decide) (by decide) (by decide))
 have HR7 := h! (rowGe_kept HK7.out (by decide) HR6.out)
 have Y7 := h! (show Box (w6.setCell ⟨g5, 1, none⟩ (.slice A6 gs.length c6)) g5 33 #[.int .i64 mi, .slice A6 gs.length c6, .int .i64 mt, .string mk, .string mb] by have := Y6.out.stored 1 (.slice A6 gs.length c6); simpa using this)
 clear y0 y1 y2 y3 y4 e0 e1 e2 e3 e4
 generalize w6.setCell ⟨g5, 1, none⟩ (.slice A6 gs.length c6) = w7 at HT7 HR7 Y7 ⊢
 clear HT6 Y6 HR6 HK7 HT5 Y5 w6
 obtain ⟨x0, x1, x2⟩ := box_sk HT7.out.bx
 obtain ⟨y0, y1, y2, y3, y4⟩ := (box_mg5 Y7.out).1
 have HSS := h! (fun (w' : World) (h : Below w7.heap.size w7 w') => show w'.cell? ⟨p, 0, none⟩ = some (.int .i64 (sc + 1)) ∧ w'.cell? ⟨g5, 0, none⟩ = some (.int .i64 mi) ∧ w'.cell? ⟨g5, 1, none⟩ = some (.slice A6 gs.length c6) ∧ w'.cell? ⟨g5, 2, none⟩ = some (.int .i64 mt) ∧ w'.cell? ⟨g5, 3, none⟩ = some (.string mk) ∧ w'.cell? ⟨g5, 4, none⟩ = some (.string mb) from
  ⟨(h.cell (cell_block x0)).trans x0, (h.cell (cell_block y0)).trans y0, (h.cell (cell_block y1)).trans y1, (h.cell (cell_block y2)).trans y2, (h.cell (cell_block y3)).trans y3, (h.cell (cell_block y4)).trans y4⟩)
 have bb1 : Below w7.heap.size w7 w7.drew := (Below.refl _ _).drew
 have HSP := h! (fun (w' : World) (vW vD : Value) (h1 : Box w' p 147 #[.int .i64 (sc + 1), vW, vD]) (h2 : Box w' g5 33 #[.int .i64 mi, .slice A6 gs.length c6, .int .i64 mt, .string mk, .string mb]) => show w'.cell? ⟨p, 0, none⟩ = some (.int .i64 (sc + 1)) ∧ w'.cell? ⟨g5, 0, none⟩ = some (.int .i64 mi) ∧ w'.cell? ⟨g5, 1, none⟩ = some (.slice A6 gs.length c6) ∧ w'.cell? ⟨g5, 2, none⟩ = some (.int .i64 mt) ∧ w'.cell? ⟨g5, 3, none⟩ = some (.string mk) ∧ w'.cell? ⟨g5, 4, none⟩ = some (.string mb) from ⟨h1.cell 0, h2.cell 0, h2.cell 1, h2.cell 2, h2.cell 3, h2.cell 4⟩)
 obtain ⟨ud, hud⟩ : ∃ ud, ud = w7.drew := ⟨_, rfl⟩
 refine wp_region_held_drew (S := fun w' => w'.cell? ⟨p, 0, none⟩ = some (.int .i64 (sc + 1)) ∧ w'.cell? ⟨g5, 0, none⟩ = some (.int .i64 mi) ∧ w'.cell? ⟨g5, 1, none⟩ = some (.slice A6 gs.length c6) ∧ w'.cell? ⟨g5, 2, none⟩ = some (.int .i64 mt) ∧ w'.cell? ⟨g5, 3, none⟩ = some (.string mk) ∧ w'.cell? ⟨g5, 4, none⟩ = some (.string mb)) (by kernel_rfl) (HSS.out _ bb1) (fun hHeld => ?_)
 rw [← hud] at bb1 hHeld ⊢
 clear hud x0 x1 x2 y0 y1 y2 y3 y4
 refine qT 0 ?_; try simp only [Act.put, qq]
 refine qT 1 ?_; try simp only [Act.put, qq]
 refine qT 2 ?_; try simp only [Act.put, qq]
 refine qT 3 ?_; try simp only [Act.put, qq]
 refine qT 5 ?_; try simp only [Act.put, qq]
 refine qT 6 ?_; try simp only [Act.put, qq]
 refine qT 7 ?_; try simp only [Act.put, qq]
 refine qT 8 ?_; try simp only [Act.put, qq]
 refine qT 9 ?_; try simp only [Act.put, qq]
 refine qT 10 ?_; try simp only [Act.put, qq]
 refine qT 11 ?_; try simp only [Act.put, qq]
 refine wpAnyH_ready (rs := [4, 12]) (by kernel_rfl) (by simp) ?_
 refine AllReadyH.cons rfl (fun K hK => ?_) (AllReadyH.cons rfl (fun K hK => ?_) AllReadyH.nil)
 ·have hx1 := (HT7.out.below bb1).bx.cell 1
  simp at hx1
  go_simp
  refine hK.out _ _ (HSS.out _ bb1) (fun hHeld => ?_)
  clear hK hx1
  try simp only [Act.put, qq]
  refine qR 12 fun K hK => ?_
  go_simp
  have HV := h! (Box.new ud 78 #[.int .i64 mi, .slice A6 gs.length c6, .int .i64 mt, .string mk, .string mb, .int .i64 (sc + 1), .bool false])
  have bb3 : Below w7.heap.size w7 (ud.alloc (.cells #[.int .i64 mi, .slice A6 gs.length c6, .int .i64 mt, .string mk, .string mb, .int .i64 (sc + 1), .bool false] 78)) := bmore bb1 ((Below.refl _ _).alloc n! _) n!
  have hne3 : w7.heap.size ≤ ud.heap.size := bb1.size
  refine hK.out _ _ (HSS.out _ bb3) (fun hHeld => ?_)
  clear hK
  try simp only [Act.put, qq]
  generalize ud.alloc (.cells #[.int .i64 mi, .slice A6 gs.length c6, .int .i64 mt, .string mk, .string mb, .int .i64 (sc + 1), .bool false] 78) = w8 at HV bb3 hHeld ⊢
  generalize ud.heap.size = blk at HV hne3 ⊢
  refine qR 13 fun K hK => ?_
  go_simp
  have HT8 := h! (HT7.out.below bb3)
  obtain ⟨es, hes, hoe, hre⟩ := HT8.out.ow
  have hln : es.length = n := by rw [HL.out, ← hes, List.length_map]
  rw [hln] at hoe
  have hvb : Value.ownBlock (.slice A n cw) ≠ some blk := fun q => by
   have h1 := HT7.out.ow.blk (g := blk) q
   omega
  refine (insW_any b n cw k blk A (flat (exc KW) es) (KW.cel A6 c6 ⟨⟨mi, gs, mt, mk, mb⟩, sc + 1, false⟩) w8 (by have := HL.out; have := HKL.out; omega) (by omega) HT8.out.ord.2 hoe HV.out rfl hvb (exc_one KW es) (KW.one _ _ _)).mono ?_
  rintro e w9 ⟨A9, c9, rfl, o9, g9, _⟩
  have HKO := h! (kO_ins (K := KW) (b := b) (T := 78) (v := .slice A n cw) (w := w8) (w' := w9) (x := ⟨⟨mi, gs, mt, mk, mb⟩, sc + 1, false⟩) (A := A6) (c := c6) es hln (by have := HL.out; have := HKL.out; omega) hre (HR7.out.below bb3) (fun ad ea hn0 q => by
   obtain ⟨g', cur, e1, _, e3, _⟩ := (HR7.out.below bb3).3 hn0
   rw [ea] at e1
   injection e1 with e1
   rw [e1] at q
   exact own_ne hoe e3 (by decide) q.symm) g9 o9 (by decide))
  rw [hes] at HKO
  have hkp9 := Kept.grown (S := fun e => e = 78) hoe rfl g9
  have hb9 := hkp9.box _ _ _ (by decide) HT8.out.bx
  have hq9 := hkp9.box _ _ _ (by decide) (Y7.out.below bb3 Y7.out.lt)
  refine hK.out _ _ (HSP.out _ _ _ hb9 hq9) (fun hHeld => ?_)
  clear hK
  try simp only [Act.put, qq]
  refine qT 14 ?_; try simp only [Act.put, qq]
  refine qT 15 ?_; try simp only [Act.put, qq]
  have s2 := hb9.cell 1
  have g2 := hb9.frozen 1
  simp at s2
  refine qR 16 fun K hK => ?_
  go_simp
  have HNW := h! (HT7.out.newW bb3 g9 HKO.out)
  refine hK.out _ _ (HSP.out _ _ _ HNW.out.1.bx ((Kept.set (S := fun e => e = 147) hb9 rfl _).box _ _ _ (by decide) hq9)) (fun hHeld => ?_)
  clear hK
  try simp only [Act.put, qq]
  refine wpAnyH_done (by kernel_rfl) ?_ _
  go_wp2_with fail
  exact HYE.out HAS.out HF.out _ _ (by have h1 := HIN.out ⟨⟨mi, gs, mt, mk, mb⟩, sc + 1, false⟩ rfl (by first | rfl | trivial); rw [← h1]; exact HNW.out.1)
 ·go_simp
  have HV := h! (Box.new ud 78 #[.int .i64 mi, .slice A6 gs.length c6, .int .i64 mt, .string mk, .string mb, .int .i64 (sc + 1), .bool false])
  have bb3 : Below w7.heap.size w7 (ud.alloc (.cells #[.int .i64 mi, .slice A6 gs.length c6, .int .i64 mt, .string mk, .string mb, .int .i64 (sc + 1), .bool false] 78)) := bmore bb1 ((Below.refl _ _).alloc n! _) n!
  have hne3 : w7.heap.size ≤ ud.heap.size := bb1.size
  refine hK.out _ _ (HSS.out _ bb3) (fun hHeld => ?_)
  clear hK
  try simp only [Act.put, qq]
  generalize ud.alloc (.cells #[.int .i64 mi, .slice A6 gs.length c6, .int .i64 mt, .string mk, .string mb, .int .i64 (sc + 1), .bool false] 78) = w8 at HV bb3 hHeld ⊢
  generalize ud.heap.size = blk at HV hne3 ⊢
  refine qR 4 fun K hK => ?_
  have hx1 := (HT7.out.below bb3).bx.cell 1
  simp at hx1
  go_simp
  refine hK.out _ _ (HSS.out _ bb3) (fun hHeld => ?_)
  clear hK hx1
  try simp only [Act.put, qq]
  refine qR 13 fun K hK => ?_
  go_simp
  have HT8 := h! (HT7.out.below bb3)
  obtain ⟨es, hes, hoe, hre⟩ := HT8.out.ow
  have hln : es.length = n := by rw [HL.out, ← hes, List.length_map]
  rw [hln] at hoe
  have hvb : Value.ownBlock (.slice A n cw) ≠ some blk := fun q => by
   have h1 := HT7.out.ow.blk (g := blk) q
   omega
  refine (insW_any b n cw k blk A (flat (exc KW) es) (KW.cel A6 c6 ⟨⟨mi, gs, mt, mk, mb⟩, sc + 1, false⟩) w8 (by have := HL.out; have := HKL.out; omega) (by omega) HT8.out.ord.2 hoe HV.out rfl hvb (exc_one KW es) (KW.one _ _ _)).mono ?_
  rintro e w9 ⟨A9, c9, rfl, o9, g9, _⟩
  have HKO := h! (kO_ins (K := KW) (b := b) (T := 78) (v := .slice A n cw) (w := w8) (w' := w9) (x := ⟨⟨mi, gs, mt, mk, mb⟩, sc + 1, false⟩) (A := A6) (c := c6) es hln (by have := HL.out; have := HKL.out; omega) hre (HR7.out.below bb3) (fun ad ea hn0 q => by
   obtain ⟨g', cur, e1, _, e3, _⟩ := (HR7.out.below bb3).3 hn0
   rw [ea] at e1
   injection e1 with e1
   rw [e1] at q
   exact own_ne hoe e3 (by decide) q.symm) g9 o9 (by decide))
  rw [hes] at HKO
  have hkp9 := Kept.grown (S := fun e => e = 78) hoe rfl g9
  have hb9 := hkp9.box _ _ _ (by decide) HT8.out.bx
  have hq9 := hkp9.box _ _ _ (by decide) (Y7.out.below bb3 Y7.out.lt)
  refine hK.out _ _ (HSP.out _ _ _ hb9 hq9) (fun hHeld => ?_)
  clear hK
  try simp only [Act.put, qq]
  refine qT 14 ?_; try simp only [Act.put, qq]
  refine qT 15 ?_; try simp only [Act.put, qq]
  have s2 := hb9.cell 1
  have g2 := hb9.frozen 1
  simp at s2
  refine qR 16 fun K hK => ?_
  go_simp
  have HNW := h! (HT7.out.newW bb3 g9 HKO.out)
  refine hK.out _ _ (HSP.out _ _ _ HNW.out.1.bx ((Kept.set (S := fun e => e = 147) hb9 rfl _).box _ _ _ (by decide) hq9)) (fun hHeld => ?_)
  clear hK
  try simp only [Act.put, qq]
  refine wpAnyH_done (by kernel_rfl) ?_ _
  go_wp2_with fail
  exact HYE.out HAS.out HF.out _ _ (by have h1 := HIN.out ⟨⟨mi, gs, mt, mk, mb⟩, sc + 1, false⟩ rfl (by first | rfl | trivial); rw [← h1]; exact HNW.out.1)
end KP
end Go.Proofs.YteebeiaokfenmaaGreat
