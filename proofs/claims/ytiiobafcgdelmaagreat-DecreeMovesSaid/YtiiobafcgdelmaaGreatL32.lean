/- Contracts of functions of towncrier, layers 5 to 9, and of the document's own ones, part 32; each as its theorem says. -/
import Derived.Test.YtiiobafcgdelmaaGreatL01
import Derived.Test.YtiiobafcgdelmaaGreatL25
import Derived.Test.YtiiobafcgdelmaaGreatL27
import Derived.Deep.LoopGhost
import Derived.Deep.CutBlock
set_option linter.unusedVariables false
set_option linter.unusedSimpArgs false
namespace Go.Proofs.YtiiobafcgdelmaaGreat.PD
open Go.RowKit Go.Shelf
theorem TsRow.snoc {W : World} {base k : Nat} {xs : List Value} {ts : List AM.At} {t : AM.At} {v : Value} (h : TsRow W base xs (ts.take k)) (hv : AtOwn W base v t) (ht : ts[k]? = some t) : TsRow W base (xs ++ tcell v) (ts.take (k + 1)) := by
 obtain ⟨vs, hl, rfl, hall⟩ := h
 have hk : k < ts.length := (List.getElem?_eq_some_iff.1 ht).1
 have hvl : vs.length = k := by rw [hl, List.length_take]; omega
 refine ⟨vs ++ [v], by rw [List.length_append, hvl, List.length_take]; simp; omega, by rw [flat_append, flat_one], fun i x hx => ?_⟩
 by_cases e : i = k
 ·subst e
  rw [List.getElem?_take, if_pos (by omega), ht] at hx
  injection hx with hx
  subst hx
  exact ⟨v, by rw [List.getElem?_append_right (by omega), hvl, Nat.sub_self]; rfl, hv⟩
 ·have hi : i < k := by
   rw [List.getElem?_take] at hx
   split at hx
   ·omega
   ·cases hx
  obtain ⟨y, h1, h2⟩ := hall i x (by rw [List.getElem?_take, if_pos hi]; rw [List.getElem?_take, if_pos (by omega)] at hx; exact hx)
  exact ⟨y, by rw [List.getElem?_append_left (by omega)]; exact h1, h2⟩
structure RTp (W : World) (go : Nat) (w : DC.Wd) (X : Array Value) (v0 v1 vT v3 v4 : Value) (xs : List Value) (k : Nat) (wr : World) : Prop where
 bl : Below W.heap.size W wr
 hg : W.heap.size ≤ go
 h1 : go ≠ W.heap.size
 h2 : go ≠ W.heap.size + 1
 bx : Box wr W.heap.size 28 X
 bz : Box wr (W.heap.size + 1) 28 #[.slice none 0 0, .slice none 0 0, .slice none 0 0, .slice none 0 0, .slice none 0 0]
 bo : Box wr go 28 #[v0, v1, vT, v3, v4]
 o0 : wr.ownsRow W.heap.size 3 1 v0 w.ms.length (ic w.ms)
 o1 : wr.ownsRow W.heap.size 59 3 v1 w.vs.length (flat vcell w.vs)
 oT : wr.ownsRow W.heap.size 57 7 vT k xs
 ts : TsRow wr W.heap.size xs (w.ts.take k)
 o3 : wr.ownsRow W.heap.size 51 10 v3 w.ml.length (flat mcell w.ml)
 o4 : wr.ownsRow W.heap.size 53 2 v4 w.ch.length (flat ccell w.ch)
section
variable {W wr wr' : World} {go : Nat} {w : DC.Wd} {X : Array Value} {v0 v1 vT v3 v4 : Value} {xs : List Value} {k : Nat}
theorem RTp.below (h : RTp W go w X v0 v1 vT v3 v4 xs k wr) (hb : Below wr.heap.size wr wr') : RTp W go w X v0 v1 vT v3 v4 xs k wr' :=
 ⟨bmore h.bl hb n!, h.hg, h.h1, h.h2, h.bx.below hb h.bx.lt, h.bz.below hb h.bz.lt, h.bo.below hb h.bo.lt, own_below3 h.o0 hb, own_below3 h.o1 hb, own_below3 h.oT hb, h.ts.kept (S := fun _ => False) (Kept.of_below hb) id id, own_below3 h.o3 hb, own_below3 h.o4 hb⟩
theorem RTp.next {w9 : World} {v9 v : Value} {t : AM.At} (h : RTp W go w X v0 v1 vT v3 v4 xs k wr) (o9 : w9.ownsRow W.heap.size 57 7 v9 (k + 1) (xs ++ tcell v)) (g9 : wr.grownBy w9 vT.ownBlock)
  (hv : AtOwn wr W.heap.size v t) (ht : w.ts[k]? = some t) : RTp W go w X v0 v1 v9 v3 v4 (xs ++ tcell v) (k + 1) (w9.setCell ⟨go, 2, none⟩ v9) := by
 have kk : Kept isA wr w9 := Kept.grown h.oT rfl g9
 have hbl : Below W.heap.size W w9 := below_row h.bl h.oT h.bl.size g9
 have bo9 := kk.box _ _ _ (by unfold isA; decide) h.bo
 have ks : Kept isW w9 (w9.setCell ⟨go, 2, none⟩ v9) := Kept.set (S := isW) bo9 isW_w v9
 have ka := kk.at_ hv (by unfold isA; decide) (by unfold isA; decide)
 have kt := h.ts.kept kk (by unfold isA; decide) (by unfold isA; decide)
 refine ⟨hbl.setCell h.hg v9, h.hg, h.h1, h.h2, (kk.box _ _ _ (by unfold isA; decide) h.bx).far (p := ⟨go, 2, none⟩) h.h1.symm v9, (kk.box _ _ _ (by unfold isA; decide) h.bz).far (p := ⟨go, 2, none⟩) h.h2.symm v9, by simpa using bo9.stored 2 v9,
  ks.own (kk.own h.o0 (by unfold isA; decide)) (by unfold isW; decide), ks.own (kk.own h.o1 (by unfold isA; decide)) (by unfold isW; decide), ks.own o9 (by unfold isW; decide),
  (TsRow.snoc kt ka ht).kept ks (by unfold isW; decide) (by unfold isW; decide), ks.own (kk.own h.o3 (by unfold isA; decide)) (by unfold isW; decide), ks.own (kk.own h.o4 (by unfold isA; decide)) (by unfold isW; decide)⟩
theorem RTp.mid {w9 : World} (h : RTp W go w X v0 v1 vT v3 v4 xs k wr) (g9 : wr.grownBy w9 vT.ownBlock) : Below W.heap.size W w9 ∧ Box w9 W.heap.size 28 X ∧ Box w9 go 28 #[v0, v1, vT, v3, v4] := by
 have kk : Kept isA wr w9 := Kept.grown h.oT rfl g9
 exact ⟨below_row h.bl h.oT h.bl.size g9, kk.box _ _ _ (by unfold isA; decide) h.bx, kk.box _ _ _ (by unfold isA; decide) h.bo⟩
end
def TwCut (W : World) (w : DC.Wd) (X : Array Value) (x : Value) (wx : World) : Prop :=
 ∃ go A c B d C e D f, x = .pointer (some ⟨go, 0, none⟩) ∧ RTp W go w X (.slice A w.ms.length c) (.slice B w.vs.length d) (.slice none 0 0) (.slice C w.ml.length e) (.slice D w.ch.length f) [] 0 wx
section
variable {W W0 u : World} {go : Nat} {w : DC.Wd} {X : Array Value}
theorem tw_le (h : Below W.heap.size W W0) (k : Below W0.heap.size W0 u) : W.heap.size ≤ u.heap.size := Nat.le_trans h.size k.size
theorem tw_row {s n : Nat} {A : Option Addr} {xs : List Value} (h : Below W.heap.size W W0) (k : Below W0.heap.size W0 u) (r : RdG W s A n xs) : RdG u s A n xs := r.below (bmore h k n!)
theorem tw_ne {t : TypeId} (h : Box W0 W.heap.size t X) (k : Below W0.heap.size W0 u) : u.heap.size ≠ W.heap.size := by have := h.lt; have := k.size; omega
theorem tw_ne1 {t : TypeId} (h : Box W0 (W.heap.size + 1) t X) (k : Below W0.heap.size W0 u) : u.heap.size ≠ W.heap.size + 1 := by have := h.lt; have := k.size; omega
theorem tw_fin {A B C D : Option Addr} {c d e f : Nat} (hb : Below W.heap.size W W0) (hd : Below W0.heap.size W0 u) (hx : Box W0 W.heap.size 28 X)
  (hz : Box W0 (W.heap.size + 1) 28 #[.slice none 0 0, .slice none 0 0, .slice none 0 0, .slice none 0 0, .slice none 0 0]) (g1 : go ≠ W.heap.size) (g2 : go ≠ W.heap.size + 1) (g3 : W.heap.size ≤ go) (gx : Box u go 28 #[.slice none 0 0, .slice none 0 0, .slice none 0 0, .slice none 0 0, .slice none 0 0])
  (o0 : u.ownsRow W.heap.size 3 1 (.slice A w.ms.length c) w.ms.length (ic w.ms)) (o1 : u.ownsRow W.heap.size 59 3 (.slice B w.vs.length d) w.vs.length (flat vcell w.vs))
  (o3 : u.ownsRow W.heap.size 51 10 (.slice C w.ml.length e) w.ml.length (flat mcell w.ml)) (o4 : u.ownsRow W.heap.size 53 2 (.slice D w.ch.length f) w.ch.length (flat ccell w.ch)) :
  RTp W go w X (.slice A w.ms.length c) (.slice B w.vs.length d) (.slice none 0 0) (.slice C w.ml.length e) (.slice D w.ch.length f) [] 0
   (((((u.setCell ⟨go, 0, none⟩ (.slice A w.ms.length c)).setCell ⟨go, 1, none⟩ (.slice B w.vs.length d)).setCell ⟨go, 2, none⟩ (.slice none 0 0)).setCell ⟨go, 3, none⟩ (.slice C w.ml.length e)).setCell ⟨go, 4, none⟩ (.slice D w.ch.length f)) := by
 obtain ⟨r1, r2, r3⟩ := res5 gx (.slice A w.ms.length c) (.slice B w.vs.length d) (.slice none 0 0) (.slice C w.ml.length e) (.slice D w.ch.length f)
 exact ⟨r3 _ _ (bmore hb hd n!) g3, g3, g1, g2, far_setCells g1.symm [_, _, _, _, _] 0 (hx.below hd hx.lt), far_setCells g2.symm [_, _, _, _, _] 0 (hz.below hd hz.lt), r1,
  r2.own o0 (by unfold isW; decide), r2.own o1 (by unfold isW; decide), World.ownsRow_nil _ _ _ _, ⟨[], rfl, rfl, fun i t h => by simp at h⟩, r2.own o3 (by unfold isW; decide), r2.own o4 (by unfold isW; decide)⟩
theorem tw_held {a0 a1 a2 a3 a4 : Value} (hb : Below W.heap.size W W0) (hd : Below W0.heap.size W0 u) (hx : Box W0 W.heap.size 28 #[a0, a1, a2, a3, a4]) (g1 : go ≠ W.heap.size) (gx : Box u go 28 #[.slice none 0 0, .slice none 0 0, .slice none 0 0, .slice none 0 0, .slice none 0 0]) (b0 b1 b2 b3 b4 : Value) :
  (((((u.setCell ⟨go, 0, none⟩ b0).setCell ⟨go, 1, none⟩ b1).setCell ⟨go, 2, none⟩ b2).setCell ⟨go, 3, none⟩ b3).setCell ⟨go, 4, none⟩ b4).cell? ⟨W.heap.size, 0, none⟩ = some a0 ∧
  (((((u.setCell ⟨go, 0, none⟩ b0).setCell ⟨go, 1, none⟩ b1).setCell ⟨go, 2, none⟩ b2).setCell ⟨go, 3, none⟩ b3).setCell ⟨go, 4, none⟩ b4).cell? ⟨W.heap.size, 1, none⟩ = some a1 ∧
  (((((u.setCell ⟨go, 0, none⟩ b0).setCell ⟨go, 1, none⟩ b1).setCell ⟨go, 2, none⟩ b2).setCell ⟨go, 3, none⟩ b3).setCell ⟨go, 4, none⟩ b4).cell? ⟨W.heap.size, 3, none⟩ = some a3 ∧
  (((((u.setCell ⟨go, 0, none⟩ b0).setCell ⟨go, 1, none⟩ b1).setCell ⟨go, 2, none⟩ b2).setCell ⟨go, 3, none⟩ b3).setCell ⟨go, 4, none⟩ b4).cell? ⟨W.heap.size, 4, none⟩ = some a4 := by
 have h := far_setCells (g := W.heap.size) g1.symm [b0, b1, b2, b3, b4] 0 (hx.below hd hx.lt)
 obtain ⟨⟨x0, x1, x2, x3, x4⟩, _⟩ := Box.five h
 exact ⟨x0, x1, x3, x4⟩
end
set_option maxRecDepth 100000 in
set_option maxHeartbeats 8000000 in
theorem rwtwin_any (v : Value) (w : DC.Wd) (W : World) (H : WIs W v w) (F : WFit w) :
  Calls Tryz.prog 6 #[v] W (WRet w W) := by
 obtain ⟨A0, c0, A1, c1, A2, c2, A3, c3, A4, c4, xs, rfl, R⟩ := H
 obtain ⟨W0, hW0⟩ : ∃ W0, W0 = (W.alloc (.cells #[.slice A0 w.ms.length c0, .slice A1 w.vs.length c1, .slice A2 w.ts.length c2, .slice A3 w.ml.length c3, .slice A4 w.ch.length c4] 28)).alloc (.cells #[.slice none 0 0, .slice none 0 0, .slice none 0 0, .slice none 0 0, .slice none 0 0] 28) := ⟨_, rfl⟩
 have HB0 := h! (show Below W.heap.size W W0 by rw [hW0]; exact below2 _ _)
 have HX0 := h! (show Box W0 W.heap.size 28 #[.slice A0 w.ms.length c0, .slice A1 w.vs.length c1, .slice A2 w.ts.length c2, .slice A3 w.ml.length c3, .slice A4 w.ch.length c4] by rw [hW0]; exact (Box.new _ _ _).below ((Below.refl _ _).alloc n! _) (by simp))
 have HZ0 := h! (show Box W0 (W.heap.size + 1) 28 #[.slice none 0 0, .slice none 0 0, .slice none 0 0, .slice none 0 0, .slice none 0 0] by rw [hW0]; exact Box.new_at _ (by simp))
 have HR := h! R
 have HF := h! F
 have mixed : Tryz.prog.follows Departure.mixedOrders = true := by kernel_rfl
 clear R F
 go_enter Tryz.func6, Tryz.ntmps6
 go_upto_region 1 with (fail)
 rw [← hW0]
 clear hW0
 go_cut [3] (fun x wx => TwCut W w #[.slice A0 w.ms.length c0, .slice A1 w.vs.length c1, .slice A2 w.ts.length c2, .slice A3 w.ml.length c3, .slice A4 w.ch.length c4] x wx)
 case first =>
  have HSS : Hid (∀ w', Below W0.heap.size W0 w' → w'.cell? ⟨W.heap.size, 0, none⟩ = some (.slice A0 w.ms.length c0) ∧ w'.cell? ⟨W.heap.size, 1, none⟩ = some (.slice A1 w.vs.length c1) ∧ w'.cell? ⟨W.heap.size, 3, none⟩ = some (.slice A3 w.ml.length c3) ∧ w'.cell? ⟨W.heap.size, 4, none⟩ = some (.slice A4 w.ch.length c4)) := h! (fun w' hb => by
   obtain ⟨⟨x0, x1, x2, x3, x4⟩, _⟩ := (HX0.out.below hb HX0.out.lt).five
   exact ⟨x0, x1, x3, x4⟩)
  obtain ⟨i0, hi, hz0, hz1, hz2⟩ := info_parts info_ai
  obtain ⟨i1, hj, hy0, hy1, hy2⟩ := info_parts info_vt
  obtain ⟨i3, hl, hv0, hv1, hv2⟩ := info_parts info_mail
  obtain ⟨i4, hm, hu0, hu1, hu2⟩ := info_parts info_choice
  have F0 := HF.out.l0
  have F1 := HF.out.l1
  have F3 := HF.out.l3
  have F4 := HF.out.l4
  have HD := h! (show Below W0.heap.size W0 W0.drew from (Below.refl _ _).drew)
  refine wp_region_held_drew (S := fun w' => w'.cell? ⟨W.heap.size, 0, none⟩ = some (.slice A0 w.ms.length c0) ∧ w'.cell? ⟨W.heap.size, 1, none⟩ = some (.slice A1 w.vs.length c1) ∧ w'.cell? ⟨W.heap.size, 3, none⟩ = some (.slice A3 w.ml.length c3) ∧ w'.cell? ⟨W.heap.size, 4, none⟩ = some (.slice A4 w.ch.length c4)) (by kernel_rfl) (HSS.out _ HD.out) (fun hHeld => ?_)
  refine qT 0 ?_
  try simp only [Act.put, qq]
  refine qT 1 ?_
  try simp only [Act.put, qq]
  refine qT 3 ?_
  try simp only [Act.put, qq]
  refine qT 4 ?_
  try simp only [Act.put, qq]
  refine qT 6 ?_
  try simp only [Act.put, qq]
  refine qT 7 ?_
  try simp only [Act.put, qq]
  refine qT 9 ?_
  try simp only [Act.put, qq]
  refine qT 10 ?_
  try simp only [Act.put, qq]
  obtain ⟨ud, hud⟩ : ∃ ud, ud = W0.drew := ⟨_, rfl⟩
  rw [← hud] at HD hHeld ⊢
  clear hud
  refine wpAnyH_ready (rs := [2, 13]) (by kernel_rfl) (by simp) ?_
  refine AllReadyH.cons rfl (fun K hK => ?_) (AllReadyH.cons rfl (fun K hK => ?_) AllReadyH.nil)
  ·skip
   refine step_append_h rfl (.const (.slice none 0 0)) (.tmp 6) 22 rfl ud.heap.size 3 i0 (.int .i64 0) 1 8 Tryz.underlying22 hi hz0 hz1 hz2 rfl (by omega) (.slice none 0 0) 0 [] (by simp [Act.eval, Act.put]) (World.ownsRow_nil _ _ _ _) A0 w.ms.length c0 (ic w.ms) (by simp [Act.eval, Act.put]) (tw_row HB0.out HD.out HR.out.h0.g) (ic_one _) (by unfold maxLen; omega) (by omega) n! ?_
   intro va ub1 oa ga hob
   simp only [Nat.zero_add, List.nil_append] at oa
   obtain ⟨A5, c5, rfl, _, _⟩ := own_form oa
   have hb : Below ud.heap.size ud ub1 := below_of_grown ga (by intro g h; cases h)
   have O0 := h! (own_base oa (tw_le HB0.out HD.out))
   have HD := h! (bmore HD.out hb n!)
   clear oa ga hob hb
   refine hK.out _ _ (HSS.out _ HD.out) (fun hHeld => ?_)
   clear hK
   try simp only [Act.put, qq]
   refine wpAnyH_ready (rs := [5, 13]) (by kernel_rfl) (by simp) ?_
   refine AllReadyH.cons rfl (fun K hK => ?_) (AllReadyH.cons rfl (fun K hK => ?_) AllReadyH.nil)
   ·skip
    refine step_append_h rfl (.const (.slice none 0 0)) (.tmp 9) 23 rfl ub1.heap.size 59 i1 _ 3 32 Tryz.underlying23 hj hy0 hy1 hy2 rfl (by omega) (.slice none 0 0) 0 [] (by simp [Act.eval, Act.put]) (World.ownsRow_nil _ _ _ _) A1 w.vs.length c1 (flat vcell w.vs) (by simp [Act.eval, Act.put]) (tw_row HB0.out HD.out HR.out.h1) (one_flat v_one _) (by unfold maxLen; omega) (by omega) n! ?_
    intro va ub2 oa ga hob
    simp only [Nat.zero_add, List.nil_append] at oa
    obtain ⟨A6, c6, rfl, _, _⟩ := own_form oa
    have hb : Below ub1.heap.size ub1 ub2 := below_of_grown ga (by intro g h; cases h)
    have O1 := h! (own_base oa (tw_le HB0.out HD.out))
    have O0 := h! (own_below3 O0.out hb)
    have HD := h! (bmore HD.out hb n!)
    clear oa ga hob hb
    refine hK.out _ _ (HSS.out _ HD.out) (fun hHeld => ?_)
    clear hK
    try simp only [Act.put, qq]
    refine wpAnyH_ready (rs := [8, 13]) (by kernel_rfl) (by simp) ?_
    refine AllReadyH.cons rfl (fun K hK => ?_) (AllReadyH.cons rfl (fun K hK => ?_) AllReadyH.nil)
    ·skip
     refine step_append_h rfl (.const (.slice none 0 0)) (.tmp 12) 25 rfl ub2.heap.size 51 i3 _ 10 88 Tryz.underlying25 hl hv0 hv1 hv2 rfl (by omega) (.slice none 0 0) 0 [] (by simp [Act.eval, Act.put]) (World.ownsRow_nil _ _ _ _) A3 w.ml.length c3 (flat mcell w.ml) (by simp [Act.eval, Act.put]) (tw_row HB0.out HD.out HR.out.h3) (one_flat m_one _) (by unfold maxLen; omega) (by omega) n! ?_
     intro va ub3 oa ga hob
     simp only [Nat.zero_add, List.nil_append] at oa
     obtain ⟨A7, c7, rfl, _, _⟩ := own_form oa
     have hb : Below ub2.heap.size ub2 ub3 := below_of_grown ga (by intro g h; cases h)
     have O3 := h! (own_base oa (tw_le HB0.out HD.out))
     have O0 := h! (own_below3 O0.out hb)
     have O1 := h! (own_below3 O1.out hb)
     have HD := h! (bmore HD.out hb n!)
     clear oa ga hob hb
     refine hK.out _ _ (HSS.out _ HD.out) (fun hHeld => ?_)
     clear hK
     try simp only [Act.put, qq]
     refine wpAnyH_ready (rs := [11, 13]) (by kernel_rfl) (by simp) ?_
     refine AllReadyH.cons rfl (fun K hK => ?_) (AllReadyH.cons rfl (fun K hK => ?_) AllReadyH.nil)
     ·skip
      refine step_append_h rfl (.const (.slice none 0 0)) (.tmp 15) 26 rfl ub3.heap.size 53 i4 _ 2 24 Tryz.underlying26 hm hu0 hu1 hu2 rfl (by omega) (.slice none 0 0) 0 [] (by simp [Act.eval, Act.put]) (World.ownsRow_nil _ _ _ _) A4 w.ch.length c4 (flat ccell w.ch) (by simp [Act.eval, Act.put]) (tw_row HB0.out HD.out HR.out.h4) (one_flat c_one _) (by unfold maxLen; omega) (by omega) n! ?_
      intro va ub4 oa ga hob
      simp only [Nat.zero_add, List.nil_append] at oa
      obtain ⟨A8, c8, rfl, _, _⟩ := own_form oa
      have hb : Below ub3.heap.size ub3 ub4 := below_of_grown ga (by intro g h; cases h)
      have O4 := h! (own_base oa (tw_le HB0.out HD.out))
      have O0 := h! (own_below3 O0.out hb)
      have O1 := h! (own_below3 O1.out hb)
      have O3 := h! (own_below3 O3.out hb)
      have HD := h! (bmore HD.out hb n!)
      clear oa ga hob hb
      refine hK.out _ _ (HSS.out _ HD.out) (fun hHeld => ?_)
      clear hK
      try simp only [Act.put, qq]
      refine qT 12 ?_
      try simp only [Act.put, qq]
      refine qR 13 fun K hK => ?_
      ·skip
       go_simp
       have hb : Below ub4.heap.size ub4 (ub4.alloc (.cells #[.slice none 0 0, .slice none 0 0, .slice none 0 0, .slice none 0 0, .slice none 0 0] 28)) := b!
       have GO := h! (And.intro (tw_ne HX0.out HD.out) (And.intro (tw_ne1 HZ0.out HD.out) (And.intro (tw_le HB0.out HD.out) (Box.new ub4 28 #[.slice none 0 0, .slice none 0 0, .slice none 0 0, .slice none 0 0, .slice none 0 0]))))
       have O0 := h! (own_below3 O0.out hb)
       have O1 := h! (own_below3 O1.out hb)
       have O3 := h! (own_below3 O3.out hb)
       have O4 := h! (own_below3 O4.out hb)
       have HD := h! (bmore HD.out hb n!)
       clear hb
       refine hK.out _ _ (HSS.out _ HD.out) (fun hHeld => ?_)
       clear hK
       try simp only [Act.put, qq]
       generalize ub4.alloc (.cells #[.slice none 0 0, .slice none 0 0, .slice none 0 0, .slice none 0 0, .slice none 0 0] 28) = ua5 at GO HD hHeld O0 O1 O3 O4 ⊢
       generalize ub4.heap.size = go at GO ⊢
       obtain ⟨⟨_, _, _, _, _⟩, z0, z1, z2, z3, z4⟩ := GO.out.2.2.2.five
       have HFIN := h! (show TwCut W w #[.slice A0 w.ms.length c0, .slice A1 w.vs.length c1, .slice A2 w.ts.length c2, .slice A3 w.ml.length c3, .slice A4 w.ch.length c4] (.pointer (some ⟨go, 0, none⟩)) _ from ⟨go, A5, c5, A6, c6, A7, c7, A8, c8, rfl, tw_fin HB0.out HD.out HX0.out HZ0.out GO.out.1 GO.out.2.1 GO.out.2.2.1 GO.out.2.2.2 O0.out O1.out O3.out O4.out⟩)
       have HSF := h! (tw_held HB0.out HD.out HX0.out GO.out.1 GO.out.2.2.2 (.slice A5 w.ms.length c5) (.slice A6 w.vs.length c6) (.slice none 0 0) (.slice A7 w.ml.length c7) (.slice A8 w.ch.length c8))
       refine qR 14 fun K hK => ?_
       go_simp
       refine hK.out _ _ HSF.out (fun hHeld => ?_)
       clear hK
       try simp only [Act.put, qq]
       refine wpAnyH_done (by kernel_rfl) ?_ _
       clear hHeld HSF z0 z1 z2 z3 z4
       go_wp2_with fail
       go_meet
       case rel => exact HFIN.out
     ·skip
      go_simp
      have hb : Below ub3.heap.size ub3 (ub3.alloc (.cells #[.slice none 0 0, .slice none 0 0, .slice none 0 0, .slice none 0 0, .slice none 0 0] 28)) := b!
      have GO := h! (And.intro (tw_ne HX0.out HD.out) (And.intro (tw_ne1 HZ0.out HD.out) (And.intro (tw_le HB0.out HD.out) (Box.new ub3 28 #[.slice none 0 0, .slice none 0 0, .slice none 0 0, .slice none 0 0, .slice none 0 0]))))
      have O0 := h! (own_below3 O0.out hb)
      have O1 := h! (own_below3 O1.out hb)
      have O3 := h! (own_below3 O3.out hb)
      have HD := h! (bmore HD.out hb n!)
      clear hb
      refine hK.out _ _ (HSS.out _ HD.out) (fun hHeld => ?_)
      clear hK
      try simp only [Act.put, qq]
      generalize ub3.alloc (.cells #[.slice none 0 0, .slice none 0 0, .slice none 0 0, .slice none 0 0, .slice none 0 0] 28) = ua6 at GO HD hHeld O0 O1 O3 ⊢
      generalize ub3.heap.size = go at GO ⊢
      refine qR 11 fun K hK => ?_
      ·skip
       refine step_append_h rfl (.const (.slice none 0 0)) (.tmp 15) 26 rfl ua6.heap.size 53 i4 _ 2 24 Tryz.underlying26 hm hu0 hu1 hu2 rfl (by omega) (.slice none 0 0) 0 [] (by simp [Act.eval, Act.put]) (World.ownsRow_nil _ _ _ _) A4 w.ch.length c4 (flat ccell w.ch) (by simp [Act.eval, Act.put]) (tw_row HB0.out HD.out HR.out.h4) (one_flat c_one _) (by unfold maxLen; omega) (by omega) n! ?_
       intro va ub7 oa ga hob
       simp only [Nat.zero_add, List.nil_append] at oa
       obtain ⟨A8, c8, rfl, _, _⟩ := own_form oa
       have hb : Below ua6.heap.size ua6 ub7 := below_of_grown ga (by intro g h; cases h)
       have O4 := h! (own_base oa (tw_le HB0.out HD.out))
       have O0 := h! (own_below3 O0.out hb)
       have O1 := h! (own_below3 O1.out hb)
       have O3 := h! (own_below3 O3.out hb)
       have GO := h! (And.intro GO.out.1 (And.intro GO.out.2.1 (And.intro GO.out.2.2.1 (GO.out.2.2.2.below hb GO.out.2.2.2.lt))))
       have HD := h! (bmore HD.out hb n!)
       clear oa ga hob hb
       refine hK.out _ _ (HSS.out _ HD.out) (fun hHeld => ?_)
       clear hK
       try simp only [Act.put, qq]
       refine qT 12 ?_
       try simp only [Act.put, qq]
       obtain ⟨⟨_, _, _, _, _⟩, z0, z1, z2, z3, z4⟩ := GO.out.2.2.2.five
       have HFIN := h! (show TwCut W w #[.slice A0 w.ms.length c0, .slice A1 w.vs.length c1, .slice A2 w.ts.length c2, .slice A3 w.ml.length c3, .slice A4 w.ch.length c4] (.pointer (some ⟨go, 0, none⟩)) _ from ⟨go, A5, c5, A6, c6, A7, c7, A8, c8, rfl, tw_fin HB0.out HD.out HX0.out HZ0.out GO.out.1 GO.out.2.1 GO.out.2.2.1 GO.out.2.2.2 O0.out O1.out O3.out O4.out⟩)
       have HSF := h! (tw_held HB0.out HD.out HX0.out GO.out.1 GO.out.2.2.2 (.slice A5 w.ms.length c5) (.slice A6 w.vs.length c6) (.slice none 0 0) (.slice A7 w.ml.length c7) (.slice A8 w.ch.length c8))
       refine qR 14 fun K hK => ?_
       go_simp
       refine hK.out _ _ HSF.out (fun hHeld => ?_)
       clear hK
       try simp only [Act.put, qq]
       refine wpAnyH_done (by kernel_rfl) ?_ _
       clear hHeld HSF z0 z1 z2 z3 z4
       go_wp2_with fail
       go_meet
       case rel => exact HFIN.out
    ·skip
     go_simp
     have hb : Below ub2.heap.size ub2 (ub2.alloc (.cells #[.slice none 0 0, .slice none 0 0, .slice none 0 0, .slice none 0 0, .slice none 0 0] 28)) := b!
     have GO := h! (And.intro (tw_ne HX0.out HD.out) (And.intro (tw_ne1 HZ0.out HD.out) (And.intro (tw_le HB0.out HD.out) (Box.new ub2 28 #[.slice none 0 0, .slice none 0 0, .slice none 0 0, .slice none 0 0, .slice none 0 0]))))
     have O0 := h! (own_below3 O0.out hb)
     have O1 := h! (own_below3 O1.out hb)
     have HD := h! (bmore HD.out hb n!)
     clear hb
     refine hK.out _ _ (HSS.out _ HD.out) (fun hHeld => ?_)
     clear hK
     try simp only [Act.put, qq]
     generalize ub2.alloc (.cells #[.slice none 0 0, .slice none 0 0, .slice none 0 0, .slice none 0 0, .slice none 0 0] 28) = ua8 at GO HD hHeld O0 O1 ⊢
     generalize ub2.heap.size = go at GO ⊢
     refine qR 8 fun K hK => ?_
     ·skip
      refine step_append_h rfl (.const (.slice none 0 0)) (.tmp 12) 25 rfl ua8.heap.size 51 i3 _ 10 88 Tryz.underlying25 hl hv0 hv1 hv2 rfl (by omega) (.slice none 0 0) 0 [] (by simp [Act.eval, Act.put]) (World.ownsRow_nil _ _ _ _) A3 w.ml.length c3 (flat mcell w.ml) (by simp [Act.eval, Act.put]) (tw_row HB0.out HD.out HR.out.h3) (one_flat m_one _) (by unfold maxLen; omega) (by omega) n! ?_
      intro va ub9 oa ga hob
      simp only [Nat.zero_add, List.nil_append] at oa
      obtain ⟨A7, c7, rfl, _, _⟩ := own_form oa
      have hb : Below ua8.heap.size ua8 ub9 := below_of_grown ga (by intro g h; cases h)
      have O3 := h! (own_base oa (tw_le HB0.out HD.out))
      have O0 := h! (own_below3 O0.out hb)
      have O1 := h! (own_below3 O1.out hb)
      have GO := h! (And.intro GO.out.1 (And.intro GO.out.2.1 (And.intro GO.out.2.2.1 (GO.out.2.2.2.below hb GO.out.2.2.2.lt))))
      have HD := h! (bmore HD.out hb n!)
      clear oa ga hob hb
      refine hK.out _ _ (HSS.out _ HD.out) (fun hHeld => ?_)
      clear hK
      try simp only [Act.put, qq]
      refine qR 11 fun K hK => ?_
      ·skip
       refine step_append_h rfl (.const (.slice none 0 0)) (.tmp 15) 26 rfl ub9.heap.size 53 i4 _ 2 24 Tryz.underlying26 hm hu0 hu1 hu2 rfl (by omega) (.slice none 0 0) 0 [] (by simp [Act.eval, Act.put]) (World.ownsRow_nil _ _ _ _) A4 w.ch.length c4 (flat ccell w.ch) (by simp [Act.eval, Act.put]) (tw_row HB0.out HD.out HR.out.h4) (one_flat c_one _) (by unfold maxLen; omega) (by omega) n! ?_
       intro va ub10 oa ga hob
       simp only [Nat.zero_add, List.nil_append] at oa
       obtain ⟨A8, c8, rfl, _, _⟩ := own_form oa
       have hb : Below ub9.heap.size ub9 ub10 := below_of_grown ga (by intro g h; cases h)
       have O4 := h! (own_base oa (tw_le HB0.out HD.out))
       have O0 := h! (own_below3 O0.out hb)
       have O1 := h! (own_below3 O1.out hb)
       have O3 := h! (own_below3 O3.out hb)
       have GO := h! (And.intro GO.out.1 (And.intro GO.out.2.1 (And.intro GO.out.2.2.1 (GO.out.2.2.2.below hb GO.out.2.2.2.lt))))
       have HD := h! (bmore HD.out hb n!)
       clear oa ga hob hb
       refine hK.out _ _ (HSS.out _ HD.out) (fun hHeld => ?_)
       clear hK
       try simp only [Act.put, qq]
       refine qT 12 ?_
       try simp only [Act.put, qq]
       obtain ⟨⟨_, _, _, _, _⟩, z0, z1, z2, z3, z4⟩ := GO.out.2.2.2.five
       have HFIN := h! (show TwCut W w #[.slice A0 w.ms.length c0, .slice A1 w.vs.length c1, .slice A2 w.ts.length c2, .slice A3 w.ml.length c3, .slice A4 w.ch.length c4] (.pointer (some ⟨go, 0, none⟩)) _ from ⟨go, A5, c5, A6, c6, A7, c7, A8, c8, rfl, tw_fin HB0.out HD.out HX0.out HZ0.out GO.out.1 GO.out.2.1 GO.out.2.2.1 GO.out.2.2.2 O0.out O1.out O3.out O4.out⟩)
       have HSF := h! (tw_held HB0.out HD.out HX0.out GO.out.1 GO.out.2.2.2 (.slice A5 w.ms.length c5) (.slice A6 w.vs.length c6) (.slice none 0 0) (.slice A7 w.ml.length c7) (.slice A8 w.ch.length c8))
       refine qR 14 fun K hK => ?_
       go_simp
       refine hK.out _ _ HSF.out (fun hHeld => ?_)
       clear hK
       try simp only [Act.put, qq]
       refine wpAnyH_done (by kernel_rfl) ?_ _
       clear hHeld HSF z0 z1 z2 z3 z4
       go_wp2_with fail
       go_meet
       case rel => exact HFIN.out
   ·skip
    go_simp
    have hb : Below ub1.heap.size ub1 (ub1.alloc (.cells #[.slice none 0 0, .slice none 0 0, .slice none 0 0, .slice none 0 0, .slice none 0 0] 28)) := b!
    have GO := h! (And.intro (tw_ne HX0.out HD.out) (And.intro (tw_ne1 HZ0.out HD.out) (And.intro (tw_le HB0.out HD.out) (Box.new ub1 28 #[.slice none 0 0, .slice none 0 0, .slice none 0 0, .slice none 0 0, .slice none 0 0]))))
    have O0 := h! (own_below3 O0.out hb)
    have HD := h! (bmore HD.out hb n!)
    clear hb
    refine hK.out _ _ (HSS.out _ HD.out) (fun hHeld => ?_)
    clear hK
    try simp only [Act.put, qq]
    generalize ub1.alloc (.cells #[.slice none 0 0, .slice none 0 0, .slice none 0 0, .slice none 0 0, .slice none 0 0] 28) = ua11 at GO HD hHeld O0 ⊢
    generalize ub1.heap.size = go at GO ⊢
    refine qR 5 fun K hK => ?_
    ·skip
     refine step_append_h rfl (.const (.slice none 0 0)) (.tmp 9) 23 rfl ua11.heap.size 59 i1 _ 3 32 Tryz.underlying23 hj hy0 hy1 hy2 rfl (by omega) (.slice none 0 0) 0 [] (by simp [Act.eval, Act.put]) (World.ownsRow_nil _ _ _ _) A1 w.vs.length c1 (flat vcell w.vs) (by simp [Act.eval, Act.put]) (tw_row HB0.out HD.out HR.out.h1) (one_flat v_one _) (by unfold maxLen; omega) (by omega) n! ?_
     intro va ub12 oa ga hob
     simp only [Nat.zero_add, List.nil_append] at oa
     obtain ⟨A6, c6, rfl, _, _⟩ := own_form oa
     have hb : Below ua11.heap.size ua11 ub12 := below_of_grown ga (by intro g h; cases h)
     have O1 := h! (own_base oa (tw_le HB0.out HD.out))
     have O0 := h! (own_below3 O0.out hb)
     have GO := h! (And.intro GO.out.1 (And.intro GO.out.2.1 (And.intro GO.out.2.2.1 (GO.out.2.2.2.below hb GO.out.2.2.2.lt))))
     have HD := h! (bmore HD.out hb n!)
     clear oa ga hob hb
     refine hK.out _ _ (HSS.out _ HD.out) (fun hHeld => ?_)
     clear hK
     try simp only [Act.put, qq]
     refine qR 8 fun K hK => ?_
     ·skip
      refine step_append_h rfl (.const (.slice none 0 0)) (.tmp 12) 25 rfl ub12.heap.size 51 i3 _ 10 88 Tryz.underlying25 hl hv0 hv1 hv2 rfl (by omega) (.slice none 0 0) 0 [] (by simp [Act.eval, Act.put]) (World.ownsRow_nil _ _ _ _) A3 w.ml.length c3 (flat mcell w.ml) (by simp [Act.eval, Act.put]) (tw_row HB0.out HD.out HR.out.h3) (one_flat m_one _) (by unfold maxLen; omega) (by omega) n! ?_
      intro va ub13 oa ga hob
      simp only [Nat.zero_add, List.nil_append] at oa
      obtain ⟨A7, c7, rfl, _, _⟩ := own_form oa
      have hb : Below ub12.heap.size ub12 ub13 := below_of_grown ga (by intro g h; cases h)
      have O3 := h! (own_base oa (tw_le HB0.out HD.out))
      have O0 := h! (own_below3 O0.out hb)
      have O1 := h! (own_below3 O1.out hb)
      have GO := h! (And.intro GO.out.1 (And.intro GO.out.2.1 (And.intro GO.out.2.2.1 (GO.out.2.2.2.below hb GO.out.2.2.2.lt))))
      have HD := h! (bmore HD.out hb n!)
      clear oa ga hob hb
      refine hK.out _ _ (HSS.out _ HD.out) (fun hHeld => ?_)
      clear hK
      try simp only [Act.put, qq]
      refine qR 11 fun K hK => ?_
      ·skip
       refine step_append_h rfl (.const (.slice none 0 0)) (.tmp 15) 26 rfl ub13.heap.size 53 i4 _ 2 24 Tryz.underlying26 hm hu0 hu1 hu2 rfl (by omega) (.slice none 0 0) 0 [] (by simp [Act.eval, Act.put]) (World.ownsRow_nil _ _ _ _) A4 w.ch.length c4 (flat ccell w.ch) (by simp [Act.eval, Act.put]) (tw_row HB0.out HD.out HR.out.h4) (one_flat c_one _) (by unfold maxLen; omega) (by omega) n! ?_
       intro va ub14 oa ga hob
       simp only [Nat.zero_add, List.nil_append] at oa
       obtain ⟨A8, c8, rfl, _, _⟩ := own_form oa
       have hb : Below ub13.heap.size ub13 ub14 := below_of_grown ga (by intro g h; cases h)
       have O4 := h! (own_base oa (tw_le HB0.out HD.out))
       have O0 := h! (own_below3 O0.out hb)
       have O1 := h! (own_below3 O1.out hb)
       have O3 := h! (own_below3 O3.out hb)
       have GO := h! (And.intro GO.out.1 (And.intro GO.out.2.1 (And.intro GO.out.2.2.1 (GO.out.2.2.2.below hb GO.out.2.2.2.lt))))
       have HD := h! (bmore HD.out hb n!)
       clear oa ga hob hb
       refine hK.out _ _ (HSS.out _ HD.out) (fun hHeld => ?_)
       clear hK
       try simp only [Act.put, qq]
       refine qT 12 ?_
       try simp only [Act.put, qq]
       obtain ⟨⟨_, _, _, _, _⟩, z0, z1, z2, z3, z4⟩ := GO.out.2.2.2.five
       have HFIN := h! (show TwCut W w #[.slice A0 w.ms.length c0, .slice A1 w.vs.length c1, .slice A2 w.ts.length c2, .slice A3 w.ml.length c3, .slice A4 w.ch.length c4] (.pointer (some ⟨go, 0, none⟩)) _ from ⟨go, A5, c5, A6, c6, A7, c7, A8, c8, rfl, tw_fin HB0.out HD.out HX0.out HZ0.out GO.out.1 GO.out.2.1 GO.out.2.2.1 GO.out.2.2.2 O0.out O1.out O3.out O4.out⟩)
       have HSF := h! (tw_held HB0.out HD.out HX0.out GO.out.1 GO.out.2.2.2 (.slice A5 w.ms.length c5) (.slice A6 w.vs.length c6) (.slice none 0 0) (.slice A7 w.ml.length c7) (.slice A8 w.ch.length c8))
       refine qR 14 fun K hK => ?_
       go_simp
       refine hK.out _ _ HSF.out (fun hHeld => ?_)
       clear hK
       try simp only [Act.put, qq]
       refine wpAnyH_done (by kernel_rfl) ?_ _
       clear hHeld HSF z0 z1 z2 z3 z4
       go_wp2_with fail
       go_meet
       case rel => exact HFIN.out
  ·skip
   go_simp
   have hb : Below ud.heap.size ud (ud.alloc (.cells #[.slice none 0 0, .slice none 0 0, .slice none 0 0, .slice none 0 0, .slice none 0 0] 28)) := b!
   have GO := h! (And.intro (tw_ne HX0.out HD.out) (And.intro (tw_ne1 HZ0.out HD.out) (And.intro (tw_le HB0.out HD.out) (Box.new ud 28 #[.slice none 0 0, .slice none 0 0, .slice none 0 0, .slice none 0 0, .slice none 0 0]))))
   have HD := h! (bmore HD.out hb n!)
   clear hb
   refine hK.out _ _ (HSS.out _ HD.out) (fun hHeld => ?_)
   clear hK
   try simp only [Act.put, qq]
   generalize ud.alloc (.cells #[.slice none 0 0, .slice none 0 0, .slice none 0 0, .slice none 0 0, .slice none 0 0] 28) = ua15 at GO HD hHeld  ⊢
   generalize ud.heap.size = go at GO ⊢
   refine qR 2 fun K hK => ?_
   ·skip
    refine step_append_h rfl (.const (.slice none 0 0)) (.tmp 6) 22 rfl ua15.heap.size 3 i0 (.int .i64 0) 1 8 Tryz.underlying22 hi hz0 hz1 hz2 rfl (by omega) (.slice none 0 0) 0 [] (by simp [Act.eval, Act.put]) (World.ownsRow_nil _ _ _ _) A0 w.ms.length c0 (ic w.ms) (by simp [Act.eval, Act.put]) (tw_row HB0.out HD.out HR.out.h0.g) (ic_one _) (by unfold maxLen; omega) (by omega) n! ?_
    intro va ub16 oa ga hob
    simp only [Nat.zero_add, List.nil_append] at oa
    obtain ⟨A5, c5, rfl, _, _⟩ := own_form oa
    have hb : Below ua15.heap.size ua15 ub16 := below_of_grown ga (by intro g h; cases h)
    have O0 := h! (own_base oa (tw_le HB0.out HD.out))
    have GO := h! (And.intro GO.out.1 (And.intro GO.out.2.1 (And.intro GO.out.2.2.1 (GO.out.2.2.2.below hb GO.out.2.2.2.lt))))
    have HD := h! (bmore HD.out hb n!)
    clear oa ga hob hb
    refine hK.out _ _ (HSS.out _ HD.out) (fun hHeld => ?_)
    clear hK
    try simp only [Act.put, qq]
    refine qR 5 fun K hK => ?_
    ·skip
     refine step_append_h rfl (.const (.slice none 0 0)) (.tmp 9) 23 rfl ub16.heap.size 59 i1 _ 3 32 Tryz.underlying23 hj hy0 hy1 hy2 rfl (by omega) (.slice none 0 0) 0 [] (by simp [Act.eval, Act.put]) (World.ownsRow_nil _ _ _ _) A1 w.vs.length c1 (flat vcell w.vs) (by simp [Act.eval, Act.put]) (tw_row HB0.out HD.out HR.out.h1) (one_flat v_one _) (by unfold maxLen; omega) (by omega) n! ?_
     intro va ub17 oa ga hob
     simp only [Nat.zero_add, List.nil_append] at oa
     obtain ⟨A6, c6, rfl, _, _⟩ := own_form oa
     have hb : Below ub16.heap.size ub16 ub17 := below_of_grown ga (by intro g h; cases h)
     have O1 := h! (own_base oa (tw_le HB0.out HD.out))
     have O0 := h! (own_below3 O0.out hb)
     have GO := h! (And.intro GO.out.1 (And.intro GO.out.2.1 (And.intro GO.out.2.2.1 (GO.out.2.2.2.below hb GO.out.2.2.2.lt))))
     have HD := h! (bmore HD.out hb n!)
     clear oa ga hob hb
     refine hK.out _ _ (HSS.out _ HD.out) (fun hHeld => ?_)
     clear hK
     try simp only [Act.put, qq]
     refine qR 8 fun K hK => ?_
     ·skip
      refine step_append_h rfl (.const (.slice none 0 0)) (.tmp 12) 25 rfl ub17.heap.size 51 i3 _ 10 88 Tryz.underlying25 hl hv0 hv1 hv2 rfl (by omega) (.slice none 0 0) 0 [] (by simp [Act.eval, Act.put]) (World.ownsRow_nil _ _ _ _) A3 w.ml.length c3 (flat mcell w.ml) (by simp [Act.eval, Act.put]) (tw_row HB0.out HD.out HR.out.h3) (one_flat m_one _) (by unfold maxLen; omega) (by omega) n! ?_
      intro va ub18 oa ga hob
      simp only [Nat.zero_add, List.nil_append] at oa
      obtain ⟨A7, c7, rfl, _, _⟩ := own_form oa
      have hb : Below ub17.heap.size ub17 ub18 := below_of_grown ga (by intro g h; cases h)
      have O3 := h! (own_base oa (tw_le HB0.out HD.out))
      have O0 := h! (own_below3 O0.out hb)
      have O1 := h! (own_below3 O1.out hb)
      have GO := h! (And.intro GO.out.1 (And.intro GO.out.2.1 (And.intro GO.out.2.2.1 (GO.out.2.2.2.below hb GO.out.2.2.2.lt))))
      have HD := h! (bmore HD.out hb n!)
      clear oa ga hob hb
      refine hK.out _ _ (HSS.out _ HD.out) (fun hHeld => ?_)
      clear hK
      try simp only [Act.put, qq]
      refine qR 11 fun K hK => ?_
      ·skip
       refine step_append_h rfl (.const (.slice none 0 0)) (.tmp 15) 26 rfl ub18.heap.size 53 i4 _ 2 24 Tryz.underlying26 hm hu0 hu1 hu2 rfl (by omega) (.slice none 0 0) 0 [] (by simp [Act.eval, Act.put]) (World.ownsRow_nil _ _ _ _) A4 w.ch.length c4 (flat ccell w.ch) (by simp [Act.eval, Act.put]) (tw_row HB0.out HD.out HR.out.h4) (one_flat c_one _) (by unfold maxLen; omega) (by omega) n! ?_
       intro va ub19 oa ga hob
       simp only [Nat.zero_add, List.nil_append] at oa
       obtain ⟨A8, c8, rfl, _, _⟩ := own_form oa
       have hb : Below ub18.heap.size ub18 ub19 := below_of_grown ga (by intro g h; cases h)
       have O4 := h! (own_base oa (tw_le HB0.out HD.out))
       have O0 := h! (own_below3 O0.out hb)
       have O1 := h! (own_below3 O1.out hb)
       have O3 := h! (own_below3 O3.out hb)
       have GO := h! (And.intro GO.out.1 (And.intro GO.out.2.1 (And.intro GO.out.2.2.1 (GO.out.2.2.2.below hb GO.out.2.2.2.lt))))
       have HD := h! (bmore HD.out hb n!)
       clear oa ga hob hb
       refine hK.out _ _ (HSS.out _ HD.out) (fun hHeld => ?_)
       clear hK
       try simp only [Act.put, qq]
       refine qT 12 ?_
       try simp only [Act.put, qq]
       obtain ⟨⟨_, _, _, _, _⟩, z0, z1, z2, z3, z4⟩ := GO.out.2.2.2.five
       have HFIN := h! (show TwCut W w #[.slice A0 w.ms.length c0, .slice A1 w.vs.length c1, .slice A2 w.ts.length c2, .slice A3 w.ml.length c3, .slice A4 w.ch.length c4] (.pointer (some ⟨go, 0, none⟩)) _ from ⟨go, A5, c5, A6, c6, A7, c7, A8, c8, rfl, tw_fin HB0.out HD.out HX0.out HZ0.out GO.out.1 GO.out.2.1 GO.out.2.2.1 GO.out.2.2.2 O0.out O1.out O3.out O4.out⟩)
       have HSF := h! (tw_held HB0.out HD.out HX0.out GO.out.1 GO.out.2.2.2 (.slice A5 w.ms.length c5) (.slice A6 w.vs.length c6) (.slice none 0 0) (.slice A7 w.ml.length c7) (.slice A8 w.ch.length c8))
       refine qR 14 fun K hK => ?_
       go_simp
       refine hK.out _ _ HSF.out (fun hHeld => ?_)
       clear hK
       try simp only [Act.put, qq]
       refine wpAnyH_done (by kernel_rfl) ?_ _
       clear hHeld HSF z0 z1 z2 z3 z4
       go_wp2_with fail
       go_meet
       case rel => exact HFIN.out
 case rest =>
  obtain ⟨go, B0, d0, B1, d1, B3, d3, B4, d4, rfl, hs⟩ := hcut
  have HS := h! hs
  clear hs HB0 HX0 HZ0
  go_wp2_with fail
  go_loopw [4] (fun i wr => ∃ k : Nat, k ≤ w.ts.length ∧ i = .int .i64 k ∧ ∃ T2 e2 ys, Hid (RTp W go w #[.slice A0 w.ms.length c0, .slice A1 w.vs.length c1, .slice A2 w.ts.length c2, .slice A3 w.ml.length c3, .slice A4 w.ch.length c4] (.slice B0 w.ms.length d0) (.slice B1 w.vs.length d1) (.slice T2 k e2) (.slice B3 w.ml.length d3) (.slice B4 w.ch.length d4) ys k wr)) (fun i _ => w.ts.length - (intOf i).toNat)
  case atStart => exact ⟨0, by omega, rfl, none, 0, [], HS⟩
  case round =>
   clear HS
   obtain ⟨k, hk, rfl, T2, e2, ys, HT⟩ := hrel
   by_cases hlt : k < w.ts.length
   ·obtain ⟨t, ht⟩ : ∃ t, w.ts[k]? = some t := ⟨_, List.getElem?_eq_getElem hlt⟩
    have hF := HF.out.ts t (List.mem_of_getElem? ht)
    have F2 := HF.out.l2
    obtain ⟨bl, o, B, n, c, C, m, d, D, q, f, rfl, hbl, e1, e3, e4, t0, t1, t2, t3, t4, t5, t6⟩ := RdG.try_ HR.out.h2 rfl HR.out.ht ht
    have HTW := h! (fun (U : World) (hU : Below W.heap.size W U) => rtwin_any _ t U (show AtIs U (.agg #[.int .u8 t.ph, .int .i64 t.ba, .slice B n c, .string t.wi, .string t.va, .slice C m d, .slice D q f]) t from ⟨B, n, c, C, m, d, D, q, f, rfl, e1.below hU, e3.below hU, e4.below hU⟩) hF)
    have HSS : Hid (∀ w', Below W.heap.size W w' → Box w' W.heap.size 28 #[.slice A0 w.ms.length c0, .slice A1 w.vs.length c1, .slice (some ⟨bl, o, none⟩) w.ts.length c2, .slice A3 w.ml.length c3, .slice A4 w.ch.length c4] → w'.cell? ⟨W.heap.size, 2, none⟩ = some (.slice (some ⟨bl, o, none⟩) w.ts.length c2) ∧ w'.cell? ⟨bl, o + k * 7, none⟩ = some (.int .u8 t.ph) ∧ w'.cell? ⟨bl, o + k * 7 + 1, none⟩ = some (.int .i64 t.ba) ∧ w'.cell? ⟨bl, o + k * 7 + 2, none⟩ = some (.slice B n c) ∧ w'.cell? ⟨bl, o + k * 7 + 3, none⟩ = some (.string t.wi) ∧ w'.cell? ⟨bl, o + k * 7 + 4, none⟩ = some (.string t.va) ∧ w'.cell? ⟨bl, o + k * 7 + 5, none⟩ = some (.slice C m d) ∧ w'.cell? ⟨bl, o + k * 7 + 6, none⟩ = some (.slice D q f)) := h! (fun w' hb hx => by
     obtain ⟨⟨_, _, x2, _, _⟩, _⟩ := hx.five
     exact ⟨x2, (hb.cell hbl).trans t0, (hb.cell hbl).trans t1, (hb.cell hbl).trans t2, (hb.cell hbl).trans t3, (hb.cell hbl).trans t4, (hb.cell hbl).trans t5, (hb.cell hbl).trans t6⟩)
    have HTT := h! ht
    obtain ⟨⟨x0, x1, x2, x3, x4⟩, _⟩ := HT.out.bx.five
    have i0' : (0 : Int) ≤ (k : Int) := by omega
    have i1' : (k : Int) < (w.ts.length : Int) := by omega
    obtain ⟨i2, hi, hz0, hz1, hz2⟩ := info_parts info_try
    clear t0 t1 t2 t3 t4 t5 t6 e1 e3 e4 hF ht hbl
    go_upto_region 5 with (fail)
    clear x0 x1 x2 x3 x4
    obtain ⟨u, hu⟩ : ∃ u, u = wr.drew := ⟨_, rfl⟩
    have HT := h! (show RTp W go w #[.slice A0 w.ms.length c0, .slice A1 w.vs.length c1, .slice (some ⟨bl, o, none⟩) w.ts.length c2, .slice A3 w.ml.length c3, .slice A4 w.ch.length c4] (.slice B0 w.ms.length d0) (.slice B1 w.vs.length d1) (.slice T2 k e2) (.slice B3 w.ml.length d3) (.slice B4 w.ch.length d4) ys k u by rw [hu]; exact HT.out.below ((Below.refl _ _).drew))
    refine wp_region_held_drew (S := fun w' => w'.cell? ⟨W.heap.size, 2, none⟩ = some (.slice (some ⟨bl, o, none⟩) w.ts.length c2) ∧ w'.cell? ⟨bl, o + k * 7, none⟩ = some (.int .u8 t.ph) ∧ w'.cell? ⟨bl, o + k * 7 + 1, none⟩ = some (.int .i64 t.ba) ∧ w'.cell? ⟨bl, o + k * 7 + 2, none⟩ = some (.slice B n c) ∧ w'.cell? ⟨bl, o + k * 7 + 3, none⟩ = some (.string t.wi) ∧ w'.cell? ⟨bl, o + k * 7 + 4, none⟩ = some (.string t.va) ∧ w'.cell? ⟨bl, o + k * 7 + 5, none⟩ = some (.slice C m d) ∧ w'.cell? ⟨bl, o + k * 7 + 6, none⟩ = some (.slice D q f)) (by kernel_rfl) (by rw [← hu]; exact HSS.out _ HT.out.bl HT.out.bx) (fun hHeld => ?_)
    rw [← hu] at hHeld ⊢
    clear hu
    refine qT 0 ?_
    try simp only [Act.put, qq]
    refine qT 2 ?_
    try simp only [Act.put, qq]
    refine qT 3 ?_
    try simp only [Act.put, qq]
    refine qT 4 ?_
    try simp only [Act.put, qq]
    refine qT 5 ?_
    try simp only [Act.put, qq]
    refine qT 6 ?_
    try simp only [Act.put, qq]
    refine wpAnyH_ready (rs := [1, 7]) (by kernel_rfl) (by simp) ?_
    refine AllReadyH.cons rfl (fun K hK => ?_) (AllReadyH.cons rfl (fun K hK => ?_) AllReadyH.nil)
    ·skip
     obtain ⟨⟨_, _, y2, _, _⟩, _⟩ := HT.out.bo.five
     go_simp
     refine hK.out _ _ (HSS.out _ HT.out.bl HT.out.bx) (fun hHeld => ?_)
     clear hK y2
     try simp only [Act.put, qq]
     refine qR 7 fun K hK => ?_
     ·skip
      go_simp
      refine (HTW.out _ HT.out.bl).mono ?_
      rintro e wc20 ⟨v5, rfl, hnew, hba⟩
      have HOW := h! (hnew.own.mono HT.out.bl.size)
      have HT := h! (HT.out.below hba)
      obtain ⟨A5, c5, D5, q5, C5, f5, rfl⟩ := HOW.out.form
      clear hnew hba
      refine hK.out _ _ (HSS.out _ HT.out.bl HT.out.bx) (fun hHeld => ?_)
      clear hK
      try simp only [Act.put, qq]
      refine qR 8 fun K hK => ?_
      ·skip
       go_simp
       have hb : Below wc20.heap.size wc20 (wc20.alloc (.cells #[.int .u8 t.ph, .int .i64 t.ba, .slice A5 t.ms.length c5, .string t.wi, .string t.va, .slice D5 t.ps.length q5, .slice C5 t.ac.length f5] 57)) := b!
       have HOW := h! (HOW.out.below hb)
       have HT := h! (HT.out.below hb)
       have HR2 := h! (rdG_box (s := 7) (n := 1) (xs := tcell (.agg #[.int .u8 t.ph, .int .i64 t.ba, .slice A5 t.ms.length c5, .string t.wi, .string t.va, .slice D5 t.ps.length q5, .slice C5 t.ac.length f5])) (Box.new wc20 57 #[.int .u8 t.ph, .int .i64 t.ba, .slice A5 t.ms.length c5, .string t.wi, .string t.va, .slice D5 t.ps.length q5, .slice C5 t.ac.length f5]) rfl rfl)
       clear hb
       refine hK.out _ _ (HSS.out _ HT.out.bl HT.out.bx) (fun hHeld => ?_)
       clear hK
       try simp only [Act.put, qq]
       generalize wc20.alloc (.cells #[.int .u8 t.ph, .int .i64 t.ba, .slice A5 t.ms.length c5, .string t.wi, .string t.va, .slice D5 t.ps.length q5, .slice C5 t.ac.length f5] 57) = wb21 at HOW HT HR2 hHeld ⊢
       generalize wc20.heap.size = ga at HR2 ⊢
       refine qR 9 fun K hK => ?_
       refine step_append_h rfl (.tmp 26) (.tmp 33) 24 rfl W.heap.size 57 i2 _ 7 120 Tryz.underlying24 hi hz0 hz1 hz2 rfl (by omega) (.slice T2 k e2) k ys (by simp [Act.eval, Act.put]) HT.out.oT (some ⟨ga, 0, none⟩) 1 1 _ (by simp [Act.eval, Act.put]) HR2.out (by intro x hx; simp [tcell, fs] at hx; rcases hx with rfl | rfl | rfl | rfl | rfl | rfl | rfl <;> rfl) (by unfold maxLen; omega) (by omega) HT.out.bl.size ?_
       intro v9 w9 o9 g9 hob
       obtain ⟨A9, c9, rfl, _, _⟩ := own_form o9
       have NX := h! (HT.out.next o9 g9 HOW.out HTT.out)
       obtain ⟨m1, m2, m3⟩ := HT.out.mid g9
       obtain ⟨⟨_, _, _, _, _⟩, _, _, z2, _, _⟩ := m3.five
       refine hK.out _ _ (HSS.out _ m1 m2) (fun hHeld => ?_)
       clear hK m1 m2 m3 o9 g9 hob HOW HT HR2
       try simp only [Act.put, qq]
       refine qT 10 ?_
       try simp only [Act.put, qq]
       refine qR 11 fun K hK => ?_
       go_simp
       refine hK.out _ _ (HSS.out _ NX.out.bl NX.out.bx) (fun hHeld => ?_)
       clear hK z2
       try simp only [Act.put, qq]
       refine wpAnyH_done (by kernel_rfl) ?_ _
       clear hHeld HSS HTW
       go_wp2_with fail
       go_roundw
       case rel => exact ⟨k + 1, by omega, by go_num, A9, c9, _, NX⟩
       case measure => simp [intOf]; omega
    ·skip
     go_simp
     refine (HTW.out _ HT.out.bl).mono ?_
     rintro e wc22 ⟨v5, rfl, hnew, hba⟩
     have HOW := h! (hnew.own.mono HT.out.bl.size)
     have HT := h! (HT.out.below hba)
     obtain ⟨A5, c5, D5, q5, C5, f5, rfl⟩ := HOW.out.form
     clear hnew hba
     refine hK.out _ _ (HSS.out _ HT.out.bl HT.out.bx) (fun hHeld => ?_)
     clear hK
     try simp only [Act.put, qq]
     refine wpAnyH_ready (rs := [1, 8]) (by kernel_rfl) (by simp) ?_
     refine AllReadyH.cons rfl (fun K hK => ?_) (AllReadyH.cons rfl (fun K hK => ?_) AllReadyH.nil)
     ·skip
      obtain ⟨⟨_, _, y2, _, _⟩, _⟩ := HT.out.bo.five
      go_simp
      refine hK.out _ _ (HSS.out _ HT.out.bl HT.out.bx) (fun hHeld => ?_)
      clear hK y2
      try simp only [Act.put, qq]
      refine qR 8 fun K hK => ?_
      ·skip
       go_simp
       have hb : Below wc22.heap.size wc22 (wc22.alloc (.cells #[.int .u8 t.ph, .int .i64 t.ba, .slice A5 t.ms.length c5, .string t.wi, .string t.va, .slice D5 t.ps.length q5, .slice C5 t.ac.length f5] 57)) := b!
       have HOW := h! (HOW.out.below hb)
       have HT := h! (HT.out.below hb)
       have HR2 := h! (rdG_box (s := 7) (n := 1) (xs := tcell (.agg #[.int .u8 t.ph, .int .i64 t.ba, .slice A5 t.ms.length c5, .string t.wi, .string t.va, .slice D5 t.ps.length q5, .slice C5 t.ac.length f5])) (Box.new wc22 57 #[.int .u8 t.ph, .int .i64 t.ba, .slice A5 t.ms.length c5, .string t.wi, .string t.va, .slice D5 t.ps.length q5, .slice C5 t.ac.length f5]) rfl rfl)
       clear hb
       refine hK.out _ _ (HSS.out _ HT.out.bl HT.out.bx) (fun hHeld => ?_)
       clear hK
       try simp only [Act.put, qq]
       generalize wc22.alloc (.cells #[.int .u8 t.ph, .int .i64 t.ba, .slice A5 t.ms.length c5, .string t.wi, .string t.va, .slice D5 t.ps.length q5, .slice C5 t.ac.length f5] 57) = wb23 at HOW HT HR2 hHeld ⊢
       generalize wc22.heap.size = ga at HR2 ⊢
       refine qR 9 fun K hK => ?_
       refine step_append_h rfl (.tmp 26) (.tmp 33) 24 rfl W.heap.size 57 i2 _ 7 120 Tryz.underlying24 hi hz0 hz1 hz2 rfl (by omega) (.slice T2 k e2) k ys (by simp [Act.eval, Act.put]) HT.out.oT (some ⟨ga, 0, none⟩) 1 1 _ (by simp [Act.eval, Act.put]) HR2.out (by intro x hx; simp [tcell, fs] at hx; rcases hx with rfl | rfl | rfl | rfl | rfl | rfl | rfl <;> rfl) (by unfold maxLen; omega) (by omega) HT.out.bl.size ?_
       intro v9 w9 o9 g9 hob
       obtain ⟨A9, c9, rfl, _, _⟩ := own_form o9
       have NX := h! (HT.out.next o9 g9 HOW.out HTT.out)
       obtain ⟨m1, m2, m3⟩ := HT.out.mid g9
       obtain ⟨⟨_, _, _, _, _⟩, _, _, z2, _, _⟩ := m3.five
       refine hK.out _ _ (HSS.out _ m1 m2) (fun hHeld => ?_)
       clear hK m1 m2 m3 o9 g9 hob HOW HT HR2
       try simp only [Act.put, qq]
       refine qT 10 ?_
       try simp only [Act.put, qq]
       refine qR 11 fun K hK => ?_
       go_simp
       refine hK.out _ _ (HSS.out _ NX.out.bl NX.out.bx) (fun hHeld => ?_)
       clear hK z2
       try simp only [Act.put, qq]
       refine wpAnyH_done (by kernel_rfl) ?_ _
       clear hHeld HSS HTW
       go_wp2_with fail
       go_roundw
       case rel => exact ⟨k + 1, by omega, by go_num, A9, c9, _, NX⟩
       case measure => simp [intOf]; omega
     ·skip
      go_simp
      have hb : Below wc22.heap.size wc22 (wc22.alloc (.cells #[.int .u8 t.ph, .int .i64 t.ba, .slice A5 t.ms.length c5, .string t.wi, .string t.va, .slice D5 t.ps.length q5, .slice C5 t.ac.length f5] 57)) := b!
      have HOW := h! (HOW.out.below hb)
      have HT := h! (HT.out.below hb)
      have HR2 := h! (rdG_box (s := 7) (n := 1) (xs := tcell (.agg #[.int .u8 t.ph, .int .i64 t.ba, .slice A5 t.ms.length c5, .string t.wi, .string t.va, .slice D5 t.ps.length q5, .slice C5 t.ac.length f5])) (Box.new wc22 57 #[.int .u8 t.ph, .int .i64 t.ba, .slice A5 t.ms.length c5, .string t.wi, .string t.va, .slice D5 t.ps.length q5, .slice C5 t.ac.length f5]) rfl rfl)
      clear hb
      refine hK.out _ _ (HSS.out _ HT.out.bl HT.out.bx) (fun hHeld => ?_)
      clear hK
      try simp only [Act.put, qq]
      generalize wc22.alloc (.cells #[.int .u8 t.ph, .int .i64 t.ba, .slice A5 t.ms.length c5, .string t.wi, .string t.va, .slice D5 t.ps.length q5, .slice C5 t.ac.length f5] 57) = wb24 at HOW HT HR2 hHeld ⊢
      generalize wc22.heap.size = ga at HR2 ⊢
      refine qR 1 fun K hK => ?_
      ·skip
       obtain ⟨⟨_, _, y2, _, _⟩, _⟩ := HT.out.bo.five
       go_simp
       refine hK.out _ _ (HSS.out _ HT.out.bl HT.out.bx) (fun hHeld => ?_)
       clear hK y2
       try simp only [Act.put, qq]
       refine qR 9 fun K hK => ?_
       refine step_append_h rfl (.tmp 26) (.tmp 33) 24 rfl W.heap.size 57 i2 _ 7 120 Tryz.underlying24 hi hz0 hz1 hz2 rfl (by omega) (.slice T2 k e2) k ys (by simp [Act.eval, Act.put]) HT.out.oT (some ⟨ga, 0, none⟩) 1 1 _ (by simp [Act.eval, Act.put]) HR2.out (by intro x hx; simp [tcell, fs] at hx; rcases hx with rfl | rfl | rfl | rfl | rfl | rfl | rfl <;> rfl) (by unfold maxLen; omega) (by omega) HT.out.bl.size ?_
       intro v9 w9 o9 g9 hob
       obtain ⟨A9, c9, rfl, _, _⟩ := own_form o9
       have NX := h! (HT.out.next o9 g9 HOW.out HTT.out)
       obtain ⟨m1, m2, m3⟩ := HT.out.mid g9
       obtain ⟨⟨_, _, _, _, _⟩, _, _, z2, _, _⟩ := m3.five
       refine hK.out _ _ (HSS.out _ m1 m2) (fun hHeld => ?_)
       clear hK m1 m2 m3 o9 g9 hob HOW HT HR2
       try simp only [Act.put, qq]
       refine qT 10 ?_
       try simp only [Act.put, qq]
       refine qR 11 fun K hK => ?_
       go_simp
       refine hK.out _ _ (HSS.out _ NX.out.bl NX.out.bx) (fun hHeld => ?_)
       clear hK z2
       try simp only [Act.put, qq]
       refine wpAnyH_done (by kernel_rfl) ?_ _
       clear hHeld HSS HTW
       go_wp2_with fail
       go_roundw
       case rel => exact ⟨k + 1, by omega, by go_num, A9, c9, _, NX⟩
       case measure => simp [intOf]; omega
   ·obtain rfl : w.ts.length = k := by omega
    obtain ⟨⟨x0, x1, x2, x3, x4⟩, _⟩ := HT.out.bx.five
    obtain ⟨⟨y0, y1, y2, y3, y4⟩, _⟩ := HT.out.bo.five
    obtain ⟨⟨_, _, _, _, _⟩, z0, z1, z2, z3, z4⟩ := HT.out.bz.five
    have k6 : Kept isW wr (wr.setCells (W.heap.size + 1) 0 [.slice B0 w.ms.length d0, .slice B1 w.vs.length d1, .slice T2 w.ts.length e2, .slice B3 w.ml.length d3, .slice B4 w.ch.length d4]) := kept_setCells (S := isW) isW_w _ _ HT.out.bz
    have b6 : Below W.heap.size W (wr.setCells (W.heap.size + 1) 0 [.slice B0 w.ms.length d0, .slice B1 w.vs.length d1, .slice T2 w.ts.length e2, .slice B3 w.ml.length d3, .slice B4 w.ch.length d4]) := below_setCells _ _ HT.out.bl (by omega)
    have x6 := box_setAll HT.out.bz [.slice B0 w.ms.length d0, .slice B1 w.vs.length d1, .slice T2 w.ts.length e2, .slice B3 w.ml.length d3, .slice B4 w.ch.length d4] rfl
    have hts := HT.out.ts
    rw [List.take_length] at hts
    have HO : Hid (WOwn (wr.setCells (W.heap.size + 1) 0 [.slice B0 w.ms.length d0, .slice B1 w.vs.length d1, .slice T2 w.ts.length e2, .slice B3 w.ml.length d3, .slice B4 w.ch.length d4]) W.heap.size (.agg #[.slice B0 w.ms.length d0, .slice B1 w.vs.length d1, .slice T2 w.ts.length e2, .slice B3 w.ml.length d3, .slice B4 w.ch.length d4]) w) :=
     h! ⟨B0, d0, B1, d1, T2, e2, B3, d3, B4, d4, _, rfl, k6.own HT.out.o0 (by unfold isW; decide), k6.own HT.out.o1 (by unfold isW; decide), k6.own HT.out.oT (by unfold isW; decide), hts.kept k6 (by unfold isW; decide) (by unfold isW; decide), k6.own HT.out.o3 (by unfold isW; decide), k6.own HT.out.o4 (by unfold isW; decide)⟩
    have HB6 := h! b6
    have HX6 := h! x6
    clear k6 b6 x6 hts HT
    go_wp2_with fail
    obtain ⟨⟨s0, s1, s2, s3, s4⟩, _⟩ := (show Box _ (W.heap.size + 1) 28 #[.slice B0 w.ms.length d0, .slice B1 w.vs.length d1, .slice T2 w.ts.length e2, .slice B3 w.ml.length d3, .slice B4 w.ch.length d4] from HX6.out).five
    have hF := HO.out
    have hB := HB6.out
    simp only [World.setCells, Nat.zero_add, Nat.reduceAdd] at s0 s1 s2 s3 s4 hF hB
    exact bodyPost_ret (v := .agg #[.slice B0 w.ms.length d0, .slice B1 w.vs.length d1, .slice T2 w.ts.length e2, .slice B3 w.ml.length d3, .slice B4 w.ch.length d4]) (by simp [results, Tryz.results6, go_sem, s0, s1, s2, s3, s4]) rfl ⟨_, rfl, hF, hB⟩
end Go.Proofs.YtiiobafcgdelmaaGreat.PD
