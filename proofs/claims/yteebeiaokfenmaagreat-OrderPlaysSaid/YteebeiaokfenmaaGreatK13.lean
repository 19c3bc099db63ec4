/-
  The document's own Twin of a clock (towncrierref15): it, in new memory. Conditions: a clock that reads as one; few of each; at most 2^44 groups a message.
  The document's own In, Id, SameMessage, Same (towncrierref12). Conditions: slices read as ints, lengths fit in an int.
  The document's own Same of two commands (towncrierref12). Conditions: as CmIs says.
  What package command's fieldsOf, isNumber, areGroups answer. Conditions: as each theorem says.
  What SameMessage of package command answers. Conditions: slices read as ints, lengths fit in an int.
-/
import Derived.Test.YteebeiaokfenmaaGreatK01
import Derived.Test.YteebeiaokfenmaaGreatK09
import Derived.Test.YteebeiaokfenmaaGreatK11
import Derived.Test.YteebeiaokfenmaaGreatK06
import Derived.Deep.DeepCutAuto
import Derived.Test.YteebeiaokfenmaaGreatK04
import Derived.Test.YteebeiaokfenmaaGreatK05
namespace Go.Proofs.YteebeiaokfenmaaGreat.KP
open Go.RowKit CP TP
open CM (Mg Cm)
open TM (Sp)
open KM (Wt Sk)
set_option linter.unusedVariables false
set_option linter.unusedSimpArgs false
set_option maxRecDepth 100000
def TwMid (w1 : World) (c : Int) (ds : List Sp) (u : Value) (wx : World) : Prop :=
 ∃ p vd, u = .pointer (some ⟨p, 0, none⟩) ∧ w1.heap.size ≤ p ∧ Box wx p 39 #[.int .i64 c, .slice none 0 0, vd] ∧ wx.ownsRow w1.heap.size 46 2 vd ds.length (flat spc ds) ∧ Below w1.heap.size w1 wx
set_option maxHeartbeats 16000000 in
theorem rtwin15_any (v : Value) (s : Sk) (w : World) (h : SkIs w v s) (hf1 : s.ws.length ≤ 4096) (hf2 : s.ds.length ≤ 4096) (hf3 : ∀ x ∈ s.ws, x.m.gs.length ≤ 17592186044416) : Calls Tryz.prog 98 #[v] w (SkNew s w) := by
 obtain ⟨A, c, B, d, rfl, r1, d1⟩ := h
 obtain ⟨i0, hi, hz0, hz1, hz2⟩ := info_parts info_sp
 obtain ⟨j0, hj, hy0, hy1, hy2⟩ := info_parts info_wt
 obtain ⟨sc, ws, ds⟩ := s
 simp only at r1 d1 hf1 hf2 hf3
 obtain ⟨n, hna⟩ : ∃ n, n = ws.length := ⟨_, rfl⟩
 obtain ⟨m, hmb⟩ : ∃ m, m = ds.length := ⟨_, rfl⟩
 unfold vsk
 simp only
 rw [← hna] at r1 hf1 ⊢
 rw [← hmb] at d1 hf2 ⊢
 have HLA := h! hna
 have HLB := h! hmb
 have HGS := h! hf3
 clear hna hmb hf3
 have H := h! (fun W (hb : Below w.heap.size w W) => r1.below hb)
 have HD := h! (fun W (hb : Below w.heap.size w W) => d1.below hb)
 have HB := h! (show Below w.heap.size w ((w.alloc (.cells #[.int .i64 sc, .slice A n c, .slice B m d] 39)).alloc (.cells #[.int .i64 0, .slice none 0 0, .slice none 0 0] 39)) from ((Below.refl _ _).alloc n! _).alloc (by simp) _)
 have X := h! ((Box.new w 39 #[.int .i64 sc, .slice A n c, .slice B m d]).alloc (.cells #[.int .i64 0, .slice none 0 0, .slice none 0 0] 39))
 have Y := h! (Box.new_at (w := w.alloc (.cells #[.int .i64 sc, .slice A n c, .slice B m d] 39)) (t := 39) (cs := #[.int .i64 0, .slice none 0 0, .slice none 0 0]) (w.heap.size + 1) (by simp))
 clear r1 d1
 go_enter Tryz.func98, Tryz.ntmps98
 go_upto_region 1 with (fail)
 generalize (w.alloc (.cells #[.int .i64 sc, .slice A n c, .slice B m d] 39)).alloc (.cells #[.int .i64 0, .slice none 0 0, .slice none 0 0] 39) = w1 at HB X Y ⊢
 have HG1 := h! (show w.heap.size + 1 < w1.heap.size from Y.out.lt)
 go_cut [3] (fun u wx => TwMid w1 sc ds u wx)
 case first =>
  obtain ⟨x0, x1, x2⟩ := box_sk X.out
  have HSS := h! (fun (w' : World) (h : Below w1.heap.size w1 w') => show w'.cell? ⟨w.heap.size, 0, none⟩ = some (.int .i64 sc) ∧ w'.cell? ⟨w.heap.size, 2, none⟩ = some (.slice B m d) from ⟨(h.cell (cell_block x0)).trans x0, (h.cell (cell_block x2)).trans x2⟩)
  have bb1 : Below w1.heap.size w1 w1.drew := (Below.refl _ _).drew
  obtain ⟨ud, hud⟩ : ∃ ud, ud = w1.drew := ⟨_, rfl⟩
  have hsz : w1.heap.size = ud.heap.size := by rw [hud]; rfl
  refine wp_region_held_drew (S := fun w' => w'.cell? ⟨w.heap.size, 0, none⟩ = some (.int .i64 sc) ∧ w'.cell? ⟨w.heap.size, 2, none⟩ = some (.slice B m d)) (by kernel_rfl) (HSS.out _ bb1) (fun hHeld => ?_)
  rw [← hud] at bb1 hHeld ⊢
  clear hud x0 x1 x2
  have HSZ := h! hsz
  clear hsz
  refine qT 0 ?_; try simp only [Act.put, qq]
  refine qT 1 ?_; try simp only [Act.put, qq]
  refine qT 2 ?_; try simp only [Act.put, qq]
  refine qT 3 ?_; try simp only [Act.put, qq]
  refine wpAnyH_ready (rs := [4, 6]) (by kernel_rfl) (by simp) ?_
  refine AllReadyH.cons rfl (fun K hK => ?_) (AllReadyH.cons rfl (fun K hK => ?_) AllReadyH.nil)
  ·refine step_append_h rfl (.const (.slice none 0 0)) (.tmp 9) 22 rfl ud.heap.size 46 i0 _ 2 16 Tryz.underlying22 hi hz0 hz1 hz2 rfl (by omega) (.slice none 0 0) 0 [] (by simp [Act.eval, Act.put]) (World.ownsRow_nil _ _ _ _) B m d (flat spc ds) (by simp [Act.eval, Act.put]) (HD.out _ (bmore HB.out bb1 n!)).1 (flat_spc_one _) (by unfold maxLen; omega) (by omega) n! ?_
   intro va ub oa ga hob
   simp only [Nat.zero_add, List.nil_append] at oa
   obtain ⟨A5, c5, rfl, _, _⟩ := own_form oa
   have hb : Below ud.heap.size ud ub := below_of_grown ga (by intro g h; cases h)
   have O0 := h! (own_base oa (show w1.heap.size ≤ ud.heap.size from bb1.size))
   have bbA := bmore bb1 hb n!
   clear oa ga hob
   refine hK.out _ _ (HSS.out _ bbA) (fun hHeld => ?_)
   clear hK
   try simp only [Act.put, qq]
   refine qT 5 ?_; try simp only [Act.put, qq]
   refine qR 6 fun K hK => ?_
   go_simp
   have hb2 : Below ub.heap.size ub (ub.alloc (.cells #[.int .i64 0, .slice none 0 0, .slice none 0 0] 39)) := b!
   have bbB := bmore bbA hb2 n!
   have BP := h! (Box.new ub 39 #[.int .i64 0, .slice none 0 0, .slice none 0 0])
   have O1 := h! (own_below3 O0.out hb2)
   refine hK.out _ _ (HSS.out _ bbB) (fun hHeld => ?_)
   clear hK
   try simp only [Act.put, qq]
   have hpu : w1.heap.size ≤ ub.heap.size := bbA.size
   clear hb hb2 bbA O0
   generalize ub.alloc (.cells #[.int .i64 0, .slice none 0 0, .slice none 0 0] 39) = W2 at bbB BP O1 hHeld ⊢
   generalize ub.heap.size = p9 at BP hpu ⊢
   have hp1 : w1.heap.size ≤ p9 := by have := HSZ.out; omega
   obtain ⟨e0, e1, e2, f0, f1, f2⟩ := BP.out.three
   refine qR 7 fun K hK => ?_
   go_simp
   refine hK.out _ _ (HSS.out _ (below_put3 bbB hp1 _ _ _)) (fun hHeld => ?_)
   clear hK
   try simp only [Act.put, qq]
   refine wpAnyH_done (by kernel_rfl) ?_ _
   go_wp2_with fail
   go_meet
   case rel => exact ⟨p9, _, rfl, hp1, Box.put3 BP.out _ _ _, (by rw [← HLB.out]; exact Kept.own (kept_put3 BP.out _ _ _) O1.out (by decide)), below_put3 bbB hp1 _ _ _⟩
  ·go_simp
   have hb2 : Below ud.heap.size ud (ud.alloc (.cells #[.int .i64 0, .slice none 0 0, .slice none 0 0] 39)) := b!
   have bbB := bmore bb1 hb2 n!
   have BP := h! (Box.new ud 39 #[.int .i64 0, .slice none 0 0, .slice none 0 0])
   refine hK.out _ _ (HSS.out _ bbB) (fun hHeld => ?_)
   clear hK
   try simp only [Act.put, qq]
   have hpu : w1.heap.size ≤ ud.heap.size := bb1.size
   clear hb2
   generalize ud.alloc (.cells #[.int .i64 0, .slice none 0 0, .slice none 0 0] 39) = W2 at bbB BP hHeld ⊢
   generalize ud.heap.size = p9 at BP hpu ⊢
   refine qR 4 fun K hK => ?_
   refine step_append_h rfl (.const (.slice none 0 0)) (.tmp 9) 22 rfl W2.heap.size 46 i0 _ 2 16 Tryz.underlying22 hi hz0 hz1 hz2 rfl (by omega) (.slice none 0 0) 0 [] (by simp [Act.eval, Act.put]) (World.ownsRow_nil _ _ _ _) B m d (flat spc ds) (by simp [Act.eval, Act.put]) (HD.out _ (bmore HB.out bbB n!)).1 (flat_spc_one _) (by unfold maxLen; omega) (by omega) n! ?_
   intro va ub oa ga hob
   simp only [Nat.zero_add, List.nil_append] at oa
   obtain ⟨A5, c5, rfl, _, _⟩ := own_form oa
   have hb : Below W2.heap.size W2 ub := below_of_grown ga (by intro g h; cases h)
   have O0 := h! (own_base oa (show w1.heap.size ≤ W2.heap.size from bbB.size))
   have bbA := bmore bbB hb n!
   clear oa ga hob
   refine hK.out _ _ (HSS.out _ bbA) (fun hHeld => ?_)
   clear hK
   try simp only [Act.put, qq]
   replace BP := h! (BP.out.below hb BP.out.lt)
   clear hb bbB
   refine qT 5 ?_; try simp only [Act.put, qq]
   have hp1 : w1.heap.size ≤ p9 := by have := HSZ.out; omega
   obtain ⟨e0, e1, e2, f0, f1, f2⟩ := BP.out.three
   refine qR 7 fun K hK => ?_
   go_simp
   refine hK.out _ _ (HSS.out _ (below_put3 bbA hp1 _ _ _)) (fun hHeld => ?_)
   clear hK
   try simp only [Act.put, qq]
   refine wpAnyH_done (by kernel_rfl) ?_ _
   go_wp2_with fail
   go_meet
   case rel => exact ⟨p9, _, rfl, hp1, Box.put3 BP.out _ _ _, (by rw [← HLB.out]; exact Kept.own (kept_put3 BP.out _ _ _) O0.out (by decide)), below_put3 bbA hp1 _ _ _⟩
 case rest =>
  obtain ⟨p, vd, rfl, hp1, hbp, hdn, hb⟩ := hcut
  rename_i wc
  have hlt := hbp.lt
  obtain ⟨vD, cD, rfl, hd1, hd2⟩ : ∃ B c, vd = .slice B ds.length c ∧ ds.length ≤ c ∧ c ≤ maxLen := own_form hdn
  have HT := h! (show TwR w1 p wc.heap.size sc (.slice vD ds.length cD) ds [] wc from ⟨hb, ⟨hp1, hlt, Nat.le_refl _⟩, ⟨_, hbp, kO_nil KW _ _ _⟩, hdn⟩)
  have HSZ := h! (show w1.heap.size ≤ wc.heap.size from hb.size)
  clear hp1 hbp hdn hb hlt
  generalize wc.heap.size = b2 at HT HSZ ⊢
  go_wp2_with fail
  go_loopw [4] (fun i wr => ∃ k : Nat, k ≤ n ∧ i = .int .i64 k ∧ TwR w1 p b2 sc (.slice vD ds.length cD) ds (ws.take k) wr) (fun i _ => n - (intOf i).toNat)
  case atStart => exact ⟨0, by omega, rfl, by simpa using HT.out⟩
  case round =>
   clear HT
   obtain ⟨k, hk, rfl, hT⟩ := hrel
   have HTR := h! hT
   obtain ⟨x0, x1, x2⟩ := box_sk (X.out.below hT.bl (by have := HG1.out; omega))
   have HBW := h! (bmore HB.out hT.bl n!)
   clear hT
   by_cases hlt : k < n
   ·obtain ⟨x, hx⟩ : ∃ x, ws[k]? = some x := ⟨_, List.getElem?_eq_getElem (by have := HLA.out; omega)⟩
    have HXx := h! hx
    obtain ⟨bl, o, P, q, rfl, _, _, hat, hrr⟩ := wts_at (H.out _ HBW.out) hx
    have hgs := HGS.out x (List.mem_of_getElem? hx)
    obtain ⟨a0, a1, a2, a3, a4, a5, a6⟩ := hat
    clear hx
    have hk0 : (0 : Int) ≤ (k : Int) := by omega
    have hkn : (k : Int) < (n : Int) := by omega
    have CT := h! (fun W (hb : Below wr.heap.size wr W) => rtwinMessage_any x.m _ W ⟨P, q, rfl, hrr.below hb⟩ hgs)
    clear hrr hgs
    obtain ⟨⟨xi, xg, xt, xk, xb⟩, xm, xf⟩ := x
    unfold mcells at CT
    simp only at a0 a1 a2 a3 a4 a5 a6 CT
    go_upto_region 6 with (fail)
    clear a0 a1 a2 a3 a4 a5 a6 x0 x1 x2
    have hb3 : Below wr.heap.size wr (wr.alloc (.cells #[.int .i64 xi, .slice P xg.length q, .int .i64 xt, .string xk, .string xb, .int .i64 xm, .bool xf] 78)) := b!
    have HV := h! (Box.new wr 78 #[.int .i64 xi, .slice P xg.length q, .int .i64 xt, .string xk, .string xb, .int .i64 xm, .bool xf])
    have HB3 := h! hb3
    have HP5 := h! (show wr.heap.size < (wr.alloc (.cells #[.int .i64 xi, .slice P xg.length q, .int .i64 xt, .string xk, .string xb, .int .i64 xm, .bool xf] 78)).heap.size by simp)
    clear hb3
    generalize wr.alloc (.cells #[.int .i64 xi, .slice P xg.length q, .int .i64 xt, .string xk, .string xb, .int .i64 xm, .bool xf] 78) = w3 at HV HB3 HP5 ⊢
    obtain ⟨p5, hp5⟩ : ∃ p5, wr.heap.size = p5 := ⟨_, rfl⟩
    rw [hp5] at HV HP5
    simp only [hp5]
    have HE5 := h! hp5
    clear hp5
    obtain ⟨⟨z0, z1, z2, z3, z4, z5, z6⟩, f0, f1, f2, f3, f4, f5, f6⟩ := box_wtf HV.out
    go_wp2_with fail
    refine (CT.out w3 HB3.out).mono ?_
    rintro e w4 ⟨A6, c6, rfl, hg, hb⟩
    unfold mcells
    simp only at hg
    clear z0 z1 z2 z3 z4 z5 z6 f0 f1 f2 f3 f4 f5 f6
    replace HV := h! (HV.out.below hb HV.out.lt)
    have HG := h! hg
    have HB4 := h! (bmore HB3.out hb n!)
    have HP6 := h! (show p5 < w4.heap.size from Nat.lt_of_lt_of_le HP5.out hb.size)
    clear hg hb CT
    obtain ⟨⟨z0, z1, z2, z3, z4, z5, z6⟩, f0, f1, f2, f3, f4, f5, f6⟩ := box_wtf HV.out
    go_upto_region 7 with (fail)
    clear z0 z1 z2 z3 z4 z5 z6 f0 f1 f2 f3 f4 f5 f6
    have HV5 := h! (show Box (pt5 w4 p5 (.int .i64 xi) (.slice A6 xg.length c6) (.int .i64 xt) (.string xk) (.string xb)) p5 78 #[.int .i64 xi, .slice A6 xg.length c6, .int .i64 xt, .string xk, .string xb, .int .i64 xm, .bool xf] by
     have := ((((HV.out.stored 0 (.int .i64 xi)).stored 1 (.slice A6 xg.length c6)).stored 2 (.int .i64 xt)).stored 3 (.string xk)).stored 4 (.string xb)
     simpa [pt5] using this)
    have HB5 := h! (pt5_below HB4.out (g := p5) (by have := HE5.out; omega) (.int .i64 xi) (.slice A6 xg.length c6) (.int .i64 xt) (.string xk) (.string xb))
    have HG5 := h! ((RowGe.setB HG.out (g := p5) HP5.out (.int .i64 xi) (.slice A6 xg.length c6) (.int .i64 xt) (.string xk) (.string xb)).mono HB3.out.size)
    unfold pt5 at HV5 HB5 HG5
    clear HV HB4 HG
    generalize ((((w4.setCell ⟨p5, 0, none⟩ (.int .i64 xi)).setCell ⟨p5, 1, none⟩ (.slice A6 xg.length c6)).setCell ⟨p5, 2, none⟩ (.int .i64 xt)).setCell ⟨p5, 3, none⟩ (.string xk)).setCell ⟨p5, 4, none⟩ (.string xb) = w5 at HV5 HB5 HG5 ⊢
    obtain ⟨vW, hbp, es, hes, hown, hrs⟩ := HTR.out.bp
    have hel : es.length = k := by
     have := congrArg List.length hes
     rw [List.length_map, List.length_take] at this
     have := HLA.out
     omega
    rw [hel] at hown
    have HEL := h! hel
    clear hel
    obtain ⟨A9, c9, rfl, hc9, hm9⟩ := own_form hown
    have HBP := h! hbp
    have HES := h! hes
    have HOW := h! hown
    have HRS := h! hrs
    have HO5 := h! (own_below3 (own_below3 hown HB5.out) ((Below.refl _ _).alloc n! (.cells #[.int .i64 xi, .slice A6 xg.length c6, .int .i64 xt, .string xk, .string xb, .int .i64 xm, .bool xf] 78)))
    have HBA := h! (show Below wr.heap.size wr (w5.alloc (.cells #[.int .i64 xi, .slice A6 xg.length c6, .int .i64 xt, .string xk, .string xb, .int .i64 xm, .bool xf] 78)) from bmore HB5.out ((Below.refl _ _).alloc n! _) n!)
    have HGA := h! (HG5.out.below ((Below.refl _ _).alloc n! (.cells #[.int .i64 xi, .slice A6 xg.length c6, .int .i64 xt, .string xk, .string xb, .int .i64 xm, .bool xf] 78)))
    have HRG := h! (rdG_box (s := 7) (n := 1) (Box.new w5 78 #[.int .i64 xi, .slice A6 xg.length c6, .int .i64 xt, .string xk, .string xb, .int .i64 xm, .bool xf]) (xs := KW.cel A6 c6 ⟨⟨xi, xg, xt, xk, xb⟩, xm, xf⟩) rfl rfl)
    have hbp5 := hbp.below HB5.out hbp.lt
    obtain ⟨y0, y1, y2⟩ := box_sk hbp5
    obtain ⟨z0, z1, z2, z3, z4, z5, z6⟩ := box_wt HV5.out
    clear hbp hes hown hrs hbp5
    go_wp2_with (at_builtin; refine wpList_append_g _ rfl _ _ 37 rfl b2 78 j0 _ 7 88 Tryz.underlying37 hj hy0 hy1 hy2 rfl (by omega) (.slice A9 k c9) k (flat (exc KW) es) rfl HO5.out (some ⟨w5.heap.size, 0, none⟩) 1 1 (KW.cel A6 c6 ⟨⟨xi, xg, xt, xk, xb⟩, xm, xf⟩) rfl HRG.out (KW.one _ _ _) (by unfold maxLen; omega) (by omega) (Nat.le_trans HTR.out.ok.2.2 HBA.out.size) ?_; intro v2 w6 hown hgr hob; have HOB := h! hob; have HGR := h! hgr; have HO6 := h! hown; have hb6 := (HBP.out.below HBA.out HBP.out.lt).grown hgr (own_ne HO5.out (HBP.out.below HBA.out HBP.out.lt) (by decide)); have s1 := hb6.cell 1; have s2 := hb6.frozen 1; simp at s1; obtain ⟨A7, c7, rfl, _, _⟩ := own_form hown; clear hown hgr hob hb6)
    have HN := h! (show TwR w1 p b2 sc (.slice vD ds.length cD) ds (ws.take (k + 1)) (w6.setCell ⟨p, 1, none⟩ (.slice A7 (k + 1) c7)) by
     rw [List.take_add_one, HXx.out]
     exact twR_next HTR.out HBP.out (x := ⟨⟨xi, xg, xt, xk, xb⟩, xm, xf⟩) es HEL.out HES.out HOW.out HRS.out HBA.out HGA.out HGR.out HO6.out HOB.out)
    go_roundw
    case rel => exact ⟨k + 1, by omega, by go_num, HN.out⟩
    case measure => simp [intOf]; omega
   ·obtain ⟨vW, hbp, hko⟩ := HTR.out.bp
    have hko2 : KO KW wr b2 78 vW ws := by
     have := hko
     rwa [List.take_of_length_le (by have := HLA.out; omega)] at this
    obtain ⟨A9, c9, rfl, _⟩ := hko2.g
    have HKO := h! hko2
    have HBP := h! hbp
    obtain ⟨e0, e1, e2⟩ := box_sk hbp
    have hy9 := Y.out.below HTR.out.bl HG1.out
    obtain ⟨q0, q1, q2, q3, q4, q5⟩ := hy9.three
    have HZ := h! (Box.put3 hy9 (.int .i64 sc) (.slice A9 ws.length c9) (.slice vD ds.length cD))
    have HZB := h! (below_put3 HBW.out (g := w.heap.size + 1) (by omega) (.int .i64 sc) (.slice A9 ws.length c9) (.slice vD ds.length cD))
    have hlb : w.heap.size + 1 < b2 := Nat.lt_of_lt_of_le HG1.out HSZ.out
    have HZO := h! (((HKO.out.set (i := 0) hlb (.int .i64 sc)).set (i := 1) hlb (.slice A9 ws.length c9)).set (i := 2) hlb (.slice vD ds.length cD) |>.mono (show w.heap.size ≤ b2 by omega))
    have HZD := h! (own_base (base' := w.heap.size) (ownsRow_setCell_below (ownsRow_setCell_below (ownsRow_setCell_below HTR.out.dn (a := ⟨w.heap.size + 1, 0, none⟩) HG1.out (.int .i64 sc)) (a := ⟨w.heap.size + 1, 1, none⟩) HG1.out (.slice A9 ws.length c9)) (a := ⟨w.heap.size + 1, 2, none⟩) HG1.out (.slice vD ds.length cD)) (by have := HG1.out; omega))
    clear hko hko2 hbp hy9
    go_wp2_with fail
    obtain ⟨u0, u1, u2⟩ := box_sk HZ.out
    exact bodyPost_ret (v := .agg #[.int .i64 sc, .slice A9 ws.length c9, .slice vD ds.length cD]) (by simp [results, Tryz.results98, go_sem, u0, u1, u2]; try rfl) rfl ⟨_, rfl, ⟨_, _, rfl, HZO.out, HZD.out⟩, HZB.out⟩
end Go.Proofs.YteebeiaokfenmaaGreat.KP

namespace Go.Proofs.YteebeiaokfenmaaGreat.CP
open Go.RowKit
open CM (Mg Cm)
set_option linter.unusedVariables false
set_option linter.unusedSimpArgs false
set_option maxRecDepth 100000
theorem In_any (n a b : Int) (w : World) : Calls Tryz.prog 77 #[.int .i64 n, .int .i64 a, .int .i64 b] w fun e w' => e = .returned (.bool (decide (a ≤ n ∧ n < b))) ∧ w' = w := by
 by_cases h1 : a ≤ n
 ·by_cases h2 : n < b
  ·have hd : decide (a ≤ n ∧ n < b) = true := by simp [h1, h2]
   rw [hd]
   go_enter Tryz.func77, Tryz.ntmps77
   go_wp2
   go_ret
   exact ⟨rfl, rfl⟩
  ·have hd : decide (a ≤ n ∧ n < b) = false := by simp; omega
   rw [hd]
   go_enter Tryz.func77, Tryz.ntmps77
   go_wp2
   go_ret
   exact ⟨rfl, rfl⟩
 ·have hd : decide (a ≤ n ∧ n < b) = false := by simp; omega
  rw [hd]
  go_enter Tryz.func77, Tryz.ntmps77
  go_wp2
  go_ret
  exact ⟨rfl, rfl⟩
theorem Id_any (n : Int) (w : World) : Calls Tryz.prog 78 #[.int .i64 n] w fun e w' => e = .returned (.bool (decide (CM.idOk n))) ∧ w' = w := by
 obtain ⟨b, hb⟩ : ∃ b, b = decide (CM.idOk n) := ⟨_, rfl⟩
 have hc : ∀ w, Calls Tryz.prog 77 #[.int .i64 n, .int .i64 0, .int .i64 6291456] w fun e w' => e = .returned (.bool b) ∧ w' = w := by rw [hb]; exact In_any n 0 6291456
 rw [← hb]
 have C := h! hc
 clear hc hb
 go_enter Tryz.func78, Tryz.ntmps78
 go_wp2_with fail
 refine (C.out _).mono ?_
 rintro e w1 ⟨rfl, rfl⟩
 go_wp2_with fail
 go_ret
 exact ⟨rfl, rfl⟩
end Go.Proofs.YteebeiaokfenmaaGreat.CP

namespace Go.Proofs.YteebeiaokfenmaaGreat.CP
open Go.RowKit
open CM (Mg Cm)
set_option linter.unusedVariables false
set_option linter.unusedSimpArgs false
set_option maxRecDepth 100000
set_option maxHeartbeats 8000000 in
theorem same12_any (a b : Cm) (va vb : Value) (w : World) (ha : CmIs w va a) (hb : CmIs w vb b) :
  Calls Tryz.prog 144 #[va, vb] w (BoolIs (decide (a = b)) w) := by
 obtain ⟨A, c, P, q, rfl, r1, r3⟩ := ha
 obtain ⟨B, d, S, u, rfl, r2, r4⟩ := hb
 obtain ⟨ak, am, aid, atm, ams, atp, awh, an⟩ := a
 obtain ⟨bk, bm, bid, btm, bms, btp, bwh, bn⟩ := b
 simp only at r1 r2 r3 r4
 have hiff : ((⟨ak, am, aid, atm, ams, atp, awh, an⟩ : Cm) = ⟨bk, bm, bid, btm, bms, btp, bwh, bn⟩) ↔ (ak = bk ∧ am = bm ∧ aid = bid ∧ atm = btm ∧ ams = bms ∧ atp = btp ∧ awh = bwh ∧ an = bn) := by simp
 have hno : ¬ (ak = bk ∧ am = bm ∧ aid = bid ∧ atm = btm ∧ ams = bms ∧ atp = btp ∧ awh = bwh ∧ an = bn) → false = decide ((⟨ak, am, aid, atm, ams, atp, awh, an⟩ : Cm) = ⟨bk, bm, bid, btm, bms, btp, bwh, bn⟩) := fun h => by
  have : ¬ ((⟨ak, am, aid, atm, ams, atp, awh, an⟩ : Cm) = ⟨bk, bm, bid, btm, bms, btp, bwh, bn⟩) := fun e => h (hiff.1 e)
  rw [decide_eq_false this]
 have hyes : (ak = bk ∧ am = bm ∧ aid = bid ∧ atm = btm ∧ ams = bms ∧ atp = btp ∧ awh = bwh ∧ an = bn) → true = decide ((⟨ak, am, aid, atm, ams, atp, awh, an⟩ : Cm) = ⟨bk, bm, bid, btm, bms, btp, bwh, bn⟩) := fun h => by
  rw [decide_eq_true (hiff.2 h)]
 have HNO := h! hno
 have HYES := h! hyes
 clear hno hyes hiff
 generalize decide ((⟨ak, am, aid, atm, ams, atp, awh, an⟩ : Cm) = ⟨bk, bm, bid, btm, bms, btp, bwh, bn⟩) = r at HNO HYES ⊢
 show Calls _ _ #[.agg #[.int .u8 ak, .int .i64 am.id, .slice A am.gs.length c, .int .i64 am.tp, .string am.key, .string am.body, .int .i64 aid, .int .i64 atm, .slice P ams.length q, .int .i64 atp, .int .i64 awh, .int .i64 an], .agg #[.int .u8 bk, .int .i64 bm.id, .slice B bm.gs.length d, .int .i64 bm.tp, .string bm.key, .string bm.body, .int .i64 bid, .int .i64 btm, .slice S bms.length u, .int .i64 btp, .int .i64 bwh, .int .i64 bn]] _ _
 have hb0 : Below w.heap.size w ((w.alloc (.cells #[.int .u8 ak, .int .i64 am.id, .slice A am.gs.length c, .int .i64 am.tp, .string am.key, .string am.body, .int .i64 aid, .int .i64 atm, .slice P ams.length q, .int .i64 atp, .int .i64 awh, .int .i64 an] 91)).alloc (.cells #[.int .u8 bk, .int .i64 bm.id, .slice B bm.gs.length d, .int .i64 bm.tp, .string bm.key, .string bm.body, .int .i64 bid, .int .i64 btm, .slice S bms.length u, .int .i64 btp, .int .i64 bwh, .int .i64 bn] 91)) := ((Below.refl _ _).alloc n! _).alloc (by simp) _
 have hX : Box ((w.alloc (.cells #[.int .u8 ak, .int .i64 am.id, .slice A am.gs.length c, .int .i64 am.tp, .string am.key, .string am.body, .int .i64 aid, .int .i64 atm, .slice P ams.length q, .int .i64 atp, .int .i64 awh, .int .i64 an] 91)).alloc (.cells #[.int .u8 bk, .int .i64 bm.id, .slice B bm.gs.length d, .int .i64 bm.tp, .string bm.key, .string bm.body, .int .i64 bid, .int .i64 btm, .slice S bms.length u, .int .i64 btp, .int .i64 bwh, .int .i64 bn] 91)) w.heap.size 91 #[.int .u8 ak, .int .i64 am.id, .slice A am.gs.length c, .int .i64 am.tp, .string am.key, .string am.body, .int .i64 aid, .int .i64 atm, .slice P ams.length q, .int .i64 atp, .int .i64 awh, .int .i64 an] := (Box.new _ _ _).alloc _
 have hY : Box ((w.alloc (.cells #[.int .u8 ak, .int .i64 am.id, .slice A am.gs.length c, .int .i64 am.tp, .string am.key, .string am.body, .int .i64 aid, .int .i64 atm, .slice P ams.length q, .int .i64 atp, .int .i64 awh, .int .i64 an] 91)).alloc (.cells #[.int .u8 bk, .int .i64 bm.id, .slice B bm.gs.length d, .int .i64 bm.tp, .string bm.key, .string bm.body, .int .i64 bid, .int .i64 btm, .slice S bms.length u, .int .i64 btp, .int .i64 bwh, .int .i64 bn] 91)) (w.heap.size + 1) 91 #[.int .u8 bk, .int .i64 bm.id, .slice B bm.gs.length d, .int .i64 bm.tp, .string bm.key, .string bm.body, .int .i64 bid, .int .i64 btm, .slice S bms.length u, .int .i64 btp, .int .i64 bwh, .int .i64 bn] := Box.new_at _ (by simp)
 have C := h! (sameMessage_any am bm (.agg (mcells A c am)) (.agg (mcells B d bm)) _ ⟨A, c, rfl, r1.below hb0⟩ ⟨B, d, rfl, r2.below hb0⟩)
 have D := h! (fun W2 (h : Below w.heap.size w W2) => same_ints_any P S q u ams bms W2 (r3.below h).1 (r4.below h).1 (Nat.le_trans r3.2.1 r3.2.2) (Nat.le_trans r4.2.1 r4.2.2))
 have HX := h! hX
 have HY := h! hY
 have HB := h! hb0
 unfold mcells at C
 clear hX hY hb0 r1 r2 r3 r4
 go_enter Tryz.func144, Tryz.ntmps144
 go_upto_region 1 with (fail)
 generalize (w.alloc (.cells #[.int .u8 ak, .int .i64 am.id, .slice A am.gs.length c, .int .i64 am.tp, .string am.key, .string am.body, .int .i64 aid, .int .i64 atm, .slice P ams.length q, .int .i64 atp, .int .i64 awh, .int .i64 an] 91)).alloc (.cells #[.int .u8 bk, .int .i64 bm.id, .slice B bm.gs.length d, .int .i64 bm.tp, .string bm.key, .string bm.body, .int .i64 bid, .int .i64 btm, .slice S bms.length u, .int .i64 btp, .int .i64 bwh, .int .i64 bn] 91) = w1 at HX HY HB C ⊢
 have G1 := h! HX.out.lt
 have G2 := h! HY.out.lt
 generalize hg1 : w.heap.size + 1 = g1 at HY G2 ⊢
 clear hg1
 generalize hg0 : w.heap.size = g0 at HX G1 ⊢
 clear hg0
 obtain ⟨x0, x1, x2, x3, x4, x5, x6, x7, x8, x9, x10, x11⟩ := box_cm HX.out
 obtain ⟨y0, y1, y2, y3, y4, y5, y6, y7, y8, y9, y10, y11⟩ := box_cm HY.out
 by_cases h0 : ak = bk
 rotate_left
 ·have HF := h! (HNO.out (fun h => h0 h.1))
  have e0 : (ak == bk) = false := by simpa using h0
  clear HNO HYES
  go_wp2_with fail
  go_ret
  exact bool_ret HF.out HB.out
 have e0 : (ak == bk) = true := by simpa using h0
 go_wp2_with fail
 refine (C.out).mono ?_
 rintro e w2 ⟨rfl, hb2⟩
 clear x0 x1 x2 x3 x4 x5 x6 x7 x8 x9 x10 x11 y0 y1 y2 y3 y4 y5 y6 y7 y8 y9 y10 y11
 obtain ⟨x0, x1, x2, x3, x4, x5, x6, x7, x8, x9, x10, x11⟩ := box_cm (HX.out.below hb2 G1.out)
 obtain ⟨y0, y1, y2, y3, y4, y5, y6, y7, y8, y9, y10, y11⟩ := box_cm (HY.out.below hb2 G2.out)
 replace HB := h! (HB.out.trans (hb2.mono HB.out.size))
 replace HX := h! (HX.out.below hb2 G1.out)
 replace HY := h! (HY.out.below hb2 G2.out)
 replace G1 := h! (Nat.lt_of_lt_of_le G1.out hb2.size)
 replace G2 := h! (Nat.lt_of_lt_of_le G2.out hb2.size)
 clear C hb2
 by_cases h1 : am = bm
 rotate_left
 ·have HF := h! (HNO.out (fun h => h1 h.2.1))
  have e1 : decide (am = bm) = false := by simpa using h1
  rw [e1]
  clear HNO HYES
  go_wp2_with fail
  go_ret
  exact bool_ret HF.out HB.out
 rw [decide_eq_true h1]
 by_cases h2 : aid = bid
 rotate_left
 ·have HF := h! (HNO.out (fun h => h2 h.2.2.1))
  have e2 : (aid == bid) = false := by simpa using h2
  clear HNO HYES
  go_wp2_with fail
  go_ret
  exact bool_ret HF.out HB.out
 have e2 : (aid == bid) = true := by simpa using h2
 by_cases h3 : atm = btm
 rotate_left
 ·have HF := h! (HNO.out (fun h => h3 h.2.2.2.1))
  have e3 : (atm == btm) = false := by simpa using h3
  clear HNO HYES
  go_wp2_with fail
  go_ret
  exact bool_ret HF.out HB.out
 have e3 : (atm == btm) = true := by simpa using h3
 have D2 := h! (D.out _ HB.out)
 clear D
 go_wp2_with fail
 refine (D2.out).mono ?_
 rintro e w3 ⟨rfl, hb2⟩
 clear x0 x1 x2 x3 x4 x5 x6 x7 x8 x9 x10 x11 y0 y1 y2 y3 y4 y5 y6 y7 y8 y9 y10 y11
 obtain ⟨x0, x1, x2, x3, x4, x5, x6, x7, x8, x9, x10, x11⟩ := box_cm (HX.out.below hb2 G1.out)
 obtain ⟨y0, y1, y2, y3, y4, y5, y6, y7, y8, y9, y10, y11⟩ := box_cm (HY.out.below hb2 G2.out)
 replace HB := h! (HB.out.trans (hb2.mono HB.out.size))
 clear D2 hb2 HX HY G1 G2
 by_cases h4 : ams = bms
 rotate_left
 ·have HF := h! (HNO.out (fun h => h4 h.2.2.2.2.1))
  have e4 : decide (ams = bms) = false := by simpa using h4
  rw [e4]
  clear HNO HYES
  go_wp2_with fail
  go_ret
  exact bool_ret HF.out HB.out
 rw [decide_eq_true h4]
 by_cases h5 : atp = btp
 rotate_left
 ·have HF := h! (HNO.out (fun h => h5 h.2.2.2.2.2.1))
  have e5 : (atp == btp) = false := by simpa using h5
  clear HNO HYES
  go_wp2_with fail
  go_ret
  exact bool_ret HF.out HB.out
 have e5 : (atp == btp) = true := by simpa using h5
 by_cases h6 : awh = bwh
 rotate_left
 ·have HF := h! (HNO.out (fun h => h6 h.2.2.2.2.2.2.1))
  have e6 : (awh == bwh) = false := by simpa using h6
  clear HNO HYES
  go_wp2_with fail
  go_ret
  exact bool_ret HF.out HB.out
 have e6 : (awh == bwh) = true := by simpa using h6
 by_cases h7 : an = bn
 rotate_left
 ·have HF := h! (HNO.out (fun h => h7 h.2.2.2.2.2.2.2))
  have e7 : (an == bn) = false := by simpa using h7
  clear HNO HYES
  go_wp2_with fail
  go_ret
  exact bool_ret HF.out HB.out
 have e7 : (an == bn) = true := by simpa using h7
 have HF := h! (HYES.out ⟨h0, h1, h2, h3, h4, h5, h6, h7⟩)
 clear HNO HYES
 go_wp2_with fail
 go_ret
 exact bool_ret HF.out HB.out
end Go.Proofs.YteebeiaokfenmaaGreat.CP

namespace Go.Proofs.YteebeiaokfenmaaGreat.CP
open Go.RowKit
open CM (Mg Cm)
set_option linter.unusedVariables false
set_option linter.unusedSimpArgs false
set_option maxRecDepth 100000
def Fl (k : Int) (a b c d e i : Bool) : Prop :=
 (k = 0 ∧ a = false ∧ b = false ∧ c = false ∧ d = false ∧ e = false ∧ i = true) ∨ (k = 1 ∧ a = true ∧ b = false ∧ c = false ∧ d = false ∧ e = false ∧ i = true) ∨
 (k = 2 ∧ a = false ∧ b = true ∧ c = false ∧ d = false ∧ e = false ∧ i = true) ∨ (k = 3 ∧ a = false ∧ b = false ∧ c = true ∧ d = false ∧ e = false ∧ i = true) ∨
 (k = 4 ∧ a = false ∧ b = false ∧ c = false ∧ d = true ∧ e = true ∧ i = true) ∨ (k = 5 ∧ a = false ∧ b = false ∧ c = false ∧ d = true ∧ e = false ∧ i = true) ∨
 (k = 6 ∧ a = false ∧ b = false ∧ c = false ∧ d = true ∧ e = false ∧ i = true) ∨
 ((k ≠ 0 ∧ k ≠ 1 ∧ k ≠ 2 ∧ k ≠ 3 ∧ k ≠ 4 ∧ k ≠ 5 ∧ k ≠ 6) ∧ a = false ∧ b = false ∧ c = false ∧ d = false ∧ e = false ∧ i = false)
theorem fl_ex (k : Int) : ∃ a b c d e i, Fl k a b c d e i := by
 unfold Fl
 by_cases h0 : k = 0
 ·exact ⟨_, _, _, _, _, _, .inl ⟨h0, rfl, rfl, rfl, rfl, rfl, rfl⟩⟩
 by_cases h1 : k = 1
 ·exact ⟨_, _, _, _, _, _, .inr (.inl ⟨h1, rfl, rfl, rfl, rfl, rfl, rfl⟩)⟩
 by_cases h2 : k = 2
 ·exact ⟨_, _, _, _, _, _, .inr (.inr (.inl ⟨h2, rfl, rfl, rfl, rfl, rfl, rfl⟩))⟩
 by_cases h3 : k = 3
 ·exact ⟨_, _, _, _, _, _, .inr (.inr (.inr (.inl ⟨h3, rfl, rfl, rfl, rfl, rfl, rfl⟩)))⟩
 by_cases h4 : k = 4
 ·exact ⟨_, _, _, _, _, _, .inr (.inr (.inr (.inr (.inl ⟨h4, rfl, rfl, rfl, rfl, rfl, rfl⟩))))⟩
 by_cases h5 : k = 5
 ·exact ⟨_, _, _, _, _, _, .inr (.inr (.inr (.inr (.inr (.inl ⟨h5, rfl, rfl, rfl, rfl, rfl, rfl⟩)))))⟩
 by_cases h6 : k = 6
 ·exact ⟨_, _, _, _, _, _, .inr (.inr (.inr (.inr (.inr (.inr (.inl ⟨h6, rfl, rfl, rfl, rfl, rfl, rfl⟩))))))⟩
 exact ⟨_, _, _, _, _, _, .inr (.inr (.inr (.inr (.inr (.inr (.inr ⟨⟨h0, h1, h2, h3, h4, h5, h6⟩, rfl, rfl, rfl, rfl, rfl, rfl⟩))))))⟩
def FlIs (a b c d e i : Bool) (w : World) (x : Ending) (w' : World) : Prop := x = .returned (.tuple #[.agg #[.bool a, .bool b, .bool c, .bool d, .bool e], .bool i]) ∧ Below w.heap.size w w'
theorem fl_ret {a b c d e i : Bool} (w : World) (tmps : Array Value) (h2 : tmps[2]?.getD undef = .pointer (some ⟨w.heap.size, 0, none⟩)) (h3 : tmps[3]?.getD undef = .bool i) :
  bodyPost Tryz.prog Tryz.f69 (FlIs a b c d e i w) .ret ⟨tmps, []⟩ (w.alloc (.cells #[.bool a, .bool b, .bool c, .bool d, .bool e] 126)) := by
 have X := Box.new w 126 #[.bool a, .bool b, .bool c, .bool d, .bool e]
 obtain ⟨d0, d1, d2, d3, d4⟩ := box_mg X
 exact bodyPost_ret (v := .tuple #[.agg #[.bool a, .bool b, .bool c, .bool d, .bool e], .bool i]) (by simp [results, Tryz.results69, go_sem, h2, h3, d0, d1, d2, d3, d4]; try rfl) rfl ⟨rfl, (Below.refl _ _).alloc n! _⟩
set_option maxHeartbeats 4000000 in
theorem fields_any {k : Int} {a b c d e i : Bool} (h : Fl k a b c d e i) (w : World) : Calls Tryz.prog 69 #[.int .u8 k] w (FlIs a b c d e i w) := by
 rcases h with ⟨rfl, rfl, rfl, rfl, rfl, rfl, rfl⟩ | ⟨rfl, rfl, rfl, rfl, rfl, rfl, rfl⟩ | ⟨rfl, rfl, rfl, rfl, rfl, rfl, rfl⟩ | ⟨rfl, rfl, rfl, rfl, rfl, rfl, rfl⟩ | ⟨rfl, rfl, rfl, rfl, rfl, rfl, rfl⟩ | ⟨rfl, rfl, rfl, rfl, rfl, rfl, rfl⟩ | ⟨rfl, rfl, rfl, rfl, rfl, rfl, rfl⟩ | ⟨⟨h0, h1, h2, h3, h4, h5, h6⟩, rfl, rfl, rfl, rfl, rfl, rfl⟩
 all_goals
  try (
   have e0 : (k == 0) = false := by simpa using h0
   have e1 : (k == 1) = false := by simpa using h1
   have e2 : (k == 2) = false := by simpa using h2
   have e3 : (k == 3) = false := by simpa using h3
   have e4 : (k == 4) = false := by simpa using h4
   have e5 : (k == 5) = false := by simpa using h5
   have e6 : (k == 6) = false := by simpa using h6
   clear h0 h1 h2 h3 h4 h5 h6)
  go_enter Tryz.func69, Tryz.ntmps69
  go_wp2_with fail
  exact fl_ret w _ rfl rfl
theorem isNumber_any (h : Bool) (n a b : Int) (w : World) :
  Calls Tryz.prog 92 #[.bool h, .int .i64 n, .int .i64 a, .int .i64 b] w fun e w' => e = .returned (.bool (decide (if h = true then a ≤ n ∧ n ≤ b else n = 0))) ∧ w' = w := by
 cases h
 ·obtain ⟨r, hr⟩ : ∃ r, r = (n == 0) := ⟨_, rfl⟩
  have he : decide (if false = true then a ≤ n ∧ n ≤ b else n = 0) = r := by rw [hr]; by_cases h : n = 0 <;> simp [h]
  rw [he]
  have HR := h! hr
  clear hr he
  go_enter Tryz.func92, Tryz.ntmps92
  go_wp2
  go_ret
  exact ⟨ret_eq HR.out.symm, rfl⟩
 ·have he : decide (if true = true then a ≤ n ∧ n ≤ b else n = 0) = decide (a ≤ n ∧ n ≤ b) := by simp
  rw [he]
  clear he
  by_cases h1 : a ≤ n
  ·by_cases h2 : n ≤ b
   ·have hd : decide (a ≤ n ∧ n ≤ b) = true := by simp [h1, h2]
    rw [hd]
    go_enter Tryz.func92, Tryz.ntmps92
    go_wp2
    go_ret
    exact ⟨rfl, rfl⟩
   ·have hd : decide (a ≤ n ∧ n ≤ b) = false := by simp; omega
    rw [hd]
    go_enter Tryz.func92, Tryz.ntmps92
    go_wp2
    go_ret
    exact ⟨rfl, rfl⟩
  ·have hd : decide (a ≤ n ∧ n ≤ b) = false := by simp; omega
   rw [hd]
   go_enter Tryz.func92, Tryz.ntmps92
   go_wp2
   go_ret
   exact ⟨rfl, rfl⟩
set_option maxHeartbeats 4000000 in
theorem areGroups_any (A : Option Addr) (n c : Nat) (l : List Int) (w : World) (hr : Rd w A n (ic l)) (hm : n ≤ 9223372036854775807) :
  Calls Tryz.prog 62 #[.slice A n c] w fun e w' => e = .returned (.bool (decide (l ≠ []) && CM.riseG (-1) l)) ∧ w = w' := by
 obtain ⟨r, hrr⟩ : ∃ r, r = CM.riseG (-1) l := ⟨_, rfl⟩
 rw [← hrr]
 have hl : l.length = n := by have := hr.1; rwa [ic_length] at this
 have hne : decide (l ≠ []) = decide (0 < n) := by rw [← hl]; cases l <;> simp
 rw [hne]
 have HL := h! hl
 have hst : CM.riseG (-1) (l.drop 0) = r := by rw [hrr]; rfl
 clear hrr hl hne
 have HS := h! hst; clear hst
 go_enter Tryz.func62, Tryz.ntmps62
 go_wp2
 go_loop [3, 8] (fun a i => ∃ (k : Nat) (p : Int), k ≤ n ∧ i = .int .i64 k ∧ a = .int .i64 p ∧ -1 ≤ p ∧ Hid (CM.riseG p (l.drop k) = r)) (fun _ i => n - (intOf i).toNat)
 case atStart => exact ⟨0, -1, by omega, rfl, rfl, by omega, HS⟩
 case round =>
  clear HS
  obtain ⟨k, p, hk, rfl, rfl, hp, HR⟩ := hrel
  by_cases hlt : k < n
  ·have hkz : k < l.length := by have := HL.out; omega
   obtain ⟨ad, u, rfl, _, hu, hcell⟩ := hr.at_ hlt
   rw [ic_get l k hkz] at hu
   injection hu with hu
   subst hu
   have hd := HR.out
   rw [List.drop_eq_getElem_cons hkz] at hd
   obtain ⟨z, hz⟩ : ∃ z, z = l[k] := ⟨_, rfl⟩
   rw [← hz] at hcell hd
   clear hz HR
   have h0n : decide (0 < n) = true := by simp; omega
   by_cases h1 : p < z
   ·by_cases h2 : z < 4
    ·have hd' := (rise_up h1 h2).symm.trans hd
     clear hd
     have HD := h! hd'; clear hd'
     go_wp2
     go_round
     case rel => exact ⟨k + 1, z, by omega, by go_num, rfl, by omega, HD⟩
     case measure => simp [intOf]; omega
    ·have hd' : false = r := by rw [← hd]; simp [CM.riseG, h2]
     clear hd
     have HD := h! hd'; clear hd'
     go_wp2
     go_ret
     exact ⟨ret_eq HD.out, rfl⟩
   ·have hd' : false = r := by rw [← hd]; simp [CM.riseG, h1]
    clear hd
    have HD := h! hd'; clear hd'
    go_wp2
    go_ret
    exact ⟨ret_eq HD.out, rfl⟩
  ·have hd : true = r := by have := HR.out; rw [List.drop_of_length_le (by have := HL.out; omega)] at this; simpa [CM.riseG] using this
   have HD := h! (show decide (0 < n) = (decide (0 < n) && r) by rw [← hd]; simp); clear hd
   go_wp2
   go_ret
   exact ⟨ret_eq HD.out, rfl⟩
end Go.Proofs.YteebeiaokfenmaaGreat.CP

namespace Go.Proofs.YteebeiaokfenmaaGreat.CP
open Go.RowKit
open CM (Mg Cm)
set_option linter.unusedVariables false
set_option linter.unusedSimpArgs false
set_option maxRecDepth 100000
theorem equal_is (A B : Option Addr) (ca cb : Nat) (x y : List Int) (w : World) (h1 : Rd w A x.length (ic x)) (h2 : Rd w B y.length (ic y)) (hm : x.length ≤ maxLen) (hm2 : y.length ≤ maxLen) :
  Calls Tryz.prog 89 #[.slice A x.length ca, .slice B y.length cb] w (BoolIs (decide (x = y)) w) := by
 unfold maxLen at hm hm2
 refine (equalI_any A x.length ca x B y.length cb y w h1 h2 (by omega) (by omega)).mono ?_
 rintro e w' ⟨rfl, q, rfl⟩
 exact ⟨rfl, drewN_below w q⟩
set_option maxHeartbeats 4000000 in
theorem psameMg_any (a b : Mg) (va vb : Value) (w : World) (ha : MgIs w va a) (hb : MgIs w vb b) :
  Calls Tryz.prog 64 #[va, vb] w (BoolIs (decide (a = b)) w) := by
 obtain ⟨A, c, rfl, r1, r1c, r1m⟩ := ha
 obtain ⟨B, d, rfl, r2, r2c, r2m⟩ := hb
 obtain ⟨ai, ag, at', ak, ab⟩ := a
 obtain ⟨bi, bg, bt, bk, bb⟩ := b
 simp only at r1 r1c r2 r2c
 have hiff : ((⟨ai, ag, at', ak, ab⟩ : Mg) = ⟨bi, bg, bt, bk, bb⟩) ↔ (ai = bi ∧ ag = bg ∧ at' = bt ∧ ak = bk ∧ ab = bb) := by simp
 have hno : ¬ (ai = bi ∧ ag = bg ∧ at' = bt ∧ ak = bk ∧ ab = bb) → false = decide ((⟨ai, ag, at', ak, ab⟩ : Mg) = ⟨bi, bg, bt, bk, bb⟩) := fun h => by
  have : ¬ ((⟨ai, ag, at', ak, ab⟩ : Mg) = ⟨bi, bg, bt, bk, bb⟩) := fun e => h (hiff.1 e)
  rw [decide_eq_false this]
 have hyes : (ai = bi ∧ ag = bg ∧ at' = bt ∧ ak = bk ∧ ab = bb) → true = decide ((⟨ai, ag, at', ak, ab⟩ : Mg) = ⟨bi, bg, bt, bk, bb⟩) := fun h => by
  rw [decide_eq_true (hiff.2 h)]
 have HNO := h! hno
 have HYES := h! hyes
 clear hno hyes hiff
 generalize decide ((⟨ai, ag, at', ak, ab⟩ : Mg) = ⟨bi, bg, bt, bk, bb⟩) = r at HNO HYES ⊢
 show Calls _ _ #[.agg #[.int .i64 ai, .slice A ag.length c, .int .i64 at', .string ak, .string ab], .agg #[.int .i64 bi, .slice B bg.length d, .int .i64 bt, .string bk, .string bb]] _ _
 have hb0 : ∀ o1 o2 : Obj, Below w.heap.size w ((w.alloc o1).alloc o2) := fun o1 o2 => ((Below.refl _ _).alloc n! _).alloc (by simp) _
 have hs : ∀ o1 o2 : Obj, ((w.alloc o1).alloc o2).heap.size = w.heap.size + 2 := fun _ _ => by simp
 have hX : Box ((w.alloc (.cells #[.int .i64 ai, .slice A ag.length c, .int .i64 at', .string ak, .string ab] 33)).alloc (.cells #[.int .i64 bi, .slice B bg.length d, .int .i64 bt, .string bk, .string bb] 33)) w.heap.size 33 #[.int .i64 ai, .slice A ag.length c, .int .i64 at', .string ak, .string ab] := (Box.new _ _ _).alloc _
 have hY : Box ((w.alloc (.cells #[.int .i64 ai, .slice A ag.length c, .int .i64 at', .string ak, .string ab] 33)).alloc (.cells #[.int .i64 bi, .slice B bg.length d, .int .i64 bt, .string bk, .string bb] 33)) (w.heap.size + 1) 33 #[.int .i64 bi, .slice B bg.length d, .int .i64 bt, .string bk, .string bb] := Box.new_at _ (by simp)
 have C := h! (equal_is A B c d ag bg _ (r1.below (hb0 (.cells #[.int .i64 ai, .slice A ag.length c, .int .i64 at', .string ak, .string ab] 33) (.cells #[.int .i64 bi, .slice B bg.length d, .int .i64 bt, .string bk, .string bb] 33))) (r2.below (hb0 _ _)) (by omega) (by omega))
 have HX := h! hX
 have HY := h! hY
 have HB := h! (hb0 (.cells #[.int .i64 ai, .slice A ag.length c, .int .i64 at', .string ak, .string ab] 33) (.cells #[.int .i64 bi, .slice B bg.length d, .int .i64 bt, .string bk, .string bb] 33))
 clear hX hY hb0 hs r1 r2
 go_enter Tryz.func64, Tryz.ntmps64
 go_upto_region 1 with (fail)
 generalize (w.alloc (.cells #[.int .i64 ai, .slice A ag.length c, .int .i64 at', .string ak, .string ab] 33)).alloc (.cells #[.int .i64 bi, .slice B bg.length d, .int .i64 bt, .string bk, .string bb] 33) = w1 at HX HY HB C ⊢
 have G1 := h! HX.out.lt
 have G2 := h! HY.out.lt
 generalize hg1 : w.heap.size + 1 = g1 at HY G2 ⊢
 clear hg1
 generalize hg0 : w.heap.size = g0 at HX G1 ⊢
 clear hg0
 by_cases h1 : ai = bi
 rotate_left
 ·have HF := h! (HNO.out (fun h => h1 h.1))
  have b1 : (ai == bi) = false := by simpa using h1
  obtain ⟨x0, x1, x2, x3, x4⟩ := box_mg HX.out
  obtain ⟨y0, y1, y2, y3, y4⟩ := box_mg HY.out
  clear h1 HNO HYES C HX HY
  go_wp2_with fail
  go_ret
  exact bool_ret HF.out HB.out
 subst h1
 have b1 : (ai == ai) = true := by simp
 obtain ⟨x0, x1, x2, x3, x4⟩ := box_mg HX.out
 obtain ⟨y0, y1, y2, y3, y4⟩ := box_mg HY.out
 go_wp2_with fail
 refine (C.out).mono ?_
 rintro e w2 ⟨rfl, hb2⟩
 clear x0 x1 x2 x3 x4 y0 y1 y2 y3 y4
 obtain ⟨x0, x1, x2, x3, x4⟩ := box_mg (HX.out.below hb2 G1.out)
 obtain ⟨y0, y1, y2, y3, y4⟩ := box_mg (HY.out.below hb2 G2.out)
 replace HB := h! (HB.out.trans (hb2.mono HB.out.size))
 clear C HX HY G1 G2 hb2
 by_cases h2 : ag = bg
 rotate_left
 ·have HF := h! (HNO.out (fun h => h2 h.2.1))
  have b2 : decide (ag = bg) = false := by simpa using h2
  rw [b2]
  clear h2 HNO HYES b2
  go_wp2_with fail
  go_ret
  exact bool_ret HF.out HB.out
 rw [decide_eq_true h2]
 by_cases h3 : at' = bt
 rotate_left
 ·have HF := h! (HNO.out (fun h => h3 h.2.2.1))
  have b3 : (at' == bt) = false := by simpa using h3
  clear h2 h3 HNO HYES
  go_wp2_with fail
  go_ret
  exact bool_ret HF.out HB.out
 subst h3
 have b3 : (at' == at') = true := by simp
 by_cases h4 : ak = bk
 rotate_left
 ·have HF := h! (HNO.out (fun h => h4 h.2.2.2.1))
  have b4 := text_ne h4
  clear h2 HNO HYES
  go_wp2_with fail
  go_ret
  exact bool_ret HF.out HB.out
 subst h4
 have b4 : (ak.toList == ak.toList) = true := by simp
 by_cases h5 : ab = bb
 rotate_left
 ·have HF := h! (HNO.out (fun h => h5 h.2.2.2.2))
  have b5 := text_ne h5
  clear h2 HNO HYES
  go_wp2_with fail
  go_ret
  exact bool_ret HF.out HB.out
 subst h5
 have b5 : (ab.toList == ab.toList) = true := by simp
 have HF := h! (HYES.out ⟨by simp, h2, by simp, by simp, by simp⟩)
 clear h2 HNO HYES
 go_wp2_with fail
 go_ret
 exact bool_ret HF.out HB.out
end Go.Proofs.YteebeiaokfenmaaGreat.CP
