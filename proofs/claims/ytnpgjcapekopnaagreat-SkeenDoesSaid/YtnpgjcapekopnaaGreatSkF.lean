/-
  The document's own Twin of a clock (towncrierref15): it, in new memory. Conditions: a clock that reads as one; few of each; at most 2^44 groups a message.
-/
import Derived.Test.YtnpgjcapekopnaaGreatSkOwn
import Derived.Test.YtnpgjcapekopnaaGreatSkE
namespace Go.Proofs.YtnpgjcapekopnaaGreat.KP
open Go.RowKit CP TP
open CM (Mg Cm)
open TM (Sp)
open KM (Wt Sk)
set_option linter.unusedVariables false
set_option linter.unusedSimpArgs false
set_option maxRecDepth 100000

/-- the variable just laid, with all that was done -/
def TwMid (w1 : World) (c : Int) (ds : List Sp) (u : Value) (wx : World) : Prop :=
  ∃ p vd, u = .pointer (some ⟨p, 0, none⟩) ∧ w1.heap.size ≤ p ∧ Box wx p 25 #[.int .i64 c, .slice none 0 0, vd] ∧ wx.ownsRow w1.heap.size 70 2 vd ds.length (flat spc ds) ∧ Below w1.heap.size w1 wx
set_option maxHeartbeats 16000000 in
theorem rtwin15_any (v : Value) (s : Sk) (w : World) (h : SkIs w v s) (hf1 : s.ws.length ≤ 4096) (hf2 : s.ds.length ≤ 4096) (hf3 : ∀ x ∈ s.ws, x.m.gs.length ≤ 17592186044416) : Calls Tryz.prog 5 #[v] w (SkNew s w) := by
  obtain ⟨A, c, B, d, rfl, r1, d1⟩ := h
  obtain ⟨i0, hi, hz0, hz1, hz2⟩ := info_parts info_sp
  obtain ⟨j0, hj, hy0, hy1, hy2⟩ := info_parts info_wt
  obtain ⟨sc, ws, ds⟩ := s
  simp only at r1 d1 hf1 hf2 hf3
  obtain ⟨n, hna⟩ : ∃ n, n = ws.length := ⟨_, rfl⟩
  obtain ⟨m, hmb⟩ : ∃ m, m = ds.length := ⟨_, rfl⟩
  unfold vsk
  simp only
  rw [← hna] at r1 hf1 ⊢
  rw [← hmb] at d1 hf2 ⊢
  have HLA := Lib.hid hna
  have HLB := Lib.hid hmb
  have HGS := Lib.hid hf3
  clear hna hmb hf3
  have H := Lib.hid (fun W (hb : Below w.heap.size w W) => r1.below hb)
  have HD := Lib.hid (fun W (hb : Below w.heap.size w W) => d1.below hb)
  have HB := Lib.hid (show Below w.heap.size w ((w.alloc (.cells #[.int .i64 sc, .slice A n c, .slice B m d] 25)).alloc (.cells #[.int .i64 0, .slice none 0 0, .slice none 0 0] 25)) from ((Below.refl _ _).alloc (Nat.le_refl _) _).alloc (by simp) _)
  have X := Lib.hid ((Box.new w 25 #[.int .i64 sc, .slice A n c, .slice B m d]).alloc (.cells #[.int .i64 0, .slice none 0 0, .slice none 0 0] 25))
  have Y := Lib.hid (Box.new_at (w := w.alloc (.cells #[.int .i64 sc, .slice A n c, .slice B m d] 25)) (t := 25) (cs := #[.int .i64 0, .slice none 0 0, .slice none 0 0]) (w.heap.size + 1) (by simp))
  clear r1 d1
  go_enter Tryz.func5, Tryz.ntmps5
  go_upto_region 1 with (fail)
  generalize (w.alloc (.cells #[.int .i64 sc, .slice A n c, .slice B m d] 25)).alloc (.cells #[.int .i64 0, .slice none 0 0, .slice none 0 0] 25) = w1 at HB X Y ⊢
  have HG1 := Lib.hid (show w.heap.size + 1 < w1.heap.size from Y.out.lt)
  go_cut [3] (fun u wx => TwMid w1 sc ds u wx)
  case first =>
    obtain ⟨x0, x1, x2⟩ := box_sk X.out
    have HSS := Lib.hid (fun (w' : World) (h : Below w1.heap.size w1 w') => show w'.cell? ⟨w.heap.size, 0, none⟩ = some (.int .i64 sc) ∧ w'.cell? ⟨w.heap.size, 2, none⟩ = some (.slice B m d) from ⟨(h.cell (cell_block x0)).trans x0, (h.cell (cell_block x2)).trans x2⟩)
    have bb1 : Below w1.heap.size w1 w1.drew := (Below.refl _ _).drew
    obtain ⟨ud, hud⟩ : ∃ ud, ud = w1.drew := ⟨_, rfl⟩
    have hsz : w1.heap.size = ud.heap.size := by rw [hud]; rfl
    refine wp_region_held_drew (S := fun w' => w'.cell? ⟨w.heap.size, 0, none⟩ = some (.int .i64 sc) ∧ w'.cell? ⟨w.heap.size, 2, none⟩ = some (.slice B m d)) (by kernel_rfl) (HSS.out _ bb1) (fun hHeld => ?_)
    rw [← hud] at bb1 hHeld ⊢
    clear hud x0 x1 x2
    have HSZ := Lib.hid hsz
    clear hsz
    refine qT 0 ?_; try simp only [Act.put, qq]
    refine qT 1 ?_; try simp only [Act.put, qq]
    refine qT 2 ?_; try simp only [Act.put, qq]
    refine qT 3 ?_; try simp only [Act.put, qq]
    refine wpAnyH_ready (rs := [4, 6]) (by kernel_rfl) (by simp) ?_
    refine AllReadyH.cons rfl (fun K hK => ?_) (AllReadyH.cons rfl (fun K hK => ?_) AllReadyH.nil)
    · refine step_append_h rfl (.const (.slice none 0 0)) (.tmp 9) 23 rfl ud.heap.size 70 i0 _ 2 16 Tryz.underlying23 hi hz0 hz1 hz2 rfl (by omega) (.slice none 0 0) 0 [] (by simp [Act.eval, Act.put]) (World.ownsRow_nil _ _ _ _) B m d (flat spc ds) (by simp [Act.eval, Act.put]) (HD.out _ (bmore HB.out bb1 (Nat.le_refl _))).1 (flat_spc_one _) (by unfold maxLen; omega) (by omega) (Nat.le_refl _) ?_
      intro va ub oa ga hob
      simp only [Nat.zero_add, List.nil_append] at oa
      obtain ⟨A5, c5, rfl, _, _⟩ := own_form oa
      have hb : Below ud.heap.size ud ub := below_of_grown ga (by intro g h; cases h)
      have O0 := Lib.hid (own_base oa (show w1.heap.size ≤ ud.heap.size from bb1.size))
      have bbA := bmore bb1 hb (Nat.le_refl _)
      clear oa ga hob
      refine hK.out _ _ (HSS.out _ bbA) (fun hHeld => ?_)
      clear hK
      try simp only [Act.put, qq]
      refine qT 5 ?_; try simp only [Act.put, qq]
      refine wpAnyH_ready (rs := [6]) (by kernel_rfl) (by simp) ?_
      refine AllReadyH.cons rfl (fun K hK => ?_) AllReadyH.nil
      go_simp
      have hb2 : Below ub.heap.size ub (ub.alloc (.cells #[.int .i64 0, .slice none 0 0, .slice none 0 0] 25)) := (Below.refl _ _).alloc (Nat.le_refl _) _
      have bbB := bmore bbA hb2 (Nat.le_refl _)
      have BP := Lib.hid (Box.new ub 25 #[.int .i64 0, .slice none 0 0, .slice none 0 0])
      have O1 := Lib.hid (own_below3 O0.out hb2)
      refine hK.out _ _ (HSS.out _ bbB) (fun hHeld => ?_)
      clear hK
      try simp only [Act.put, qq]
      have hpu : w1.heap.size ≤ ub.heap.size := bbA.size
      clear hb hb2 bbA O0
      generalize ub.alloc (.cells #[.int .i64 0, .slice none 0 0, .slice none 0 0] 25) = W2 at bbB BP O1 hHeld ⊢
      generalize ub.heap.size = p9 at BP hpu ⊢
      have hp1 : w1.heap.size ≤ p9 := by have := HSZ.out; omega
      obtain ⟨e0, e1, e2, f0, f1, f2⟩ := BP.out.three
      refine wpAnyH_ready (rs := [7]) (by kernel_rfl) (by simp) ?_
      refine AllReadyH.cons rfl (fun K hK => ?_) AllReadyH.nil
      go_simp
      refine hK.out _ _ (HSS.out _ (below_put3 bbB hp1 _ _ _)) (fun hHeld => ?_)
      clear hK
      try simp only [Act.put, qq]
      refine wpAnyH_done (by kernel_rfl) ?_ _
      go_wp2_with fail
      go_meet
      case rel => exact ⟨p9, _, rfl, hp1, Box.put3 BP.out _ _ _, (by rw [← HLB.out]; exact Kept.own (kept_put3 BP.out _ _ _) O1.out (by decide)), below_put3 bbB hp1 _ _ _⟩
    · go_simp
      have hb2 : Below ud.heap.size ud (ud.alloc (.cells #[.int .i64 0, .slice none 0 0, .slice none 0 0] 25)) := (Below.refl _ _).alloc (Nat.le_refl _) _
      have bbB := bmore bb1 hb2 (Nat.le_refl _)
      have BP := Lib.hid (Box.new ud 25 #[.int .i64 0, .slice none 0 0, .slice none 0 0])
      refine hK.out _ _ (HSS.out _ bbB) (fun hHeld => ?_)
      clear hK
      try simp only [Act.put, qq]
      have hpu : w1.heap.size ≤ ud.heap.size := bb1.size
      clear hb2
      generalize ud.alloc (.cells #[.int .i64 0, .slice none 0 0, .slice none 0 0] 25) = W2 at bbB BP hHeld ⊢
      generalize ud.heap.size = p9 at BP hpu ⊢
      refine wpAnyH_ready (rs := [4]) (by kernel_rfl) (by simp) ?_
      refine AllReadyH.cons rfl (fun K hK => ?_) AllReadyH.nil
      refine step_append_h rfl (.const (.slice none 0 0)) (.tmp 9) 23 rfl W2.heap.size 70 i0 _ 2 16 Tryz.underlying23 hi hz0 hz1 hz2 rfl (by omega) (.slice none 0 0) 0 [] (by simp [Act.eval, Act.put]) (World.ownsRow_nil _ _ _ _) B m d (flat spc ds) (by simp [Act.eval, Act.put]) (HD.out _ (bmore HB.out bbB (Nat.le_refl _))).1 (flat_spc_one _) (by unfold maxLen; omega) (by omega) (Nat.le_refl _) ?_
      intro va ub oa ga hob
      simp only [Nat.zero_add, List.nil_append] at oa
      obtain ⟨A5, c5, rfl, _, _⟩ := own_form oa
      have hb : Below W2.heap.size W2 ub := below_of_grown ga (by intro g h; cases h)
      have O0 := Lib.hid (own_base oa (show w1.heap.size ≤ W2.heap.size from bbB.size))
      have bbA := bmore bbB hb (Nat.le_refl _)
      clear oa ga hob
      refine hK.out _ _ (HSS.out _ bbA) (fun hHeld => ?_)
      clear hK
      try simp only [Act.put, qq]
      replace BP := Lib.hid (BP.out.below hb BP.out.lt)
      clear hb bbB
      refine qT 5 ?_; try simp only [Act.put, qq]
      have hp1 : w1.heap.size ≤ p9 := by have := HSZ.out; omega
      obtain ⟨e0, e1, e2, f0, f1, f2⟩ := BP.out.three
      refine wpAnyH_ready (rs := [7]) (by kernel_rfl) (by simp) ?_
      refine AllReadyH.cons rfl (fun K hK => ?_) AllReadyH.nil
      go_simp
      refine hK.out _ _ (HSS.out _ (below_put3 bbA hp1 _ _ _)) (fun hHeld => ?_)
      clear hK
      try simp only [Act.put, qq]
      refine wpAnyH_done (by kernel_rfl) ?_ _
      go_wp2_with fail
      go_meet
      case rel => exact ⟨p9, _, rfl, hp1, Box.put3 BP.out _ _ _, (by rw [← HLB.out]; exact Kept.own (kept_put3 BP.out _ _ _) O0.out (by decide)), below_put3 bbA hp1 _ _ _⟩

  case rest =>
    obtain ⟨p, vd, rfl, hp1, hbp, hdn, hb⟩ := hcut
    rename_i wc
    have hlt := hbp.lt
    obtain ⟨vD, cD, rfl, hd1, hd2⟩ : ∃ B c, vd = .slice B ds.length c ∧ ds.length ≤ c ∧ c ≤ maxLen := own_form hdn
    have HT := Lib.hid (show TwR w1 p wc.heap.size sc (.slice vD ds.length cD) ds [] wc from ⟨hb, ⟨hp1, hlt, Nat.le_refl _⟩, ⟨_, hbp, kO_nil KW _ _ _⟩, hdn⟩)
    have HSZ := Lib.hid (show w1.heap.size ≤ wc.heap.size from hb.size)
    clear hp1 hbp hdn hb hlt
    generalize wc.heap.size = b2 at HT HSZ ⊢
    go_wp2_with fail
    go_loopw [4] (fun i wr => ∃ k : Nat, k ≤ n ∧ i = .int .i64 k ∧ TwR w1 p b2 sc (.slice vD ds.length cD) ds (ws.take k) wr) (fun i _ => n - (intOf i).toNat)
    case atStart => exact ⟨0, by omega, rfl, by simpa using HT.out⟩
    case round =>
      clear HT
      obtain ⟨k, hk, rfl, hT⟩ := hrel
      have HTR := Lib.hid hT
      obtain ⟨x0, x1, x2⟩ := box_sk (X.out.below hT.bl (by have := HG1.out; omega))
      have HBW := Lib.hid (bmore HB.out hT.bl (Nat.le_refl _))
      clear hT
      by_cases hlt : k < n
      · obtain ⟨x, hx⟩ : ∃ x, ws[k]? = some x := ⟨_, List.getElem?_eq_getElem (by have := HLA.out; omega)⟩
        have HXx := Lib.hid hx
        obtain ⟨bl, o, P, q, rfl, _, _, hat, hrr⟩ := wts_at (H.out _ HBW.out) hx
        have hgs := HGS.out x (List.mem_of_getElem? hx)
        obtain ⟨a0, a1, a2, a3, a4, a5, a6⟩ := hat
        clear hx
        have hk0 : (0 : Int) ≤ (k : Int) := by omega
        have hkn : (k : Int) < (n : Int) := by omega
        have CT := Lib.hid (fun W (hb : Below wr.heap.size wr W) => rtwinMessage_any x.m _ W ⟨P, q, rfl, hrr.below hb⟩ hgs)
        clear hrr hgs
        obtain ⟨⟨xi, xg, xt, xk, xb⟩, xm, xf⟩ := x
        unfold mcells at CT
        simp only at a0 a1 a2 a3 a4 a5 a6 CT
        go_upto_region 6 with (fail)
        clear a0 a1 a2 a3 a4 a5 a6 x0 x1 x2
        have hb3 : Below wr.heap.size wr (wr.alloc (.cells #[.int .i64 xi, .slice P xg.length q, .int .i64 xt, .string xk, .string xb, .int .i64 xm, .bool xf] 52)) := (Below.refl _ _).alloc (Nat.le_refl _) _
        have HV := Lib.hid (Box.new wr 52 #[.int .i64 xi, .slice P xg.length q, .int .i64 xt, .string xk, .string xb, .int .i64 xm, .bool xf])
        have HB3 := Lib.hid hb3
        have HP5 := Lib.hid (show wr.heap.size < (wr.alloc (.cells #[.int .i64 xi, .slice P xg.length q, .int .i64 xt, .string xk, .string xb, .int .i64 xm, .bool xf] 52)).heap.size by simp)
        clear hb3
        generalize wr.alloc (.cells #[.int .i64 xi, .slice P xg.length q, .int .i64 xt, .string xk, .string xb, .int .i64 xm, .bool xf] 52) = w3 at HV HB3 HP5 ⊢
        obtain ⟨p5, hp5⟩ : ∃ p5, wr.heap.size = p5 := ⟨_, rfl⟩
        rw [hp5] at HV HP5
        simp only [hp5]
        have HE5 := Lib.hid hp5
        clear hp5
        obtain ⟨⟨z0, z1, z2, z3, z4, z5, z6⟩, f0, f1, f2, f3, f4, f5, f6⟩ := box_wtf HV.out
        go_wp2_with fail
        refine (CT.out w3 HB3.out).mono ?_
        rintro e w4 ⟨A6, c6, rfl, hg, hb⟩
        unfold mcells
        simp only at hg
        clear z0 z1 z2 z3 z4 z5 z6 f0 f1 f2 f3 f4 f5 f6
        replace HV := Lib.hid (HV.out.below hb HV.out.lt)
        have HG := Lib.hid hg
        have HB4 := Lib.hid (bmore HB3.out hb (Nat.le_refl _))
        have HP6 := Lib.hid (show p5 < w4.heap.size from Nat.lt_of_lt_of_le HP5.out hb.size)
        clear hg hb CT
        obtain ⟨⟨z0, z1, z2, z3, z4, z5, z6⟩, f0, f1, f2, f3, f4, f5, f6⟩ := box_wtf HV.out
        go_upto_region 7 with (fail)
        clear z0 z1 z2 z3 z4 z5 z6 f0 f1 f2 f3 f4 f5 f6
        have HV5 := Lib.hid (show Box (pt5 w4 p5 (.int .i64 xi) (.slice A6 xg.length c6) (.int .i64 xt) (.string xk) (.string xb)) p5 52 #[.int .i64 xi, .slice A6 xg.length c6, .int .i64 xt, .string xk, .string xb, .int .i64 xm, .bool xf] by
          have := ((((HV.out.stored 0 (.int .i64 xi)).stored 1 (.slice A6 xg.length c6)).stored 2 (.int .i64 xt)).stored 3 (.string xk)).stored 4 (.string xb)
          simpa [pt5] using this)
        have HB5 := Lib.hid (pt5_below HB4.out (g := p5) (by have := HE5.out; omega) (.int .i64 xi) (.slice A6 xg.length c6) (.int .i64 xt) (.string xk) (.string xb))
        have HG5 := Lib.hid ((RowGe.setB HG.out (g := p5) HP5.out (.int .i64 xi) (.slice A6 xg.length c6) (.int .i64 xt) (.string xk) (.string xb)).mono HB3.out.size)
        unfold pt5 at HV5 HB5 HG5
        clear HV HB4 HG
        generalize ((((w4.setCell ⟨p5, 0, none⟩ (.int .i64 xi)).setCell ⟨p5, 1, none⟩ (.slice A6 xg.length c6)).setCell ⟨p5, 2, none⟩ (.int .i64 xt)).setCell ⟨p5, 3, none⟩ (.string xk)).setCell ⟨p5, 4, none⟩ (.string xb) = w5 at HV5 HB5 HG5 ⊢
        obtain ⟨vW, hbp, es, hes, hown, hrs⟩ := HTR.out.bp
        have hel : es.length = k := by
          have := congrArg List.length hes
          rw [List.length_map, List.length_take] at this
          have := HLA.out
          omega
        rw [hel] at hown
        have HEL := Lib.hid hel
        clear hel
        obtain ⟨A9, c9, rfl, hc9, hm9⟩ := own_form hown
        have HBP := Lib.hid hbp
        have HES := Lib.hid hes
        have HOW := Lib.hid hown
        have HRS := Lib.hid hrs
        have HO5 := Lib.hid (own_below3 (own_below3 hown HB5.out) ((Below.refl _ _).alloc (Nat.le_refl _) (.cells #[.int .i64 xi, .slice A6 xg.length c6, .int .i64 xt, .string xk, .string xb, .int .i64 xm, .bool xf] 52)))
        have HBA := Lib.hid (show Below wr.heap.size wr (w5.alloc (.cells #[.int .i64 xi, .slice A6 xg.length c6, .int .i64 xt, .string xk, .string xb, .int .i64 xm, .bool xf] 52)) from bmore HB5.out ((Below.refl _ _).alloc (Nat.le_refl _) _) (Nat.le_refl _))
        have HGA := Lib.hid (HG5.out.below ((Below.refl _ _).alloc (Nat.le_refl _) (.cells #[.int .i64 xi, .slice A6 xg.length c6, .int .i64 xt, .string xk, .string xb, .int .i64 xm, .bool xf] 52)))
        have HRG := Lib.hid (rdG_box (s := 7) (n := 1) (Box.new w5 52 #[.int .i64 xi, .slice A6 xg.length c6, .int .i64 xt, .string xk, .string xb, .int .i64 xm, .bool xf]) (xs := KW.cel A6 c6 ⟨⟨xi, xg, xt, xk, xb⟩, xm, xf⟩) rfl rfl)
        have hbp5 := hbp.below HB5.out hbp.lt
        obtain ⟨y0, y1, y2⟩ := box_sk hbp5
        obtain ⟨z0, z1, z2, z3, z4, z5, z6⟩ := box_wt HV5.out
        clear hbp hes hown hrs hbp5
        go_wp2_with (at_builtin; refine wpList_append_g _ rfl _ _ 22 rfl b2 52 j0 _ 7 88 Tryz.underlying22 hj hy0 hy1 hy2 rfl (by omega) (.slice A9 k c9) k (flat (exc KW) es) rfl HO5.out (some ⟨w5.heap.size, 0, none⟩) 1 1 (KW.cel A6 c6 ⟨⟨xi, xg, xt, xk, xb⟩, xm, xf⟩) rfl HRG.out (KW.one _ _ _) (by unfold maxLen; omega) (by omega) (Nat.le_trans HTR.out.ok.2.2 HBA.out.size) ?_; intro v2 w6 hown hgr hob; have HOB := Lib.hid hob; have HGR := Lib.hid hgr; have HO6 := Lib.hid hown; have hb6 := (HBP.out.below HBA.out HBP.out.lt).grown hgr (own_ne HO5.out (HBP.out.below HBA.out HBP.out.lt) (by decide)); have s1 := hb6.cell 1; have s2 := hb6.frozen 1; simp at s1; obtain ⟨A7, c7, rfl, _, _⟩ := own_form hown; clear hown hgr hob hb6)
        have HN := Lib.hid (show TwR w1 p b2 sc (.slice vD ds.length cD) ds (ws.take (k + 1)) (w6.setCell ⟨p, 1, none⟩ (.slice A7 (k + 1) c7)) by
          rw [List.take_add_one, HXx.out]
          exact twR_next HTR.out HBP.out (x := ⟨⟨xi, xg, xt, xk, xb⟩, xm, xf⟩) es HEL.out HES.out HOW.out HRS.out HBA.out HGA.out HGR.out HO6.out HOB.out)
        go_roundw
        case rel => exact ⟨k + 1, by omega, by go_num, HN.out⟩
        case measure => simp [intOf]; omega
      · obtain ⟨vW, hbp, hko⟩ := HTR.out.bp
        have hko2 : KO KW wr b2 52 vW ws := by
          have := hko
          rwa [List.take_of_length_le (by have := HLA.out; omega)] at this
        obtain ⟨A9, c9, rfl, _⟩ := hko2.g
        have HKO := Lib.hid hko2
        have HBP := Lib.hid hbp
        obtain ⟨e0, e1, e2⟩ := box_sk hbp
        have hy9 := Y.out.below HTR.out.bl HG1.out
        obtain ⟨q0, q1, q2, q3, q4, q5⟩ := hy9.three
        have HZ := Lib.hid (Box.put3 hy9 (.int .i64 sc) (.slice A9 ws.length c9) (.slice vD ds.length cD))
        have HZB := Lib.hid (below_put3 HBW.out (g := w.heap.size + 1) (by omega) (.int .i64 sc) (.slice A9 ws.length c9) (.slice vD ds.length cD))
        have hlb : w.heap.size + 1 < b2 := Nat.lt_of_lt_of_le HG1.out HSZ.out
        have HZO := Lib.hid (((HKO.out.set (i := 0) hlb (.int .i64 sc)).set (i := 1) hlb (.slice A9 ws.length c9)).set (i := 2) hlb (.slice vD ds.length cD) |>.mono (show w.heap.size ≤ b2 by omega))
        have HZD := Lib.hid (own_base (base' := w.heap.size) (ownsRow_setCell_below (ownsRow_setCell_below (ownsRow_setCell_below HTR.out.dn (a := ⟨w.heap.size + 1, 0, none⟩) HG1.out (.int .i64 sc)) (a := ⟨w.heap.size + 1, 1, none⟩) HG1.out (.slice A9 ws.length c9)) (a := ⟨w.heap.size + 1, 2, none⟩) HG1.out (.slice vD ds.length cD)) (by have := HG1.out; omega))
        clear hko hko2 hbp hy9
        go_wp2_with fail
        obtain ⟨u0, u1, u2⟩ := box_sk HZ.out
        exact bodyPost_ret (v := .agg #[.int .i64 sc, .slice A9 ws.length c9, .slice vD ds.length cD]) (by simp [results, Tryz.results5, go_sem, u0, u1, u2]; try rfl) rfl ⟨_, rfl, ⟨_, _, rfl, HZO.out, HZD.out⟩, HZB.out⟩
end Go.Proofs.YtnpgjcapekopnaaGreat.KP
