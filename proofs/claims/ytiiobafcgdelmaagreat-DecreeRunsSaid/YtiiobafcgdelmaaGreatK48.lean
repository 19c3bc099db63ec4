/- Contracts of functions of towncrier, layers 5 to 9, and of the document's own ones, part 48; each as its theorem says. -/
import Derived.Test.YtiiobafcgdelmaaGreatK01
import Derived.Test.YtiiobafcgdelmaaGreatK26
import Derived.Test.YtiiobafcgdelmaaGreatK42
set_option linter.unusedVariables false
set_option linter.unusedSimpArgs false
namespace Go.Proofs.YtiiobafcgdelmaaGreat.PD
open Go.RowKit Go.Shelf
set_option maxRecDepth 100000 in
set_option maxHeartbeats 8000000 in
theorem rwnew_any (A : Option Addr) (n c : Nat) (ms : List Int) (y : Int) (W : World) (hr : Rd W A n (ic ms)) (hm : n ≤ 9223372036854775807) (hy : QM.ChkIs ms y) :
  Calls Tryz.prog 17 #[.slice A n c] W (NewRet ms y W) := by
 have HQ := h! (fun (U : World) (hU : Below W.heap.size W U) => rqCheck_any A n c ms y U (hr.below hU) hm hy)
 have hl : ms.length = n := by have := hr.1; rwa [ic_length] at this
 have HC2 := h! (fun (U : World) (hU : Below W.heap.size W U) => (hr.below hU).g)
 obtain ⟨i0, hi, hz0, hz1, hz2⟩ := info_parts info_ai
 obtain ⟨mv, mt, hmv, hmt, ov, ot⟩ := makes
 have HOV := h! ov
 have HOT := h! ot
 have HI := h! (And.intro hi (And.intro hz0 (And.intro hz1 hz2)))
 obtain ⟨U0, hU0⟩ : ∃ U0, U0 = W.alloc (.cells #[.slice none 0 0, .slice none 0 0, .slice none 0 0, .slice none 0 0, .slice none 0 0] 28) := ⟨_, rfl⟩
 have hs0 : NwSt W U0 W.heap.size := by rw [hU0]; exact ⟨Box.new _ _ _, (Below.refl _ _).alloc n! _, Nat.le_refl _⟩
 have HS0 := h! hs0
 have mixed : Tryz.prog.follows Departure.mixedOrders = true := by kernel_rfl
 clear hs0 hr ov ot hi hz0 hz1 hz2
 by_cases h0 : y = 0
 rotate_left
 ·have e0 : (y != 0) = true := by simpa using h0
  have HN := h! h0
  clear h0 hy HC2 HOV HOT hmv hmt HI
  go_enter Tryz.func17, Tryz.ntmps17
  go_wp2_with fail
  rw [← hU0]
  refine (HQ.out _ HS0.out.bl).mono ?_
  rintro e w1 ⟨rfl, q1, rfl⟩
  have HS1 := h! (show NwSt W (U0.drewN q1) W.heap.size from HS0.out.below (below_drewN (Below.refl _ _) _))
  clear hU0 HQ HS0
  generalize U0.drewN q1 = U1 at HS1 ⊢
  obtain ⟨⟨_, _, _, _, _⟩, z0, z1, z2, z3, z4⟩ := HS1.out.br.five
  go_wp2_with fail
  have hres := res5 HS1.out.br (.slice none 0 0) (.slice none 0 0) (.slice none 0 0) (.slice none 0 0) (.slice none 0 0)
  obtain ⟨⟨s0, s1, s2, s3, s4⟩, _⟩ := hres.1.five
  exact bodyPost_ret (v := .tuple #[.agg #[.slice none 0 0, .slice none 0 0, .slice none 0 0, .slice none 0 0, .slice none 0 0], .int .i64 y]) (by simp [results, Tryz.results17, go_sem, s0, s1, s2, s3, s4]) rfl ⟨_, rfl, hres.2.2 _ _ HS1.out.bl HS1.out.hr, .inl ⟨HN.out, rfl⟩⟩
 subst h0
 have hmay : QM.may ms = true := by rcases QM.chkIs_cases hy with ⟨_, h⟩ | ⟨_, h⟩; (· exact h); (· omega)
 have hn6 : n ≤ 2000 := by have := (QM.may_len hmay).2.1; omega
 clear hy hmay hm
 subst hl
 go_enter Tryz.func17, Tryz.ntmps17
 go_wp2_with fail
 rw [← hU0]
 refine (HQ.out _ HS0.out.bl).mono ?_
 rintro e w1 ⟨rfl, q1, rfl⟩
 clear hU0 HQ
 go_upto_region 4 with (fail)
 have HS := h! (show NwSt W (U0.drewN q1).drew W.heap.size from HS0.out.below ((below_drewN (Below.refl _ _) _).drew))
 generalize hgr : W.heap.size = gr at HS ⊢
 subst hgr
 obtain ⟨u, hu⟩ : ∃ u, u = (U0.drewN q1).drew := ⟨_, rfl⟩
 rw [← hu] at HS
 clear HS0
 refine wp_region_held_drew (S := fun _ => True) (by kernel_rfl) trivial (fun hHeld => ?_)
 rw [← hu]
 clear hu
 obtain ⟨hi, hz0, hz1, hz2⟩ := HI.out
 refine qT 0 ?_
 try simp only [Act.put, qq]
 refine wpAnyH_ready (rs := [1, 2, 3]) (by kernel_rfl) (by simp) ?_
 refine AllReadyH.cons rfl (fun K hK => ?_) (AllReadyH.cons rfl (fun K hK => ?_) (AllReadyH.cons rfl (fun K hK => ?_) AllReadyH.nil))
 ·refine step_append_h rfl (.const (.slice none 0 0)) (.tmp 11) 22 rfl u.heap.size 3 i0 (.int .i64 0) 1 8 Tryz.underlying22 hi hz0 hz1 hz2 rfl (by omega) (.slice none 0 0) 0 [] (by simp [Act.eval, Act.put]) (World.ownsRow_nil _ _ _ _) A ms.length c (ic ms) (by simp [Act.eval, Act.put]) (HC2.out _ HS.out.bl) (ic_one _) (by unfold maxLen; omega) (by omega) n! ?_
  intro va v1 oa ga hob
  simp only [Nat.zero_add, List.nil_append] at oa
  obtain ⟨A5, c5, rfl, _, _⟩ := own_form oa
  have hb : Below u.heap.size u v1 := below_of_grown ga (by intro g h; cases h)
  have OI := h! (own_base oa HS.out.bl.size)
  have HS := h! (HS.out.below hb)
  clear oa ga hob hb
  refine hK.out _ _ trivial (fun hHeld => ?_)
  clear hK
  try simp only [Act.put, qq]
  refine wpAnyH_ready (rs := [2, 3]) (by kernel_rfl) (by simp) ?_
  refine AllReadyH.cons rfl (fun K hK => ?_) (AllReadyH.cons rfl (fun K hK => ?_) AllReadyH.nil)
  ·go_simp
   have hb : Below v1.heap.size v1 (v1.alloc (.cells mv 59)) := b!
   have OV := h! (HOV.out v1 W.heap.size HS.out.bl.size)
   have OI := h! (own_below3 OI.out hb)
   have HS := h! (HS.out.below hb)
   clear hb
   refine hK.out _ _ trivial (fun hHeld => ?_)
   clear hK
   try simp only [Act.put, qq]
   generalize v1.alloc (.cells mv 59) = v2 at OI OV HS ⊢
   generalize v1.heap.size = gV at OV ⊢
   refine qR 3 fun K hK => ?_
   ·go_simp
    have hb : Below v2.heap.size v2 (v2.alloc (.cells mt 57)) := b!
    have OT := h! (HOT.out v2 W.heap.size HS.out.bl.size)
    have OI := h! (own_below3 OI.out hb)
    have OV := h! (own_below3 OV.out hb)
    have HS := h! (HS.out.below hb)
    clear hb
    refine hK.out _ _ trivial (fun hHeld => ?_)
    clear hK
    try simp only [Act.put, qq]
    generalize v2.alloc (.cells mt 57) = v3 at OI OV OT HS ⊢
    generalize v2.heap.size = gT at OT ⊢
    obtain ⟨⟨_, _, _, _, _⟩, z0, z1, z2, z3, z4⟩ := HS.out.br.five
    clear hmv hmt
    refine qT 4 ?_
    try simp only [Act.put, qq]
    refine qR 5 fun K hK => ?_
    go_simp
    refine hK.out _ _ trivial (fun hHeld2 => ?_)
    clear hK
    try simp only [Act.put, qq]
    refine qT 6 ?_
    try simp only [Act.put, qq]
    refine wpAnyH_done (by kernel_rfl) ?_ _
    go_wp2_with fail
    have hres := res5 HS.out.br (.slice A5 ms.length c5) (.slice (some ⟨gV, 0, none⟩) 6 6) (.slice (some ⟨gT, 0, none⟩) 6 6) (.slice none 0 0) (.slice none 0 0)
    obtain ⟨⟨s0, s1, s2, s3, s4⟩, _⟩ := hres.1.five
    have hown : WOwn v3 W.heap.size (.agg #[.slice A5 ms.length c5, .slice (some ⟨gV, 0, none⟩) 6 6, .slice (some ⟨gT, 0, none⟩) 6 6, .slice none 0 0, .slice none 0 0]) (DC.start ms) :=
     ⟨A5, c5, some ⟨gV, 0, none⟩, 6, some ⟨gT, 0, none⟩, 6, none, 0, none, 0, _, rfl, OI.out, OV.out, OT.out, ts0 _ _, World.ownsRow_nil _ _ _ _, World.ownsRow_nil _ _ _ _⟩
    exact bodyPost_ret (v := .tuple #[.agg #[.slice A5 ms.length c5, .slice (some ⟨gV, 0, none⟩) 6 6, .slice (some ⟨gT, 0, none⟩) 6 6, .slice none 0 0, .slice none 0 0], .int .i64 0]) (by simp [results, Tryz.results17, go_sem, s0, s1, s2, s3, s4]) rfl ⟨_, rfl, hres.2.2 _ _ HS.out.bl HS.out.hr, .inr ⟨rfl, hown.kept hres.2.1⟩⟩
  ·go_simp
   have hb : Below v1.heap.size v1 (v1.alloc (.cells mt 57)) := b!
   have OT := h! (HOT.out v1 W.heap.size HS.out.bl.size)
   have OI := h! (own_below3 OI.out hb)
   have HS := h! (HS.out.below hb)
   clear hb
   refine hK.out _ _ trivial (fun hHeld => ?_)
   clear hK
   try simp only [Act.put, qq]
   generalize v1.alloc (.cells mt 57) = v4 at OI OT HS ⊢
   generalize v1.heap.size = gT at OT ⊢
   refine qR 2 fun K hK => ?_
   ·go_simp
    have hb : Below v4.heap.size v4 (v4.alloc (.cells mv 59)) := b!
    have OV := h! (HOV.out v4 W.heap.size HS.out.bl.size)
    have OI := h! (own_below3 OI.out hb)
    have OT := h! (own_below3 OT.out hb)
    have HS := h! (HS.out.below hb)
    clear hb
    refine hK.out _ _ trivial (fun hHeld => ?_)
    clear hK
    try simp only [Act.put, qq]
    generalize v4.alloc (.cells mv 59) = v5 at OI OT OV HS ⊢
    generalize v4.heap.size = gV at OV ⊢
    obtain ⟨⟨_, _, _, _, _⟩, z0, z1, z2, z3, z4⟩ := HS.out.br.five
    clear hmv hmt
    refine qT 4 ?_
    try simp only [Act.put, qq]
    refine qR 5 fun K hK => ?_
    go_simp
    refine hK.out _ _ trivial (fun hHeld2 => ?_)
    clear hK
    try simp only [Act.put, qq]
    refine qT 6 ?_
    try simp only [Act.put, qq]
    refine wpAnyH_done (by kernel_rfl) ?_ _
    go_wp2_with fail
    have hres := res5 HS.out.br (.slice A5 ms.length c5) (.slice (some ⟨gV, 0, none⟩) 6 6) (.slice (some ⟨gT, 0, none⟩) 6 6) (.slice none 0 0) (.slice none 0 0)
    obtain ⟨⟨s0, s1, s2, s3, s4⟩, _⟩ := hres.1.five
    have hown : WOwn v5 W.heap.size (.agg #[.slice A5 ms.length c5, .slice (some ⟨gV, 0, none⟩) 6 6, .slice (some ⟨gT, 0, none⟩) 6 6, .slice none 0 0, .slice none 0 0]) (DC.start ms) :=
     ⟨A5, c5, some ⟨gV, 0, none⟩, 6, some ⟨gT, 0, none⟩, 6, none, 0, none, 0, _, rfl, OI.out, OV.out, OT.out, ts0 _ _, World.ownsRow_nil _ _ _ _, World.ownsRow_nil _ _ _ _⟩
    exact bodyPost_ret (v := .tuple #[.agg #[.slice A5 ms.length c5, .slice (some ⟨gV, 0, none⟩) 6 6, .slice (some ⟨gT, 0, none⟩) 6 6, .slice none 0 0, .slice none 0 0], .int .i64 0]) (by simp [results, Tryz.results17, go_sem, s0, s1, s2, s3, s4]) rfl ⟨_, rfl, hres.2.2 _ _ HS.out.bl HS.out.hr, .inr ⟨rfl, hown.kept hres.2.1⟩⟩
 ·go_simp
  have hb : Below u.heap.size u (u.alloc (.cells mv 59)) := b!
  have OV := h! (HOV.out u W.heap.size HS.out.bl.size)
  have HS := h! (HS.out.below hb)
  clear hb
  refine hK.out _ _ trivial (fun hHeld => ?_)
  clear hK
  try simp only [Act.put, qq]
  generalize u.alloc (.cells mv 59) = v6 at OV HS ⊢
  generalize u.heap.size = gV at OV ⊢
  refine wpAnyH_ready (rs := [1, 3]) (by kernel_rfl) (by simp) ?_
  refine AllReadyH.cons rfl (fun K hK => ?_) (AllReadyH.cons rfl (fun K hK => ?_) AllReadyH.nil)
  ·refine step_append_h rfl (.const (.slice none 0 0)) (.tmp 11) 22 rfl v6.heap.size 3 i0 (.int .i64 0) 1 8 Tryz.underlying22 hi hz0 hz1 hz2 rfl (by omega) (.slice none 0 0) 0 [] (by simp [Act.eval, Act.put]) (World.ownsRow_nil _ _ _ _) A ms.length c (ic ms) (by simp [Act.eval, Act.put]) (HC2.out _ HS.out.bl) (ic_one _) (by unfold maxLen; omega) (by omega) n! ?_
   intro va v7 oa ga hob
   simp only [Nat.zero_add, List.nil_append] at oa
   obtain ⟨A5, c5, rfl, _, _⟩ := own_form oa
   have hb : Below v6.heap.size v6 v7 := below_of_grown ga (by intro g h; cases h)
   have OI := h! (own_base oa HS.out.bl.size)
   have OV := h! (own_below3 OV.out hb)
   have HS := h! (HS.out.below hb)
   clear oa ga hob hb
   refine hK.out _ _ trivial (fun hHeld => ?_)
   clear hK
   try simp only [Act.put, qq]
   refine qR 3 fun K hK => ?_
   ·go_simp
    have hb : Below v7.heap.size v7 (v7.alloc (.cells mt 57)) := b!
    have OT := h! (HOT.out v7 W.heap.size HS.out.bl.size)
    have OV := h! (own_below3 OV.out hb)
    have OI := h! (own_below3 OI.out hb)
    have HS := h! (HS.out.below hb)
    clear hb
    refine hK.out _ _ trivial (fun hHeld => ?_)
    clear hK
    try simp only [Act.put, qq]
    generalize v7.alloc (.cells mt 57) = v8 at OV OI OT HS ⊢
    generalize v7.heap.size = gT at OT ⊢
    obtain ⟨⟨_, _, _, _, _⟩, z0, z1, z2, z3, z4⟩ := HS.out.br.five
    clear hmv hmt
    refine qT 4 ?_
    try simp only [Act.put, qq]
    refine qR 5 fun K hK => ?_
    go_simp
    refine hK.out _ _ trivial (fun hHeld2 => ?_)
    clear hK
    try simp only [Act.put, qq]
    refine qT 6 ?_
    try simp only [Act.put, qq]
    refine wpAnyH_done (by kernel_rfl) ?_ _
    go_wp2_with fail
    have hres := res5 HS.out.br (.slice A5 ms.length c5) (.slice (some ⟨gV, 0, none⟩) 6 6) (.slice (some ⟨gT, 0, none⟩) 6 6) (.slice none 0 0) (.slice none 0 0)
    obtain ⟨⟨s0, s1, s2, s3, s4⟩, _⟩ := hres.1.five
    have hown : WOwn v8 W.heap.size (.agg #[.slice A5 ms.length c5, .slice (some ⟨gV, 0, none⟩) 6 6, .slice (some ⟨gT, 0, none⟩) 6 6, .slice none 0 0, .slice none 0 0]) (DC.start ms) :=
     ⟨A5, c5, some ⟨gV, 0, none⟩, 6, some ⟨gT, 0, none⟩, 6, none, 0, none, 0, _, rfl, OI.out, OV.out, OT.out, ts0 _ _, World.ownsRow_nil _ _ _ _, World.ownsRow_nil _ _ _ _⟩
    exact bodyPost_ret (v := .tuple #[.agg #[.slice A5 ms.length c5, .slice (some ⟨gV, 0, none⟩) 6 6, .slice (some ⟨gT, 0, none⟩) 6 6, .slice none 0 0, .slice none 0 0], .int .i64 0]) (by simp [results, Tryz.results17, go_sem, s0, s1, s2, s3, s4]) rfl ⟨_, rfl, hres.2.2 _ _ HS.out.bl HS.out.hr, .inr ⟨rfl, hown.kept hres.2.1⟩⟩
  ·go_simp
   have hb : Below v6.heap.size v6 (v6.alloc (.cells mt 57)) := b!
   have OT := h! (HOT.out v6 W.heap.size HS.out.bl.size)
   have OV := h! (own_below3 OV.out hb)
   have HS := h! (HS.out.below hb)
   clear hb
   refine hK.out _ _ trivial (fun hHeld => ?_)
   clear hK
   try simp only [Act.put, qq]
   generalize v6.alloc (.cells mt 57) = v9 at OV OT HS ⊢
   generalize v6.heap.size = gT at OT ⊢
   refine qR 1 fun K hK => ?_
   ·refine step_append_h rfl (.const (.slice none 0 0)) (.tmp 11) 22 rfl v9.heap.size 3 i0 (.int .i64 0) 1 8 Tryz.underlying22 hi hz0 hz1 hz2 rfl (by omega) (.slice none 0 0) 0 [] (by simp [Act.eval, Act.put]) (World.ownsRow_nil _ _ _ _) A ms.length c (ic ms) (by simp [Act.eval, Act.put]) (HC2.out _ HS.out.bl) (ic_one _) (by unfold maxLen; omega) (by omega) n! ?_
    intro va v10 oa ga hob
    simp only [Nat.zero_add, List.nil_append] at oa
    obtain ⟨A5, c5, rfl, _, _⟩ := own_form oa
    have hb : Below v9.heap.size v9 v10 := below_of_grown ga (by intro g h; cases h)
    have OI := h! (own_base oa HS.out.bl.size)
    have OV := h! (own_below3 OV.out hb)
    have OT := h! (own_below3 OT.out hb)
    have HS := h! (HS.out.below hb)
    clear oa ga hob hb
    refine hK.out _ _ trivial (fun hHeld => ?_)
    clear hK
    try simp only [Act.put, qq]
    obtain ⟨⟨_, _, _, _, _⟩, z0, z1, z2, z3, z4⟩ := HS.out.br.five
    clear hmv hmt
    refine qT 4 ?_
    try simp only [Act.put, qq]
    refine qR 5 fun K hK => ?_
    go_simp
    refine hK.out _ _ trivial (fun hHeld2 => ?_)
    clear hK
    try simp only [Act.put, qq]
    refine qT 6 ?_
    try simp only [Act.put, qq]
    refine wpAnyH_done (by kernel_rfl) ?_ _
    go_wp2_with fail
    have hres := res5 HS.out.br (.slice A5 ms.length c5) (.slice (some ⟨gV, 0, none⟩) 6 6) (.slice (some ⟨gT, 0, none⟩) 6 6) (.slice none 0 0) (.slice none 0 0)
    obtain ⟨⟨s0, s1, s2, s3, s4⟩, _⟩ := hres.1.five
    have hown : WOwn v10 W.heap.size (.agg #[.slice A5 ms.length c5, .slice (some ⟨gV, 0, none⟩) 6 6, .slice (some ⟨gT, 0, none⟩) 6 6, .slice none 0 0, .slice none 0 0]) (DC.start ms) :=
     ⟨A5, c5, some ⟨gV, 0, none⟩, 6, some ⟨gT, 0, none⟩, 6, none, 0, none, 0, _, rfl, OI.out, OV.out, OT.out, ts0 _ _, World.ownsRow_nil _ _ _ _, World.ownsRow_nil _ _ _ _⟩
    exact bodyPost_ret (v := .tuple #[.agg #[.slice A5 ms.length c5, .slice (some ⟨gV, 0, none⟩) 6 6, .slice (some ⟨gT, 0, none⟩) 6 6, .slice none 0 0, .slice none 0 0], .int .i64 0]) (by simp [results, Tryz.results17, go_sem, s0, s1, s2, s3, s4]) rfl ⟨_, rfl, hres.2.2 _ _ HS.out.bl HS.out.hr, .inr ⟨rfl, hown.kept hres.2.1⟩⟩
 ·go_simp
  have hb : Below u.heap.size u (u.alloc (.cells mt 57)) := b!
  have OT := h! (HOT.out u W.heap.size HS.out.bl.size)
  have HS := h! (HS.out.below hb)
  clear hb
  refine hK.out _ _ trivial (fun hHeld => ?_)
  clear hK
  try simp only [Act.put, qq]
  generalize u.alloc (.cells mt 57) = v11 at OT HS ⊢
  generalize u.heap.size = gT at OT ⊢
  refine wpAnyH_ready (rs := [1, 2]) (by kernel_rfl) (by simp) ?_
  refine AllReadyH.cons rfl (fun K hK => ?_) (AllReadyH.cons rfl (fun K hK => ?_) AllReadyH.nil)
  ·refine step_append_h rfl (.const (.slice none 0 0)) (.tmp 11) 22 rfl v11.heap.size 3 i0 (.int .i64 0) 1 8 Tryz.underlying22 hi hz0 hz1 hz2 rfl (by omega) (.slice none 0 0) 0 [] (by simp [Act.eval, Act.put]) (World.ownsRow_nil _ _ _ _) A ms.length c (ic ms) (by simp [Act.eval, Act.put]) (HC2.out _ HS.out.bl) (ic_one _) (by unfold maxLen; omega) (by omega) n! ?_
   intro va v12 oa ga hob
   simp only [Nat.zero_add, List.nil_append] at oa
   obtain ⟨A5, c5, rfl, _, _⟩ := own_form oa
   have hb : Below v11.heap.size v11 v12 := below_of_grown ga (by intro g h; cases h)
   have OI := h! (own_base oa HS.out.bl.size)
   have OT := h! (own_below3 OT.out hb)
   have HS := h! (HS.out.below hb)
   clear oa ga hob hb
   refine hK.out _ _ trivial (fun hHeld => ?_)
   clear hK
   try simp only [Act.put, qq]
   refine qR 2 fun K hK => ?_
   ·go_simp
    have hb : Below v12.heap.size v12 (v12.alloc (.cells mv 59)) := b!
    have OV := h! (HOV.out v12 W.heap.size HS.out.bl.size)
    have OT := h! (own_below3 OT.out hb)
    have OI := h! (own_below3 OI.out hb)
    have HS := h! (HS.out.below hb)
    clear hb
    refine hK.out _ _ trivial (fun hHeld => ?_)
    clear hK
    try simp only [Act.put, qq]
    generalize v12.alloc (.cells mv 59) = v13 at OT OI OV HS ⊢
    generalize v12.heap.size = gV at OV ⊢
    obtain ⟨⟨_, _, _, _, _⟩, z0, z1, z2, z3, z4⟩ := HS.out.br.five
    clear hmv hmt
    refine qT 4 ?_
    try simp only [Act.put, qq]
    refine qR 5 fun K hK => ?_
    go_simp
    refine hK.out _ _ trivial (fun hHeld2 => ?_)
    clear hK
    try simp only [Act.put, qq]
    refine qT 6 ?_
    try simp only [Act.put, qq]
    refine wpAnyH_done (by kernel_rfl) ?_ _
    go_wp2_with fail
    have hres := res5 HS.out.br (.slice A5 ms.length c5) (.slice (some ⟨gV, 0, none⟩) 6 6) (.slice (some ⟨gT, 0, none⟩) 6 6) (.slice none 0 0) (.slice none 0 0)
    obtain ⟨⟨s0, s1, s2, s3, s4⟩, _⟩ := hres.1.five
    have hown : WOwn v13 W.heap.size (.agg #[.slice A5 ms.length c5, .slice (some ⟨gV, 0, none⟩) 6 6, .slice (some ⟨gT, 0, none⟩) 6 6, .slice none 0 0, .slice none 0 0]) (DC.start ms) :=
     ⟨A5, c5, some ⟨gV, 0, none⟩, 6, some ⟨gT, 0, none⟩, 6, none, 0, none, 0, _, rfl, OI.out, OV.out, OT.out, ts0 _ _, World.ownsRow_nil _ _ _ _, World.ownsRow_nil _ _ _ _⟩
    exact bodyPost_ret (v := .tuple #[.agg #[.slice A5 ms.length c5, .slice (some ⟨gV, 0, none⟩) 6 6, .slice (some ⟨gT, 0, none⟩) 6 6, .slice none 0 0, .slice none 0 0], .int .i64 0]) (by simp [results, Tryz.results17, go_sem, s0, s1, s2, s3, s4]) rfl ⟨_, rfl, hres.2.2 _ _ HS.out.bl HS.out.hr, .inr ⟨rfl, hown.kept hres.2.1⟩⟩
  ·go_simp
   have hb : Below v11.heap.size v11 (v11.alloc (.cells mv 59)) := b!
   have OV := h! (HOV.out v11 W.heap.size HS.out.bl.size)
   have OT := h! (own_below3 OT.out hb)
   have HS := h! (HS.out.below hb)
   clear hb
   refine hK.out _ _ trivial (fun hHeld => ?_)
   clear hK
   try simp only [Act.put, qq]
   generalize v11.alloc (.cells mv 59) = v14 at OT OV HS ⊢
   generalize v11.heap.size = gV at OV ⊢
   refine qR 1 fun K hK => ?_
   ·refine step_append_h rfl (.const (.slice none 0 0)) (.tmp 11) 22 rfl v14.heap.size 3 i0 (.int .i64 0) 1 8 Tryz.underlying22 hi hz0 hz1 hz2 rfl (by omega) (.slice none 0 0) 0 [] (by simp [Act.eval, Act.put]) (World.ownsRow_nil _ _ _ _) A ms.length c (ic ms) (by simp [Act.eval, Act.put]) (HC2.out _ HS.out.bl) (ic_one _) (by unfold maxLen; omega) (by omega) n! ?_
    intro va v15 oa ga hob
    simp only [Nat.zero_add, List.nil_append] at oa
    obtain ⟨A5, c5, rfl, _, _⟩ := own_form oa
    have hb : Below v14.heap.size v14 v15 := below_of_grown ga (by intro g h; cases h)
    have OI := h! (own_base oa HS.out.bl.size)
    have OT := h! (own_below3 OT.out hb)
    have OV := h! (own_below3 OV.out hb)
    have HS := h! (HS.out.below hb)
    clear oa ga hob hb
    refine hK.out _ _ trivial (fun hHeld => ?_)
    clear hK
    try simp only [Act.put, qq]
    obtain ⟨⟨_, _, _, _, _⟩, z0, z1, z2, z3, z4⟩ := HS.out.br.five
    clear hmv hmt
    refine qT 4 ?_
    try simp only [Act.put, qq]
    refine qR 5 fun K hK => ?_
    go_simp
    refine hK.out _ _ trivial (fun hHeld2 => ?_)
    clear hK
    try simp only [Act.put, qq]
    refine qT 6 ?_
    try simp only [Act.put, qq]
    refine wpAnyH_done (by kernel_rfl) ?_ _
    go_wp2_with fail
    have hres := res5 HS.out.br (.slice A5 ms.length c5) (.slice (some ⟨gV, 0, none⟩) 6 6) (.slice (some ⟨gT, 0, none⟩) 6 6) (.slice none 0 0) (.slice none 0 0)
    obtain ⟨⟨s0, s1, s2, s3, s4⟩, _⟩ := hres.1.five
    have hown : WOwn v15 W.heap.size (.agg #[.slice A5 ms.length c5, .slice (some ⟨gV, 0, none⟩) 6 6, .slice (some ⟨gT, 0, none⟩) 6 6, .slice none 0 0, .slice none 0 0]) (DC.start ms) :=
     ⟨A5, c5, some ⟨gV, 0, none⟩, 6, some ⟨gT, 0, none⟩, 6, none, 0, none, 0, _, rfl, OI.out, OV.out, OT.out, ts0 _ _, World.ownsRow_nil _ _ _ _, World.ownsRow_nil _ _ _ _⟩
    exact bodyPost_ret (v := .tuple #[.agg #[.slice A5 ms.length c5, .slice (some ⟨gV, 0, none⟩) 6 6, .slice (some ⟨gT, 0, none⟩) 6 6, .slice none 0 0, .slice none 0 0], .int .i64 0]) (by simp [results, Tryz.results17, go_sem, s0, s1, s2, s3, s4]) rfl ⟨_, rfl, hres.2.2 _ _ HS.out.bl HS.out.hr, .inr ⟨rfl, hown.kept hres.2.1⟩⟩
end Go.Proofs.YtiiobafcgdelmaaGreat.PD
