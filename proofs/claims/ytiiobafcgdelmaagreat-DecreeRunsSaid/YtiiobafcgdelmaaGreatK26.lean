/- Contracts of functions of towncrier, layers 5 to 9, and of the document's own ones, part 26; each as its theorem says. -/
import Derived.Test.YtiiobafcgdelmaaGreatK01
import Derived.Test.YtiiobafcgdelmaaGreatK25
set_option linter.unusedVariables false
set_option linter.unusedSimpArgs false
namespace Go.Proofs.YtiiobafcgdelmaaGreat.PD
open Go.RowKit Go.Shelf
theorem vt0_cells : (madeCells (Value.agg #[.int .i64 0, .int .i64 0, .string ⟨#[]⟩]).cells (6 * 3)).toList = flat vcell (List.replicate 6 DC.vt0) := by unfold madeCells; rw [Array.toList_map, Array.toList_range]; rfl
def at0 : Value := .agg #[.int .u8 0, .int .i64 0, .slice none 0 0, .string ⟨#[]⟩, .string ⟨#[]⟩, .slice none 0 0, .slice none 0 0]
theorem at0_cells : (madeCells at0.cells (6 * 7)).toList = flat tcell (List.replicate 6 at0) := by unfold madeCells; rw [Array.toList_map, Array.toList_range]; rfl
theorem makes : ∃ mv mt : Array Value, (∀ W, (Instr.makeSlice 23 (.int .i64 6) (.int .i64 6)).run Tryz.prog W = .ok (.slice (some ⟨W.heap.size, 0, none⟩) 6 6) (W.alloc (.cells mv 59))) ∧
  (∀ W, (Instr.makeSlice 24 (.int .i64 6) (.int .i64 6)).run Tryz.prog W = .ok (.slice (some ⟨W.heap.size, 0, none⟩) 6 6) (W.alloc (.cells mt 57))) ∧
  (∀ (W : World) (base : Nat), base ≤ W.heap.size → (W.alloc (.cells mv 59)).ownsRow base 59 3 (.slice (some ⟨W.heap.size, 0, none⟩) 6 6) 6 (flat vcell (List.replicate 6 DC.vt0))) ∧
  (∀ (W : World) (base : Nat), base ≤ W.heap.size → (W.alloc (.cells mt 57)).ownsRow base 57 7 (.slice (some ⟨W.heap.size, 0, none⟩) 6 6) 6 (flat tcell (List.replicate 6 at0))) := by
 obtain ⟨i0, hi, hz0, hz1, hz2⟩ := info_parts info_vt
 obtain ⟨i1, hj, hy0, hy1, hy2⟩ := info_parts info_try
 refine ⟨_, _, fun W => run_make (P := Tryz.prog) W _ _ i0 _ Tryz.underlying23 hi hz0 .i64 .i64 6 6 (by omega) (by omega) (by rw [hz2]; omega) (by omega), fun W => run_make (P := Tryz.prog) W _ _ i1 _ Tryz.underlying24 hj hy0 .i64 .i64 6 6 (by omega) (by omega) (by rw [hy2]; omega) (by omega), fun W base hb => ?_, fun W base hb => ?_⟩
 ·have := World.ownsRow_lit (e := 59) (size := 3) W (madeCells (Value.agg #[.int .i64 0, .int .i64 0, .string ⟨#[]⟩]).cells (6 * 3)) 6 hb (by unfold maxLen; omega) (size_madeCells _ _)
  rw [vt0_cells] at this
  rw [hz1]
  exact this
 ·have := World.ownsRow_lit (e := 57) (size := 7) W (madeCells at0.cells (6 * 7)) 6 hb (by unfold maxLen; omega) (size_madeCells _ _)
  rw [at0_cells] at this
  rw [hy1]
  exact this
theorem ts0 (W : World) (base : Nat) : TsRow W base (flat tcell (List.replicate 6 at0)) (List.replicate 6 AM.zero) := by
 refine ⟨List.replicate 6 at0, rfl, rfl, fun i t ht => ?_⟩
 have h1 := List.eq_of_mem_replicate (List.mem_of_getElem? ht)
 have h2 : i < 6 := by have := (List.getElem?_eq_some_iff.1 ht).1; simpa using this
 subst h1
 exact ⟨at0, by rw [List.getElem?_replicate, if_pos h2], AtOwn.zero W base⟩
def NewRet (ms : List Int) (y : Int) (W : World) (e : Ending) (W' : World) : Prop :=
 ∃ v, e = .returned (.tuple #[v, .int .i64 y]) ∧ Below W.heap.size W W' ∧ ((y ≠ 0 ∧ v = zeroW) ∨ (y = 0 ∧ WOwn W' W.heap.size v (DC.start ms)))
structure NwSt (W U : World) (gr : Nat) : Prop where
 br : Box U gr 28 #[.slice none 0 0, .slice none 0 0, .slice none 0 0, .slice none 0 0, .slice none 0 0]
 bl : Below W.heap.size W U
 hr : W.heap.size ≤ gr
theorem NwSt.below {W U U' : World} {gr : Nat} (h : NwSt W U gr) (hb : Below U.heap.size U U') : NwSt W U' gr := ⟨h.br.below hb h.br.lt, bmore h.bl hb n!, h.hr⟩
set_option maxRecDepth 100000 in
set_option maxHeartbeats 8000000 in
theorem wnew_any (A : Option Addr) (n c : Nat) (ms : List Int) (y : Int) (W : World) (hr : Rd W A n (ic ms)) (hm : n ≤ 9223372036854775807) (hy : QM.ChkIs ms y) :
  Calls Tryz.prog 16 #[.slice A n c] W (NewRet ms y W) := by
 have HQ := h! (fun (U : World) (hU : Below W.heap.size W U) => qcheck_any A n c ms y U (hr.below hU) hm hy)
 have hl : ms.length = n := by have := hr.1; rwa [ic_length] at this
 have HC := h! (fun (hn : n ≤ 2000) (U : World) (hU : Below W.heap.size W U) => cloneI_any A n c (ic ms) U (hr.below hU).g (ic_one _) hn)
 obtain ⟨mv, mt, hmv, hmt, ov, ot⟩ := makes
 have HOV := h! ov
 have HOT := h! ot
 obtain ⟨U0, hU0⟩ : ∃ U0, U0 = W.alloc (.cells #[.slice none 0 0, .slice none 0 0, .slice none 0 0, .slice none 0 0, .slice none 0 0] 28) := ⟨_, rfl⟩
 have hs0 : NwSt W U0 W.heap.size := by rw [hU0]; exact ⟨Box.new _ _ _, (Below.refl _ _).alloc n! _, Nat.le_refl _⟩
 have HS0 := h! hs0
 have mixed : Tryz.prog.follows Departure.mixedOrders = true := by kernel_rfl
 clear hs0 hr ov ot
 by_cases h0 : y = 0
 rotate_left
 ·have e0 : (y != 0) = true := by simpa using h0
  have HN := h! h0
  clear h0 hy HC HOV HOT hmv hmt
  go_enter Tryz.func16, Tryz.ntmps16
  go_wp2_with fail
  rw [← hU0]
  refine (HQ.out _ HS0.out.bl).mono ?_
  rintro e w1 ⟨rfl, rfl⟩
  obtain ⟨⟨_, _, _, _, _⟩, z0, z1, z2, z3, z4⟩ := HS0.out.br.five
  clear hU0 HQ
  go_wp2_with fail
  have hres := res5 HS0.out.br (.slice none 0 0) (.slice none 0 0) (.slice none 0 0) (.slice none 0 0) (.slice none 0 0)
  obtain ⟨⟨s0, s1, s2, s3, s4⟩, _⟩ := hres.1.five
  exact bodyPost_ret (v := .tuple #[.agg #[.slice none 0 0, .slice none 0 0, .slice none 0 0, .slice none 0 0, .slice none 0 0], .int .i64 y]) (by simp [results, Tryz.results16, go_sem, s0, s1, s2, s3, s4]) rfl ⟨_, rfl, hres.2.2 _ _ HS0.out.bl HS0.out.hr, .inl ⟨HN.out, rfl⟩⟩
 subst h0
 have hmay : QM.may ms = true := by rcases QM.chkIs_cases hy with ⟨_, h⟩ | ⟨_, h⟩; (· exact h); (· omega)
 have hn6 : n ≤ 2000 := by have := (QM.may_len hmay).2.1; omega
 have HC2 := h! (HC.out hn6)
 clear hy HC hmay hn6 hm
 subst hl
 go_enter Tryz.func16, Tryz.ntmps16
 go_wp2_with fail
 rw [← hU0]
 refine (HQ.out _ HS0.out.bl).mono ?_
 rintro e w1 ⟨rfl, rfl⟩
 clear hU0 HQ
 go_upto_region 4 with (fail)
 generalize hgr : W.heap.size = gr at HS0 ⊢
 subst hgr
 obtain ⟨u, hu⟩ : ∃ u, u = U0.drew := ⟨_, rfl⟩
 have HS := h! (show NwSt W u W.heap.size by rw [hu]; exact HS0.out.below ((Below.refl _ _).drew))
 clear HS0
 refine wp_region_held_drew (S := fun _ => True) (by kernel_rfl) trivial (fun hHeld => ?_)
 rw [← hu]
 clear hu
 refine qT 0 ?_
 try simp only [Act.put, qq]
 refine wpAnyH_ready (rs := [1, 2, 3]) (by kernel_rfl) (by simp) ?_
 refine AllReadyH.cons rfl (fun K hK => ?_) (AllReadyH.cons rfl (fun K hK => ?_) (AllReadyH.cons rfl (fun K hK => ?_) AllReadyH.nil))
 ·go_simp
  refine (HC2.out _ HS.out.bl).mono ?_
  rintro e v1 ⟨A5, c5, rfl, hown, hb⟩
  have OI := h! (own_base hown HS.out.bl.size)
  have HS := h! (HS.out.below hb)
  clear hown hb
  refine hK.out _ _ trivial (fun hHeld => ?_)
  clear hK
  try simp only [Act.put, qq]
  refine wpAnyH_ready (rs := [2, 3]) (by kernel_rfl) (by simp) ?_
  refine AllReadyH.cons rfl (fun K hK => ?_) (AllReadyH.cons rfl (fun K hK => ?_) AllReadyH.nil)
  ·go_simp
   have hb : Below v1.heap.size v1 (v1.alloc (.cells mv 59)) := b!
   have OV := h! (HOV.out v1 W.heap.size HS.out.bl.size)
   have OI := h! (own_below3 OI.out hb)
   have HS := h! (HS.out.below hb)
   clear hb
   refine hK.out _ _ trivial (fun hHeld => ?_)
   clear hK
   try simp only [Act.put, qq]
   generalize v1.alloc (.cells mv 59) = v2 at OI OV HS ⊢
   generalize v1.heap.size = gV at OV ⊢
   refine qR 3 fun K hK => ?_
   ·go_simp
    have hb : Below v2.heap.size v2 (v2.alloc (.cells mt 57)) := b!
    have OT := h! (HOT.out v2 W.heap.size HS.out.bl.size)
    have OI := h! (own_below3 OI.out hb)
    have OV := h! (own_below3 OV.out hb)
    have HS := h! (HS.out.below hb)
    clear hb
    refine hK.out _ _ trivial (fun hHeld => ?_)
    clear hK
    try simp only [Act.put, qq]
    generalize v2.alloc (.cells mt 57) = v3 at OI OV OT HS ⊢
    generalize v2.heap.size = gT at OT ⊢
    obtain ⟨⟨_, _, _, _, _⟩, z0, z1, z2, z3, z4⟩ := HS.out.br.five
    clear hmv hmt
    refine qT 4 ?_
    try simp only [Act.put, qq]
    refine qR 5 fun K hK => ?_
    go_simp
    refine hK.out _ _ trivial (fun hHeld2 => ?_)
    clear hK
    try simp only [Act.put, qq]
    refine qT 6 ?_
    try simp only [Act.put, qq]
    refine wpAnyH_done (by kernel_rfl) ?_ _
    go_wp2_with fail
    have hres := res5 HS.out.br (.slice A5 ms.length c5) (.slice (some ⟨gV, 0, none⟩) 6 6) (.slice (some ⟨gT, 0, none⟩) 6 6) (.slice none 0 0) (.slice none 0 0)
    obtain ⟨⟨s0, s1, s2, s3, s4⟩, _⟩ := hres.1.five
    have hown : WOwn v3 W.heap.size (.agg #[.slice A5 ms.length c5, .slice (some ⟨gV, 0, none⟩) 6 6, .slice (some ⟨gT, 0, none⟩) 6 6, .slice none 0 0, .slice none 0 0]) (DC.start ms) :=
     ⟨A5, c5, some ⟨gV, 0, none⟩, 6, some ⟨gT, 0, none⟩, 6, none, 0, none, 0, _, rfl, OI.out, OV.out, OT.out, ts0 _ _, World.ownsRow_nil _ _ _ _, World.ownsRow_nil _ _ _ _⟩
    exact bodyPost_ret (v := .tuple #[.agg #[.slice A5 ms.length c5, .slice (some ⟨gV, 0, none⟩) 6 6, .slice (some ⟨gT, 0, none⟩) 6 6, .slice none 0 0, .slice none 0 0], .int .i64 0]) (by simp [results, Tryz.results16, go_sem, s0, s1, s2, s3, s4]) rfl ⟨_, rfl, hres.2.2 _ _ HS.out.bl HS.out.hr, .inr ⟨rfl, hown.kept hres.2.1⟩⟩
  ·go_simp
   have hb : Below v1.heap.size v1 (v1.alloc (.cells mt 57)) := b!
   have OT := h! (HOT.out v1 W.heap.size HS.out.bl.size)
   have OI := h! (own_below3 OI.out hb)
   have HS := h! (HS.out.below hb)
   clear hb
   refine hK.out _ _ trivial (fun hHeld => ?_)
   clear hK
   try simp only [Act.put, qq]
   generalize v1.alloc (.cells mt 57) = v4 at OI OT HS ⊢
   generalize v1.heap.size = gT at OT ⊢
   refine qR 2 fun K hK => ?_
   ·go_simp
    have hb : Below v4.heap.size v4 (v4.alloc (.cells mv 59)) := b!
    have OV := h! (HOV.out v4 W.heap.size HS.out.bl.size)
    have OI := h! (own_below3 OI.out hb)
    have OT := h! (own_below3 OT.out hb)
    have HS := h! (HS.out.below hb)
    clear hb
    refine hK.out _ _ trivial (fun hHeld => ?_)
    clear hK
    try simp only [Act.put, qq]
    generalize v4.alloc (.cells mv 59) = v5 at OI OT OV HS ⊢
    generalize v4.heap.size = gV at OV ⊢
    obtain ⟨⟨_, _, _, _, _⟩, z0, z1, z2, z3, z4⟩ := HS.out.br.five
    clear hmv hmt
    refine qT 4 ?_
    try simp only [Act.put, qq]
    refine qR 5 fun K hK => ?_
    go_simp
    refine hK.out _ _ trivial (fun hHeld2 => ?_)
    clear hK
    try simp only [Act.put, qq]
    refine qT 6 ?_
    try simp only [Act.put, qq]
    refine wpAnyH_done (by kernel_rfl) ?_ _
    go_wp2_with fail
    have hres := res5 HS.out.br (.slice A5 ms.length c5) (.slice (some ⟨gV, 0, none⟩) 6 6) (.slice (some ⟨gT, 0, none⟩) 6 6) (.slice none 0 0) (.slice none 0 0)
    obtain ⟨⟨s0, s1, s2, s3, s4⟩, _⟩ := hres.1.five
    have hown : WOwn v5 W.heap.size (.agg #[.slice A5 ms.length c5, .slice (some ⟨gV, 0, none⟩) 6 6, .slice (some ⟨gT, 0, none⟩) 6 6, .slice none 0 0, .slice none 0 0]) (DC.start ms) :=
     ⟨A5, c5, some ⟨gV, 0, none⟩, 6, some ⟨gT, 0, none⟩, 6, none, 0, none, 0, _, rfl, OI.out, OV.out, OT.out, ts0 _ _, World.ownsRow_nil _ _ _ _, World.ownsRow_nil _ _ _ _⟩
    exact bodyPost_ret (v := .tuple #[.agg #[.slice A5 ms.length c5, .slice (some ⟨gV, 0, none⟩) 6 6, .slice (some ⟨gT, 0, none⟩) 6 6, .slice none 0 0, .slice none 0 0], .int .i64 0]) (by simp [results, Tryz.results16, go_sem, s0, s1, s2, s3, s4]) rfl ⟨_, rfl, hres.2.2 _ _ HS.out.bl HS.out.hr, .inr ⟨rfl, hown.kept hres.2.1⟩⟩
 ·go_simp
  have hb : Below u.heap.size u (u.alloc (.cells mv 59)) := b!
  have OV := h! (HOV.out u W.heap.size HS.out.bl.size)
  have HS := h! (HS.out.below hb)
  clear hb
  refine hK.out _ _ trivial (fun hHeld => ?_)
  clear hK
  try simp only [Act.put, qq]
  generalize u.alloc (.cells mv 59) = v6 at OV HS ⊢
  generalize u.heap.size = gV at OV ⊢
  refine wpAnyH_ready (rs := [1, 3]) (by kernel_rfl) (by simp) ?_
  refine AllReadyH.cons rfl (fun K hK => ?_) (AllReadyH.cons rfl (fun K hK => ?_) AllReadyH.nil)
  ·go_simp
   refine (HC2.out _ HS.out.bl).mono ?_
   rintro e v7 ⟨A5, c5, rfl, hown, hb⟩
   have OI := h! (own_base hown HS.out.bl.size)
   have OV := h! (own_below3 OV.out hb)
   have HS := h! (HS.out.below hb)
   clear hown hb
   refine hK.out _ _ trivial (fun hHeld => ?_)
   clear hK
   try simp only [Act.put, qq]
   refine qR 3 fun K hK => ?_
   ·go_simp
    have hb : Below v7.heap.size v7 (v7.alloc (.cells mt 57)) := b!
    have OT := h! (HOT.out v7 W.heap.size HS.out.bl.size)
    have OV := h! (own_below3 OV.out hb)
    have OI := h! (own_below3 OI.out hb)
    have HS := h! (HS.out.below hb)
    clear hb
    refine hK.out _ _ trivial (fun hHeld => ?_)
    clear hK
    try simp only [Act.put, qq]
    generalize v7.alloc (.cells mt 57) = v8 at OV OI OT HS ⊢
    generalize v7.heap.size = gT at OT ⊢
    obtain ⟨⟨_, _, _, _, _⟩, z0, z1, z2, z3, z4⟩ := HS.out.br.five
    clear hmv hmt
    refine qT 4 ?_
    try simp only [Act.put, qq]
    refine qR 5 fun K hK => ?_
    go_simp
    refine hK.out _ _ trivial (fun hHeld2 => ?_)
    clear hK
    try simp only [Act.put, qq]
    refine qT 6 ?_
    try simp only [Act.put, qq]
    refine wpAnyH_done (by kernel_rfl) ?_ _
    go_wp2_with fail
    have hres := res5 HS.out.br (.slice A5 ms.length c5) (.slice (some ⟨gV, 0, none⟩) 6 6) (.slice (some ⟨gT, 0, none⟩) 6 6) (.slice none 0 0) (.slice none 0 0)
    obtain ⟨⟨s0, s1, s2, s3, s4⟩, _⟩ := hres.1.five
    have hown : WOwn v8 W.heap.size (.agg #[.slice A5 ms.length c5, .slice (some ⟨gV, 0, none⟩) 6 6, .slice (some ⟨gT, 0, none⟩) 6 6, .slice none 0 0, .slice none 0 0]) (DC.start ms) :=
     ⟨A5, c5, some ⟨gV, 0, none⟩, 6, some ⟨gT, 0, none⟩, 6, none, 0, none, 0, _, rfl, OI.out, OV.out, OT.out, ts0 _ _, World.ownsRow_nil _ _ _ _, World.ownsRow_nil _ _ _ _⟩
    exact bodyPost_ret (v := .tuple #[.agg #[.slice A5 ms.length c5, .slice (some ⟨gV, 0, none⟩) 6 6, .slice (some ⟨gT, 0, none⟩) 6 6, .slice none 0 0, .slice none 0 0], .int .i64 0]) (by simp [results, Tryz.results16, go_sem, s0, s1, s2, s3, s4]) rfl ⟨_, rfl, hres.2.2 _ _ HS.out.bl HS.out.hr, .inr ⟨rfl, hown.kept hres.2.1⟩⟩
  ·go_simp
   have hb : Below v6.heap.size v6 (v6.alloc (.cells mt 57)) := b!
   have OT := h! (HOT.out v6 W.heap.size HS.out.bl.size)
   have OV := h! (own_below3 OV.out hb)
   have HS := h! (HS.out.below hb)
   clear hb
   refine hK.out _ _ trivial (fun hHeld => ?_)
   clear hK
   try simp only [Act.put, qq]
   generalize v6.alloc (.cells mt 57) = v9 at OV OT HS ⊢
   generalize v6.heap.size = gT at OT ⊢
   refine qR 1 fun K hK => ?_
   ·go_simp
    refine (HC2.out _ HS.out.bl).mono ?_
    rintro e v10 ⟨A5, c5, rfl, hown, hb⟩
    have OI := h! (own_base hown HS.out.bl.size)
    have OV := h! (own_below3 OV.out hb)
    have OT := h! (own_below3 OT.out hb)
    have HS := h! (HS.out.below hb)
    clear hown hb
    refine hK.out _ _ trivial (fun hHeld => ?_)
    clear hK
    try simp only [Act.put, qq]
    obtain ⟨⟨_, _, _, _, _⟩, z0, z1, z2, z3, z4⟩ := HS.out.br.five
    clear hmv hmt
    refine qT 4 ?_
    try simp only [Act.put, qq]
    refine qR 5 fun K hK => ?_
    go_simp
    refine hK.out _ _ trivial (fun hHeld2 => ?_)
    clear hK
    try simp only [Act.put, qq]
    refine qT 6 ?_
    try simp only [Act.put, qq]
    refine wpAnyH_done (by kernel_rfl) ?_ _
    go_wp2_with fail
    have hres := res5 HS.out.br (.slice A5 ms.length c5) (.slice (some ⟨gV, 0, none⟩) 6 6) (.slice (some ⟨gT, 0, none⟩) 6 6) (.slice none 0 0) (.slice none 0 0)
    obtain ⟨⟨s0, s1, s2, s3, s4⟩, _⟩ := hres.1.five
    have hown : WOwn v10 W.heap.size (.agg #[.slice A5 ms.length c5, .slice (some ⟨gV, 0, none⟩) 6 6, .slice (some ⟨gT, 0, none⟩) 6 6, .slice none 0 0, .slice none 0 0]) (DC.start ms) :=
     ⟨A5, c5, some ⟨gV, 0, none⟩, 6, some ⟨gT, 0, none⟩, 6, none, 0, none, 0, _, rfl, OI.out, OV.out, OT.out, ts0 _ _, World.ownsRow_nil _ _ _ _, World.ownsRow_nil _ _ _ _⟩
    exact bodyPost_ret (v := .tuple #[.agg #[.slice A5 ms.length c5, .slice (some ⟨gV, 0, none⟩) 6 6, .slice (some ⟨gT, 0, none⟩) 6 6, .slice none 0 0, .slice none 0 0], .int .i64 0]) (by simp [results, Tryz.results16, go_sem, s0, s1, s2, s3, s4]) rfl ⟨_, rfl, hres.2.2 _ _ HS.out.bl HS.out.hr, .inr ⟨rfl, hown.kept hres.2.1⟩⟩
 ·go_simp
  have hb : Below u.heap.size u (u.alloc (.cells mt 57)) := b!
  have OT := h! (HOT.out u W.heap.size HS.out.bl.size)
  have HS := h! (HS.out.below hb)
  clear hb
  refine hK.out _ _ trivial (fun hHeld => ?_)
  clear hK
  try simp only [Act.put, qq]
  generalize u.alloc (.cells mt 57) = v11 at OT HS ⊢
  generalize u.heap.size = gT at OT ⊢
  refine wpAnyH_ready (rs := [1, 2]) (by kernel_rfl) (by simp) ?_
  refine AllReadyH.cons rfl (fun K hK => ?_) (AllReadyH.cons rfl (fun K hK => ?_) AllReadyH.nil)
  ·go_simp
   refine (HC2.out _ HS.out.bl).mono ?_
   rintro e v12 ⟨A5, c5, rfl, hown, hb⟩
   have OI := h! (own_base hown HS.out.bl.size)
   have OT := h! (own_below3 OT.out hb)
   have HS := h! (HS.out.below hb)
   clear hown hb
   refine hK.out _ _ trivial (fun hHeld => ?_)
   clear hK
   try simp only [Act.put, qq]
   refine qR 2 fun K hK => ?_
   ·go_simp
    have hb : Below v12.heap.size v12 (v12.alloc (.cells mv 59)) := b!
    have OV := h! (HOV.out v12 W.heap.size HS.out.bl.size)
    have OT := h! (own_below3 OT.out hb)
    have OI := h! (own_below3 OI.out hb)
    have HS := h! (HS.out.below hb)
    clear hb
    refine hK.out _ _ trivial (fun hHeld => ?_)
    clear hK
    try simp only [Act.put, qq]
    generalize v12.alloc (.cells mv 59) = v13 at OT OI OV HS ⊢
    generalize v12.heap.size = gV at OV ⊢
    obtain ⟨⟨_, _, _, _, _⟩, z0, z1, z2, z3, z4⟩ := HS.out.br.five
    clear hmv hmt
    refine qT 4 ?_
    try simp only [Act.put, qq]
    refine qR 5 fun K hK => ?_
    go_simp
    refine hK.out _ _ trivial (fun hHeld2 => ?_)
    clear hK
    try simp only [Act.put, qq]
    refine qT 6 ?_
    try simp only [Act.put, qq]
    refine wpAnyH_done (by kernel_rfl) ?_ _
    go_wp2_with fail
    have hres := res5 HS.out.br (.slice A5 ms.length c5) (.slice (some ⟨gV, 0, none⟩) 6 6) (.slice (some ⟨gT, 0, none⟩) 6 6) (.slice none 0 0) (.slice none 0 0)
    obtain ⟨⟨s0, s1, s2, s3, s4⟩, _⟩ := hres.1.five
    have hown : WOwn v13 W.heap.size (.agg #[.slice A5 ms.length c5, .slice (some ⟨gV, 0, none⟩) 6 6, .slice (some ⟨gT, 0, none⟩) 6 6, .slice none 0 0, .slice none 0 0]) (DC.start ms) :=
     ⟨A5, c5, some ⟨gV, 0, none⟩, 6, some ⟨gT, 0, none⟩, 6, none, 0, none, 0, _, rfl, OI.out, OV.out, OT.out, ts0 _ _, World.ownsRow_nil _ _ _ _, World.ownsRow_nil _ _ _ _⟩
    exact bodyPost_ret (v := .tuple #[.agg #[.slice A5 ms.length c5, .slice (some ⟨gV, 0, none⟩) 6 6, .slice (some ⟨gT, 0, none⟩) 6 6, .slice none 0 0, .slice none 0 0], .int .i64 0]) (by simp [results, Tryz.results16, go_sem, s0, s1, s2, s3, s4]) rfl ⟨_, rfl, hres.2.2 _ _ HS.out.bl HS.out.hr, .inr ⟨rfl, hown.kept hres.2.1⟩⟩
  ·go_simp
   have hb : Below v11.heap.size v11 (v11.alloc (.cells mv 59)) := b!
   have OV := h! (HOV.out v11 W.heap.size HS.out.bl.size)
   have OT := h! (own_below3 OT.out hb)
   have HS := h! (HS.out.below hb)
   clear hb
   refine hK.out _ _ trivial (fun hHeld => ?_)
   clear hK
   try simp only [Act.put, qq]
   generalize v11.alloc (.cells mv 59) = v14 at OT OV HS ⊢
   generalize v11.heap.size = gV at OV ⊢
   refine qR 1 fun K hK => ?_
   ·go_simp
    refine (HC2.out _ HS.out.bl).mono ?_
    rintro e v15 ⟨A5, c5, rfl, hown, hb⟩
    have OI := h! (own_base hown HS.out.bl.size)
    have OT := h! (own_below3 OT.out hb)
    have OV := h! (own_below3 OV.out hb)
    have HS := h! (HS.out.below hb)
    clear hown hb
    refine hK.out _ _ trivial (fun hHeld => ?_)
    clear hK
    try simp only [Act.put, qq]
    obtain ⟨⟨_, _, _, _, _⟩, z0, z1, z2, z3, z4⟩ := HS.out.br.five
    clear hmv hmt
    refine qT 4 ?_
    try simp only [Act.put, qq]
    refine qR 5 fun K hK => ?_
    go_simp
    refine hK.out _ _ trivial (fun hHeld2 => ?_)
    clear hK
    try simp only [Act.put, qq]
    refine qT 6 ?_
    try simp only [Act.put, qq]
    refine wpAnyH_done (by kernel_rfl) ?_ _
    go_wp2_with fail
    have hres := res5 HS.out.br (.slice A5 ms.length c5) (.slice (some ⟨gV, 0, none⟩) 6 6) (.slice (some ⟨gT, 0, none⟩) 6 6) (.slice none 0 0) (.slice none 0 0)
    obtain ⟨⟨s0, s1, s2, s3, s4⟩, _⟩ := hres.1.five
    have hown : WOwn v15 W.heap.size (.agg #[.slice A5 ms.length c5, .slice (some ⟨gV, 0, none⟩) 6 6, .slice (some ⟨gT, 0, none⟩) 6 6, .slice none 0 0, .slice none 0 0]) (DC.start ms) :=
     ⟨A5, c5, some ⟨gV, 0, none⟩, 6, some ⟨gT, 0, none⟩, 6, none, 0, none, 0, _, rfl, OI.out, OV.out, OT.out, ts0 _ _, World.ownsRow_nil _ _ _ _, World.ownsRow_nil _ _ _ _⟩
    exact bodyPost_ret (v := .tuple #[.agg #[.slice A5 ms.length c5, .slice (some ⟨gV, 0, none⟩) 6 6, .slice (some ⟨gT, 0, none⟩) 6 6, .slice none 0 0, .slice none 0 0], .int .i64 0]) (by simp [results, Tryz.results16, go_sem, s0, s1, s2, s3, s4]) rfl ⟨_, rfl, hres.2.2 _ _ HS.out.bl HS.out.hr, .inr ⟨rfl, hown.kept hres.2.1⟩⟩
end Go.Proofs.YtiiobafcgdelmaaGreat.PD
