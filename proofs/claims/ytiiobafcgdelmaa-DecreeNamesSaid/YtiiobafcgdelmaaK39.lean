/-
  Package decree's New: a world at its beginning. Conditions: lengths fit in an int.
-/
import Derived.Test.YtiiobafcgdelmaaK38
namespace Go.Proofs.Ytiiobafcgdelmaa.PD
open Go.RowKit Go.Shelf
set_option linter.unusedVariables false
set_option linter.unusedSimpArgs false

theorem vt0_cells : (madeCells (Value.agg #[.int .i64 0, .int .i64 0, .string ⟨#[]⟩]).cells (6 * 3)).toList = flat vcell (List.replicate 6 DC.vt0) := by unfold madeCells; rw [Array.toList_map, Array.toList_range]; rfl
def at0 : Value := .agg #[.int .u8 0, .int .i64 0, .slice none 0 0, .string ⟨#[]⟩, .string ⟨#[]⟩, .slice none 0 0, .slice none 0 0]
theorem at0_cells : (madeCells at0.cells (6 * 7)).toList = flat tcell (List.replicate 6 at0) := by unfold madeCells; rw [Array.toList_map, Array.toList_range]; rfl
theorem mk_votes (U : World) (base : Nat) (hb : base ≤ U.heap.size) : ∃ mk : Array Value, (∀ W, (Instr.makeSlice 23 (.int .i64 6) (.int .i64 6)).run Try.prog W = .ok (.slice (some ⟨W.heap.size, 0, none⟩) 6 6) (W.alloc (.cells mk 53))) := by
  obtain ⟨i0, hi, hz0, hz1, hz2⟩ := info_parts info_vt
  exact ⟨_, fun W => run_make (P := Try.prog) W _ _ i0 _ Try.underlying23 hi hz0 .i64 .i64 6 6 (by omega) (by omega) (by rw [hz2]; omega) (by omega)⟩
/-- six zero votes, six zero attempts -/
theorem makes : ∃ mv mt : Array Value, (∀ W, (Instr.makeSlice 23 (.int .i64 6) (.int .i64 6)).run Try.prog W = .ok (.slice (some ⟨W.heap.size, 0, none⟩) 6 6) (W.alloc (.cells mv 53))) ∧
    (∀ W, (Instr.makeSlice 24 (.int .i64 6) (.int .i64 6)).run Try.prog W = .ok (.slice (some ⟨W.heap.size, 0, none⟩) 6 6) (W.alloc (.cells mt 49))) ∧
    (∀ (W : World) (base : Nat), base ≤ W.heap.size → (W.alloc (.cells mv 53)).ownsRow base 53 3 (.slice (some ⟨W.heap.size, 0, none⟩) 6 6) 6 (flat vcell (List.replicate 6 DC.vt0))) ∧
    (∀ (W : World) (base : Nat), base ≤ W.heap.size → (W.alloc (.cells mt 49)).ownsRow base 49 7 (.slice (some ⟨W.heap.size, 0, none⟩) 6 6) 6 (flat tcell (List.replicate 6 at0))) := by
  obtain ⟨i0, hi, hz0, hz1, hz2⟩ := info_parts info_vt
  obtain ⟨i1, hj, hy0, hy1, hy2⟩ := info_parts info_try
  refine ⟨_, _, fun W => run_make (P := Try.prog) W _ _ i0 _ Try.underlying23 hi hz0 .i64 .i64 6 6 (by omega) (by omega) (by rw [hz2]; omega) (by omega), fun W => run_make (P := Try.prog) W _ _ i1 _ Try.underlying24 hj hy0 .i64 .i64 6 6 (by omega) (by omega) (by rw [hy2]; omega) (by omega), fun W base hb => ?_, fun W base hb => ?_⟩
  · have := World.ownsRow_lit (e := 53) (size := 3) W (madeCells (Value.agg #[.int .i64 0, .int .i64 0, .string ⟨#[]⟩]).cells (6 * 3)) 6 hb (by unfold maxLen; omega) (size_madeCells _ _)
    rw [vt0_cells] at this
    rw [hz1]
    exact this
  · have := World.ownsRow_lit (e := 49) (size := 7) W (madeCells at0.cells (6 * 7)) 6 hb (by unfold maxLen; omega) (size_madeCells _ _)
    rw [at0_cells] at this
    rw [hy1]
    exact this
theorem ts0 (W : World) (base : Nat) : TsRow W base (flat tcell (List.replicate 6 at0)) (List.replicate 6 AM.zero) := by
  refine ⟨List.replicate 6 at0, rfl, rfl, fun i t ht => ?_⟩
  have h1 := List.eq_of_mem_replicate (List.mem_of_getElem? ht)
  have h2 : i < 6 := by have := (List.getElem?_eq_some_iff.1 ht).1; simpa using this
  subst h1
  exact ⟨at0, by rw [List.getElem?_replicate, if_pos h2], AtOwn.zero W base⟩
/-- what New answers -/
def NewRet (ms : List Int) (y : Int) (W : World) (e : Ending) (W' : World) : Prop :=
  ∃ v, e = .returned (.tuple #[v, .int .i64 y]) ∧ Below W.heap.size W W' ∧ ((y ≠ 0 ∧ v = zeroW) ∨ (y = 0 ∧ WOwn W' W.heap.size v (DC.start ms)))
/-- where New stands: the answer's block, and what is made -/
structure NwSt (W U : World) (gr : Nat) : Prop where
  br : Box U gr 28 #[.slice none 0 0, .slice none 0 0, .slice none 0 0, .slice none 0 0, .slice none 0 0]
  bl : Below W.heap.size W U
  hr : W.heap.size ≤ gr
theorem NwSt.below {W U U' : World} {gr : Nat} (h : NwSt W U gr) (hb : Below U.heap.size U U') : NwSt W U' gr := ⟨h.br.below hb h.br.lt, bmore h.bl hb (Nat.le_refl _), h.hr⟩
set_option maxRecDepth 100000 in
set_option maxHeartbeats 8000000 in
theorem wnew_any (A : Option Addr) (n c : Nat) (ms : List Int) (y : Int) (W : World) (hr : Rd W A n (ic ms)) (hm : n ≤ 9223372036854775807) (hy : QM.ChkIs ms y) :
    Calls Try.prog 7 #[.slice A n c] W (NewRet ms y W) := by
  have HQ := Lib.hid (fun (U : World) (hU : Below W.heap.size W U) => qcheck_any A n c ms y U (hr.below hU) hm hy)
  have hl : ms.length = n := by have := hr.1; rwa [ic_length] at this
  have HC := Lib.hid (fun (hn : n ≤ 2000) (U : World) (hU : Below W.heap.size W U) => cloneI_any A n c (ic ms) U (hr.below hU).g (ic_one _) hn)
  obtain ⟨mv, mt, hmv, hmt, ov, ot⟩ := makes
  have HOV := Lib.hid ov
  have HOT := Lib.hid ot
  obtain ⟨U0, hU0⟩ : ∃ U0, U0 = W.alloc (.cells #[.slice none 0 0, .slice none 0 0, .slice none 0 0, .slice none 0 0, .slice none 0 0] 28) := ⟨_, rfl⟩
  have hs0 : NwSt W U0 W.heap.size := by rw [hU0]; exact ⟨Box.new _ _ _, (Below.refl _ _).alloc (Nat.le_refl _) _, Nat.le_refl _⟩
  have HS0 := Lib.hid hs0
  have mixed : Try.prog.follows Departure.mixedOrders = true := by kernel_rfl
  clear hs0 hr ov ot
  by_cases h0 : y = 0
  rotate_left
  · have e0 : (y != 0) = true := by simpa using h0
    have HN := Lib.hid h0
    clear h0 hy HC HOV HOT hmv hmt
    go_enter Try.func7, Try.ntmps7
    go_wp2_with fail
    rw [← hU0]
    refine (HQ.out _ HS0.out.bl).mono ?_
    rintro e w1 ⟨rfl, rfl⟩
    obtain ⟨⟨_, _, _, _, _⟩, z0, z1, z2, z3, z4⟩ := HS0.out.br.five
    clear hU0 HQ
    go_wp2_with fail
    have hres := res5 HS0.out.br (.slice none 0 0) (.slice none 0 0) (.slice none 0 0) (.slice none 0 0) (.slice none 0 0)
    obtain ⟨⟨s0, s1, s2, s3, s4⟩, _⟩ := hres.1.five
    exact bodyPost_ret (v := .tuple #[.agg #[.slice none 0 0, .slice none 0 0, .slice none 0 0, .slice none 0 0, .slice none 0 0], .int .i64 y]) (by simp [results, Try.results7, go_sem, s0, s1, s2, s3, s4]) rfl ⟨_, rfl, hres.2.2 _ _ HS0.out.bl HS0.out.hr, .inl ⟨HN.out, rfl⟩⟩
  subst h0
  have hmay : QM.may ms = true := by rcases QM.chkIs_cases hy with ⟨_, h⟩ | ⟨_, h⟩; (· exact h); (· omega)
  have hn6 : n ≤ 2000 := by have := (QM.may_len hmay).2.1; omega
  have HC2 := Lib.hid (HC.out hn6)
  clear hy HC hmay hn6 hm
  subst hl
  go_enter Try.func7, Try.ntmps7
  go_wp2_with fail
  rw [← hU0]
  refine (HQ.out _ HS0.out.bl).mono ?_
  rintro e w1 ⟨rfl, rfl⟩
  clear hU0 HQ
  go_upto_region 4 with (fail)
  generalize hgr : W.heap.size = gr at HS0 ⊢
  subst hgr
  obtain ⟨u, hu⟩ : ∃ u, u = U0.drew := ⟨_, rfl⟩
  have HS := Lib.hid (show NwSt W u W.heap.size by rw [hu]; exact HS0.out.below ((Below.refl _ _).drew))
  clear HS0
  refine wp_region_held_drew (S := fun _ => True) (by kernel_rfl) trivial (fun hHeld => ?_)
  rw [← hu]
  clear hu
  refine wpAnyH_take (i := 0) (v := ?_) rfl (by kernel_rfl) (by kernel_rfl) (by kernel_rfl) (fun _ _ _ h => h) (Or.inl ⟨by rfl, ?_⟩) (by assumption) ?_
  rotate_left
  · intro w' hSw
    (try dsimp only at hSw)
    go_simp
    all_goals (with_reducible rfl)
  try simp only [Act.put, List.setIfInBounds_toArray, List.set_cons_zero, List.set_cons_succ, List.getElem_toArray, List.getElem_cons_zero, List.getElem_cons_succ]
  refine wpAnyH_ready (rs := [1, 2, 3]) (by kernel_rfl) (by simp) ?_
  refine AllReadyH.cons rfl (fun K hK => ?_) (AllReadyH.cons rfl (fun K hK => ?_) (AllReadyH.cons rfl (fun K hK => ?_) AllReadyH.nil))
  · go_simp
    refine (HC2.out _ HS.out.bl).mono ?_
    rintro e v1 ⟨A5, c5, rfl, hown, hb⟩
    have OI := Lib.hid (own_base hown HS.out.bl.size)
    have HS := Lib.hid (HS.out.below hb)
    clear hown hb
    refine hK.out _ _ trivial (fun hHeld => ?_)
    clear hK
    try simp only [Act.put, List.setIfInBounds_toArray, List.set_cons_zero, List.set_cons_succ, List.getElem_toArray, List.getElem_cons_zero, List.getElem_cons_succ]
    refine wpAnyH_ready (rs := [2, 3]) (by kernel_rfl) (by simp) ?_
    refine AllReadyH.cons rfl (fun K hK => ?_) (AllReadyH.cons rfl (fun K hK => ?_) AllReadyH.nil)
    · go_simp
      have hb : Below v1.heap.size v1 (v1.alloc (.cells mv 53)) := (Below.refl _ _).alloc (Nat.le_refl _) _
      have OV := Lib.hid (HOV.out v1 W.heap.size HS.out.bl.size)
      have OI := Lib.hid (own_below3 OI.out hb)
      have HS := Lib.hid (HS.out.below hb)
      clear hb
      refine hK.out _ _ trivial (fun hHeld => ?_)
      clear hK
      try simp only [Act.put, List.setIfInBounds_toArray, List.set_cons_zero, List.set_cons_succ, List.getElem_toArray, List.getElem_cons_zero, List.getElem_cons_succ]
      generalize v1.alloc (.cells mv 53) = v2 at OI OV HS ⊢
      generalize v1.heap.size = gV at OV ⊢
      refine wpAnyH_ready (rs := [3]) (by kernel_rfl) (by simp) ?_
      refine AllReadyH.cons rfl (fun K hK => ?_) AllReadyH.nil
      · go_simp
        have hb : Below v2.heap.size v2 (v2.alloc (.cells mt 49)) := (Below.refl _ _).alloc (Nat.le_refl _) _
        have OT := Lib.hid (HOT.out v2 W.heap.size HS.out.bl.size)
        have OI := Lib.hid (own_below3 OI.out hb)
        have OV := Lib.hid (own_below3 OV.out hb)
        have HS := Lib.hid (HS.out.below hb)
        clear hb
        refine hK.out _ _ trivial (fun hHeld => ?_)
        clear hK
        try simp only [Act.put, List.setIfInBounds_toArray, List.set_cons_zero, List.set_cons_succ, List.getElem_toArray, List.getElem_cons_zero, List.getElem_cons_succ]
        generalize v2.alloc (.cells mt 49) = v3 at OI OV OT HS ⊢
        generalize v2.heap.size = gT at OT ⊢
        obtain ⟨⟨_, _, _, _, _⟩, z0, z1, z2, z3, z4⟩ := HS.out.br.five
        clear hmv hmt
        refine wpAnyH_take (i := 4) (v := ?_) rfl (by kernel_rfl) (by kernel_rfl) (by kernel_rfl) (fun _ _ _ h => h) (Or.inl ⟨by rfl, ?_⟩) (by assumption) ?_
        rotate_left
        · intro w' hSw
          (try dsimp only at hSw)
          go_simp
          all_goals (with_reducible rfl)
        try simp only [Act.put, List.setIfInBounds_toArray, List.set_cons_zero, List.set_cons_succ, List.getElem_toArray, List.getElem_cons_zero, List.getElem_cons_succ]
        refine wpAnyH_ready (rs := [5]) (by kernel_rfl) (by simp) ?_
        refine AllReadyH.cons rfl (fun K hK => ?_) AllReadyH.nil
        go_simp
        refine hK.out _ _ trivial (fun hHeld2 => ?_)
        clear hK
        try simp only [Act.put, List.setIfInBounds_toArray, List.set_cons_zero, List.set_cons_succ, List.getElem_toArray, List.getElem_cons_zero, List.getElem_cons_succ]
        refine wpAnyH_take (i := 6) (v := ?_) rfl (by kernel_rfl) (by kernel_rfl) (by kernel_rfl) (fun _ _ _ h => h) (Or.inl ⟨by rfl, ?_⟩) (by assumption) ?_
        rotate_left
        · intro w' hSw
          (try dsimp only at hSw)
          go_simp
          all_goals (with_reducible rfl)
        try simp only [Act.put, List.setIfInBounds_toArray, List.set_cons_zero, List.set_cons_succ, List.getElem_toArray, List.getElem_cons_zero, List.getElem_cons_succ]
        refine wpAnyH_done (by kernel_rfl) ?_ _
        go_wp2_with fail
        have hres := res5 HS.out.br (.slice A5 ms.length c5) (.slice (some ⟨gV, 0, none⟩) 6 6) (.slice (some ⟨gT, 0, none⟩) 6 6) (.slice none 0 0) (.slice none 0 0)
        obtain ⟨⟨s0, s1, s2, s3, s4⟩, _⟩ := hres.1.five
        have hown : WOwn v3 W.heap.size (.agg #[.slice A5 ms.length c5, .slice (some ⟨gV, 0, none⟩) 6 6, .slice (some ⟨gT, 0, none⟩) 6 6, .slice none 0 0, .slice none 0 0]) (DC.start ms) :=
          ⟨A5, c5, some ⟨gV, 0, none⟩, 6, some ⟨gT, 0, none⟩, 6, none, 0, none, 0, _, rfl, OI.out, OV.out, OT.out, ts0 _ _, World.ownsRow_nil _ _ _ _, World.ownsRow_nil _ _ _ _⟩
        exact bodyPost_ret (v := .tuple #[.agg #[.slice A5 ms.length c5, .slice (some ⟨gV, 0, none⟩) 6 6, .slice (some ⟨gT, 0, none⟩) 6 6, .slice none 0 0, .slice none 0 0], .int .i64 0]) (by simp [results, Try.results7, go_sem, s0, s1, s2, s3, s4]) rfl ⟨_, rfl, hres.2.2 _ _ HS.out.bl HS.out.hr, .inr ⟨rfl, hown.kept hres.2.1⟩⟩
    · go_simp
      have hb : Below v1.heap.size v1 (v1.alloc (.cells mt 49)) := (Below.refl _ _).alloc (Nat.le_refl _) _
      have OT := Lib.hid (HOT.out v1 W.heap.size HS.out.bl.size)
      have OI := Lib.hid (own_below3 OI.out hb)
      have HS := Lib.hid (HS.out.below hb)
      clear hb
      refine hK.out _ _ trivial (fun hHeld => ?_)
      clear hK
      try simp only [Act.put, List.setIfInBounds_toArray, List.set_cons_zero, List.set_cons_succ, List.getElem_toArray, List.getElem_cons_zero, List.getElem_cons_succ]
      generalize v1.alloc (.cells mt 49) = v4 at OI OT HS ⊢
      generalize v1.heap.size = gT at OT ⊢
      refine wpAnyH_ready (rs := [2]) (by kernel_rfl) (by simp) ?_
      refine AllReadyH.cons rfl (fun K hK => ?_) AllReadyH.nil
      · go_simp
        have hb : Below v4.heap.size v4 (v4.alloc (.cells mv 53)) := (Below.refl _ _).alloc (Nat.le_refl _) _
        have OV := Lib.hid (HOV.out v4 W.heap.size HS.out.bl.size)
        have OI := Lib.hid (own_below3 OI.out hb)
        have OT := Lib.hid (own_below3 OT.out hb)
        have HS := Lib.hid (HS.out.below hb)
        clear hb
        refine hK.out _ _ trivial (fun hHeld => ?_)
        clear hK
        try simp only [Act.put, List.setIfInBounds_toArray, List.set_cons_zero, List.set_cons_succ, List.getElem_toArray, List.getElem_cons_zero, List.getElem_cons_succ]
        generalize v4.alloc (.cells mv 53) = v5 at OI OT OV HS ⊢
        generalize v4.heap.size = gV at OV ⊢
        obtain ⟨⟨_, _, _, _, _⟩, z0, z1, z2, z3, z4⟩ := HS.out.br.five
        clear hmv hmt
        refine wpAnyH_take (i := 4) (v := ?_) rfl (by kernel_rfl) (by kernel_rfl) (by kernel_rfl) (fun _ _ _ h => h) (Or.inl ⟨by rfl, ?_⟩) (by assumption) ?_
        rotate_left
        · intro w' hSw
          (try dsimp only at hSw)
          go_simp
          all_goals (with_reducible rfl)
        try simp only [Act.put, List.setIfInBounds_toArray, List.set_cons_zero, List.set_cons_succ, List.getElem_toArray, List.getElem_cons_zero, List.getElem_cons_succ]
        refine wpAnyH_ready (rs := [5]) (by kernel_rfl) (by simp) ?_
        refine AllReadyH.cons rfl (fun K hK => ?_) AllReadyH.nil
        go_simp
        refine hK.out _ _ trivial (fun hHeld2 => ?_)
        clear hK
        try simp only [Act.put, List.setIfInBounds_toArray, List.set_cons_zero, List.set_cons_succ, List.getElem_toArray, List.getElem_cons_zero, List.getElem_cons_succ]
        refine wpAnyH_take (i := 6) (v := ?_) rfl (by kernel_rfl) (by kernel_rfl) (by kernel_rfl) (fun _ _ _ h => h) (Or.inl ⟨by rfl, ?_⟩) (by assumption) ?_
        rotate_left
        · intro w' hSw
          (try dsimp only at hSw)
          go_simp
          all_goals (with_reducible rfl)
        try simp only [Act.put, List.setIfInBounds_toArray, List.set_cons_zero, List.set_cons_succ, List.getElem_toArray, List.getElem_cons_zero, List.getElem_cons_succ]
        refine wpAnyH_done (by kernel_rfl) ?_ _
        go_wp2_with fail
        have hres := res5 HS.out.br (.slice A5 ms.length c5) (.slice (some ⟨gV, 0, none⟩) 6 6) (.slice (some ⟨gT, 0, none⟩) 6 6) (.slice none 0 0) (.slice none 0 0)
        obtain ⟨⟨s0, s1, s2, s3, s4⟩, _⟩ := hres.1.five
        have hown : WOwn v5 W.heap.size (.agg #[.slice A5 ms.length c5, .slice (some ⟨gV, 0, none⟩) 6 6, .slice (some ⟨gT, 0, none⟩) 6 6, .slice none 0 0, .slice none 0 0]) (DC.start ms) :=
          ⟨A5, c5, some ⟨gV, 0, none⟩, 6, some ⟨gT, 0, none⟩, 6, none, 0, none, 0, _, rfl, OI.out, OV.out, OT.out, ts0 _ _, World.ownsRow_nil _ _ _ _, World.ownsRow_nil _ _ _ _⟩
        exact bodyPost_ret (v := .tuple #[.agg #[.slice A5 ms.length c5, .slice (some ⟨gV, 0, none⟩) 6 6, .slice (some ⟨gT, 0, none⟩) 6 6, .slice none 0 0, .slice none 0 0], .int .i64 0]) (by simp [results, Try.results7, go_sem, s0, s1, s2, s3, s4]) rfl ⟨_, rfl, hres.2.2 _ _ HS.out.bl HS.out.hr, .inr ⟨rfl, hown.kept hres.2.1⟩⟩
  · go_simp
    have hb : Below u.heap.size u (u.alloc (.cells mv 53)) := (Below.refl _ _).alloc (Nat.le_refl _) _
    have OV := Lib.hid (HOV.out u W.heap.size HS.out.bl.size)
    have HS := Lib.hid (HS.out.below hb)
    clear hb
    refine hK.out _ _ trivial (fun hHeld => ?_)
    clear hK
    try simp only [Act.put, List.setIfInBounds_toArray, List.set_cons_zero, List.set_cons_succ, List.getElem_toArray, List.getElem_cons_zero, List.getElem_cons_succ]
    generalize u.alloc (.cells mv 53) = v6 at OV HS ⊢
    generalize u.heap.size = gV at OV ⊢
    refine wpAnyH_ready (rs := [1, 3]) (by kernel_rfl) (by simp) ?_
    refine AllReadyH.cons rfl (fun K hK => ?_) (AllReadyH.cons rfl (fun K hK => ?_) AllReadyH.nil)
    · go_simp
      refine (HC2.out _ HS.out.bl).mono ?_
      rintro e v7 ⟨A5, c5, rfl, hown, hb⟩
      have OI := Lib.hid (own_base hown HS.out.bl.size)
      have OV := Lib.hid (own_below3 OV.out hb)
      have HS := Lib.hid (HS.out.below hb)
      clear hown hb
      refine hK.out _ _ trivial (fun hHeld => ?_)
      clear hK
      try simp only [Act.put, List.setIfInBounds_toArray, List.set_cons_zero, List.set_cons_succ, List.getElem_toArray, List.getElem_cons_zero, List.getElem_cons_succ]
      refine wpAnyH_ready (rs := [3]) (by kernel_rfl) (by simp) ?_
      refine AllReadyH.cons rfl (fun K hK => ?_) AllReadyH.nil
      · go_simp
        have hb : Below v7.heap.size v7 (v7.alloc (.cells mt 49)) := (Below.refl _ _).alloc (Nat.le_refl _) _
        have OT := Lib.hid (HOT.out v7 W.heap.size HS.out.bl.size)
        have OV := Lib.hid (own_below3 OV.out hb)
        have OI := Lib.hid (own_below3 OI.out hb)
        have HS := Lib.hid (HS.out.below hb)
        clear hb
        refine hK.out _ _ trivial (fun hHeld => ?_)
        clear hK
        try simp only [Act.put, List.setIfInBounds_toArray, List.set_cons_zero, List.set_cons_succ, List.getElem_toArray, List.getElem_cons_zero, List.getElem_cons_succ]
        generalize v7.alloc (.cells mt 49) = v8 at OV OI OT HS ⊢
        generalize v7.heap.size = gT at OT ⊢
        obtain ⟨⟨_, _, _, _, _⟩, z0, z1, z2, z3, z4⟩ := HS.out.br.five
        clear hmv hmt
        refine wpAnyH_take (i := 4) (v := ?_) rfl (by kernel_rfl) (by kernel_rfl) (by kernel_rfl) (fun _ _ _ h => h) (Or.inl ⟨by rfl, ?_⟩) (by assumption) ?_
        rotate_left
        · intro w' hSw
          (try dsimp only at hSw)
          go_simp
          all_goals (with_reducible rfl)
        try simp only [Act.put, List.setIfInBounds_toArray, List.set_cons_zero, List.set_cons_succ, List.getElem_toArray, List.getElem_cons_zero, List.getElem_cons_succ]
        refine wpAnyH_ready (rs := [5]) (by kernel_rfl) (by simp) ?_
        refine AllReadyH.cons rfl (fun K hK => ?_) AllReadyH.nil
        go_simp
        refine hK.out _ _ trivial (fun hHeld2 => ?_)
        clear hK
        try simp only [Act.put, List.setIfInBounds_toArray, List.set_cons_zero, List.set_cons_succ, List.getElem_toArray, List.getElem_cons_zero, List.getElem_cons_succ]
        refine wpAnyH_take (i := 6) (v := ?_) rfl (by kernel_rfl) (by kernel_rfl) (by kernel_rfl) (fun _ _ _ h => h) (Or.inl ⟨by rfl, ?_⟩) (by assumption) ?_
        rotate_left
        · intro w' hSw
          (try dsimp only at hSw)
          go_simp
          all_goals (with_reducible rfl)
        try simp only [Act.put, List.setIfInBounds_toArray, List.set_cons_zero, List.set_cons_succ, List.getElem_toArray, List.getElem_cons_zero, List.getElem_cons_succ]
        refine wpAnyH_done (by kernel_rfl) ?_ _
        go_wp2_with fail
        have hres := res5 HS.out.br (.slice A5 ms.length c5) (.slice (some ⟨gV, 0, none⟩) 6 6) (.slice (some ⟨gT, 0, none⟩) 6 6) (.slice none 0 0) (.slice none 0 0)
        obtain ⟨⟨s0, s1, s2, s3, s4⟩, _⟩ := hres.1.five
        have hown : WOwn v8 W.heap.size (.agg #[.slice A5 ms.length c5, .slice (some ⟨gV, 0, none⟩) 6 6, .slice (some ⟨gT, 0, none⟩) 6 6, .slice none 0 0, .slice none 0 0]) (DC.start ms) :=
          ⟨A5, c5, some ⟨gV, 0, none⟩, 6, some ⟨gT, 0, none⟩, 6, none, 0, none, 0, _, rfl, OI.out, OV.out, OT.out, ts0 _ _, World.ownsRow_nil _ _ _ _, World.ownsRow_nil _ _ _ _⟩
        exact bodyPost_ret (v := .tuple #[.agg #[.slice A5 ms.length c5, .slice (some ⟨gV, 0, none⟩) 6 6, .slice (some ⟨gT, 0, none⟩) 6 6, .slice none 0 0, .slice none 0 0], .int .i64 0]) (by simp [results, Try.results7, go_sem, s0, s1, s2, s3, s4]) rfl ⟨_, rfl, hres.2.2 _ _ HS.out.bl HS.out.hr, .inr ⟨rfl, hown.kept hres.2.1⟩⟩
    · go_simp
      have hb : Below v6.heap.size v6 (v6.alloc (.cells mt 49)) := (Below.refl _ _).alloc (Nat.le_refl _) _
      have OT := Lib.hid (HOT.out v6 W.heap.size HS.out.bl.size)
      have OV := Lib.hid (own_below3 OV.out hb)
      have HS := Lib.hid (HS.out.below hb)
      clear hb
      refine hK.out _ _ trivial (fun hHeld => ?_)
      clear hK
      try simp only [Act.put, List.setIfInBounds_toArray, List.set_cons_zero, List.set_cons_succ, List.getElem_toArray, List.getElem_cons_zero, List.getElem_cons_succ]
      generalize v6.alloc (.cells mt 49) = v9 at OV OT HS ⊢
      generalize v6.heap.size = gT at OT ⊢
      refine wpAnyH_ready (rs := [1]) (by kernel_rfl) (by simp) ?_
      refine AllReadyH.cons rfl (fun K hK => ?_) AllReadyH.nil
      · go_simp
        refine (HC2.out _ HS.out.bl).mono ?_
        rintro e v10 ⟨A5, c5, rfl, hown, hb⟩
        have OI := Lib.hid (own_base hown HS.out.bl.size)
        have OV := Lib.hid (own_below3 OV.out hb)
        have OT := Lib.hid (own_below3 OT.out hb)
        have HS := Lib.hid (HS.out.below hb)
        clear hown hb
        refine hK.out _ _ trivial (fun hHeld => ?_)
        clear hK
        try simp only [Act.put, List.setIfInBounds_toArray, List.set_cons_zero, List.set_cons_succ, List.getElem_toArray, List.getElem_cons_zero, List.getElem_cons_succ]
        obtain ⟨⟨_, _, _, _, _⟩, z0, z1, z2, z3, z4⟩ := HS.out.br.five
        clear hmv hmt
        refine wpAnyH_take (i := 4) (v := ?_) rfl (by kernel_rfl) (by kernel_rfl) (by kernel_rfl) (fun _ _ _ h => h) (Or.inl ⟨by rfl, ?_⟩) (by assumption) ?_
        rotate_left
        · intro w' hSw
          (try dsimp only at hSw)
          go_simp
          all_goals (with_reducible rfl)
        try simp only [Act.put, List.setIfInBounds_toArray, List.set_cons_zero, List.set_cons_succ, List.getElem_toArray, List.getElem_cons_zero, List.getElem_cons_succ]
        refine wpAnyH_ready (rs := [5]) (by kernel_rfl) (by simp) ?_
        refine AllReadyH.cons rfl (fun K hK => ?_) AllReadyH.nil
        go_simp
        refine hK.out _ _ trivial (fun hHeld2 => ?_)
        clear hK
        try simp only [Act.put, List.setIfInBounds_toArray, List.set_cons_zero, List.set_cons_succ, List.getElem_toArray, List.getElem_cons_zero, List.getElem_cons_succ]
        refine wpAnyH_take (i := 6) (v := ?_) rfl (by kernel_rfl) (by kernel_rfl) (by kernel_rfl) (fun _ _ _ h => h) (Or.inl ⟨by rfl, ?_⟩) (by assumption) ?_
        rotate_left
        · intro w' hSw
          (try dsimp only at hSw)
          go_simp
          all_goals (with_reducible rfl)
        try simp only [Act.put, List.setIfInBounds_toArray, List.set_cons_zero, List.set_cons_succ, List.getElem_toArray, List.getElem_cons_zero, List.getElem_cons_succ]
        refine wpAnyH_done (by kernel_rfl) ?_ _
        go_wp2_with fail
        have hres := res5 HS.out.br (.slice A5 ms.length c5) (.slice (some ⟨gV, 0, none⟩) 6 6) (.slice (some ⟨gT, 0, none⟩) 6 6) (.slice none 0 0) (.slice none 0 0)
        obtain ⟨⟨s0, s1, s2, s3, s4⟩, _⟩ := hres.1.five
        have hown : WOwn v10 W.heap.size (.agg #[.slice A5 ms.length c5, .slice (some ⟨gV, 0, none⟩) 6 6, .slice (some ⟨gT, 0, none⟩) 6 6, .slice none 0 0, .slice none 0 0]) (DC.start ms) :=
          ⟨A5, c5, some ⟨gV, 0, none⟩, 6, some ⟨gT, 0, none⟩, 6, none, 0, none, 0, _, rfl, OI.out, OV.out, OT.out, ts0 _ _, World.ownsRow_nil _ _ _ _, World.ownsRow_nil _ _ _ _⟩
        exact bodyPost_ret (v := .tuple #[.agg #[.slice A5 ms.length c5, .slice (some ⟨gV, 0, none⟩) 6 6, .slice (some ⟨gT, 0, none⟩) 6 6, .slice none 0 0, .slice none 0 0], .int .i64 0]) (by simp [results, Try.results7, go_sem, s0, s1, s2, s3, s4]) rfl ⟨_, rfl, hres.2.2 _ _ HS.out.bl HS.out.hr, .inr ⟨rfl, hown.kept hres.2.1⟩⟩
  · go_simp
    have hb : Below u.heap.size u (u.alloc (.cells mt 49)) := (Below.refl _ _).alloc (Nat.le_refl _) _
    have OT := Lib.hid (HOT.out u W.heap.size HS.out.bl.size)
    have HS := Lib.hid (HS.out.below hb)
    clear hb
    refine hK.out _ _ trivial (fun hHeld => ?_)
    clear hK
    try simp only [Act.put, List.setIfInBounds_toArray, List.set_cons_zero, List.set_cons_succ, List.getElem_toArray, List.getElem_cons_zero, List.getElem_cons_succ]
    generalize u.alloc (.cells mt 49) = v11 at OT HS ⊢
    generalize u.heap.size = gT at OT ⊢
    refine wpAnyH_ready (rs := [1, 2]) (by kernel_rfl) (by simp) ?_
    refine AllReadyH.cons rfl (fun K hK => ?_) (AllReadyH.cons rfl (fun K hK => ?_) AllReadyH.nil)
    · go_simp
      refine (HC2.out _ HS.out.bl).mono ?_
      rintro e v12 ⟨A5, c5, rfl, hown, hb⟩
      have OI := Lib.hid (own_base hown HS.out.bl.size)
      have OT := Lib.hid (own_below3 OT.out hb)
      have HS := Lib.hid (HS.out.below hb)
      clear hown hb
      refine hK.out _ _ trivial (fun hHeld => ?_)
      clear hK
      try simp only [Act.put, List.setIfInBounds_toArray, List.set_cons_zero, List.set_cons_succ, List.getElem_toArray, List.getElem_cons_zero, List.getElem_cons_succ]
      refine wpAnyH_ready (rs := [2]) (by kernel_rfl) (by simp) ?_
      refine AllReadyH.cons rfl (fun K hK => ?_) AllReadyH.nil
      · go_simp
        have hb : Below v12.heap.size v12 (v12.alloc (.cells mv 53)) := (Below.refl _ _).alloc (Nat.le_refl _) _
        have OV := Lib.hid (HOV.out v12 W.heap.size HS.out.bl.size)
        have OT := Lib.hid (own_below3 OT.out hb)
        have OI := Lib.hid (own_below3 OI.out hb)
        have HS := Lib.hid (HS.out.below hb)
        clear hb
        refine hK.out _ _ trivial (fun hHeld => ?_)
        clear hK
        try simp only [Act.put, List.setIfInBounds_toArray, List.set_cons_zero, List.set_cons_succ, List.getElem_toArray, List.getElem_cons_zero, List.getElem_cons_succ]
        generalize v12.alloc (.cells mv 53) = v13 at OT OI OV HS ⊢
        generalize v12.heap.size = gV at OV ⊢
        obtain ⟨⟨_, _, _, _, _⟩, z0, z1, z2, z3, z4⟩ := HS.out.br.five
        clear hmv hmt
        refine wpAnyH_take (i := 4) (v := ?_) rfl (by kernel_rfl) (by kernel_rfl) (by kernel_rfl) (fun _ _ _ h => h) (Or.inl ⟨by rfl, ?_⟩) (by assumption) ?_
        rotate_left
        · intro w' hSw
          (try dsimp only at hSw)
          go_simp
          all_goals (with_reducible rfl)
        try simp only [Act.put, List.setIfInBounds_toArray, List.set_cons_zero, List.set_cons_succ, List.getElem_toArray, List.getElem_cons_zero, List.getElem_cons_succ]
        refine wpAnyH_ready (rs := [5]) (by kernel_rfl) (by simp) ?_
        refine AllReadyH.cons rfl (fun K hK => ?_) AllReadyH.nil
        go_simp
        refine hK.out _ _ trivial (fun hHeld2 => ?_)
        clear hK
        try simp only [Act.put, List.setIfInBounds_toArray, List.set_cons_zero, List.set_cons_succ, List.getElem_toArray, List.getElem_cons_zero, List.getElem_cons_succ]
        refine wpAnyH_take (i := 6) (v := ?_) rfl (by kernel_rfl) (by kernel_rfl) (by kernel_rfl) (fun _ _ _ h => h) (Or.inl ⟨by rfl, ?_⟩) (by assumption) ?_
        rotate_left
        · intro w' hSw
          (try dsimp only at hSw)
          go_simp
          all_goals (with_reducible rfl)
        try simp only [Act.put, List.setIfInBounds_toArray, List.set_cons_zero, List.set_cons_succ, List.getElem_toArray, List.getElem_cons_zero, List.getElem_cons_succ]
        refine wpAnyH_done (by kernel_rfl) ?_ _
        go_wp2_with fail
        have hres := res5 HS.out.br (.slice A5 ms.length c5) (.slice (some ⟨gV, 0, none⟩) 6 6) (.slice (some ⟨gT, 0, none⟩) 6 6) (.slice none 0 0) (.slice none 0 0)
        obtain ⟨⟨s0, s1, s2, s3, s4⟩, _⟩ := hres.1.five
        have hown : WOwn v13 W.heap.size (.agg #[.slice A5 ms.length c5, .slice (some ⟨gV, 0, none⟩) 6 6, .slice (some ⟨gT, 0, none⟩) 6 6, .slice none 0 0, .slice none 0 0]) (DC.start ms) :=
          ⟨A5, c5, some ⟨gV, 0, none⟩, 6, some ⟨gT, 0, none⟩, 6, none, 0, none, 0, _, rfl, OI.out, OV.out, OT.out, ts0 _ _, World.ownsRow_nil _ _ _ _, World.ownsRow_nil _ _ _ _⟩
        exact bodyPost_ret (v := .tuple #[.agg #[.slice A5 ms.length c5, .slice (some ⟨gV, 0, none⟩) 6 6, .slice (some ⟨gT, 0, none⟩) 6 6, .slice none 0 0, .slice none 0 0], .int .i64 0]) (by simp [results, Try.results7, go_sem, s0, s1, s2, s3, s4]) rfl ⟨_, rfl, hres.2.2 _ _ HS.out.bl HS.out.hr, .inr ⟨rfl, hown.kept hres.2.1⟩⟩
    · go_simp
      have hb : Below v11.heap.size v11 (v11.alloc (.cells mv 53)) := (Below.refl _ _).alloc (Nat.le_refl _) _
      have OV := Lib.hid (HOV.out v11 W.heap.size HS.out.bl.size)
      have OT := Lib.hid (own_below3 OT.out hb)
      have HS := Lib.hid (HS.out.below hb)
      clear hb
      refine hK.out _ _ trivial (fun hHeld => ?_)
      clear hK
      try simp only [Act.put, List.setIfInBounds_toArray, List.set_cons_zero, List.set_cons_succ, List.getElem_toArray, List.getElem_cons_zero, List.getElem_cons_succ]
      generalize v11.alloc (.cells mv 53) = v14 at OT OV HS ⊢
      generalize v11.heap.size = gV at OV ⊢
      refine wpAnyH_ready (rs := [1]) (by kernel_rfl) (by simp) ?_
      refine AllReadyH.cons rfl (fun K hK => ?_) AllReadyH.nil
      · go_simp
        refine (HC2.out _ HS.out.bl).mono ?_
        rintro e v15 ⟨A5, c5, rfl, hown, hb⟩
        have OI := Lib.hid (own_base hown HS.out.bl.size)
        have OT := Lib.hid (own_below3 OT.out hb)
        have OV := Lib.hid (own_below3 OV.out hb)
        have HS := Lib.hid (HS.out.below hb)
        clear hown hb
        refine hK.out _ _ trivial (fun hHeld => ?_)
        clear hK
        try simp only [Act.put, List.setIfInBounds_toArray, List.set_cons_zero, List.set_cons_succ, List.getElem_toArray, List.getElem_cons_zero, List.getElem_cons_succ]
        obtain ⟨⟨_, _, _, _, _⟩, z0, z1, z2, z3, z4⟩ := HS.out.br.five
        clear hmv hmt
        refine wpAnyH_take (i := 4) (v := ?_) rfl (by kernel_rfl) (by kernel_rfl) (by kernel_rfl) (fun _ _ _ h => h) (Or.inl ⟨by rfl, ?_⟩) (by assumption) ?_
        rotate_left
        · intro w' hSw
          (try dsimp only at hSw)
          go_simp
          all_goals (with_reducible rfl)
        try simp only [Act.put, List.setIfInBounds_toArray, List.set_cons_zero, List.set_cons_succ, List.getElem_toArray, List.getElem_cons_zero, List.getElem_cons_succ]
        refine wpAnyH_ready (rs := [5]) (by kernel_rfl) (by simp) ?_
        refine AllReadyH.cons rfl (fun K hK => ?_) AllReadyH.nil
        go_simp
        refine hK.out _ _ trivial (fun hHeld2 => ?_)
        clear hK
        try simp only [Act.put, List.setIfInBounds_toArray, List.set_cons_zero, List.set_cons_succ, List.getElem_toArray, List.getElem_cons_zero, List.getElem_cons_succ]
        refine wpAnyH_take (i := 6) (v := ?_) rfl (by kernel_rfl) (by kernel_rfl) (by kernel_rfl) (fun _ _ _ h => h) (Or.inl ⟨by rfl, ?_⟩) (by assumption) ?_
        rotate_left
        · intro w' hSw
          (try dsimp only at hSw)
          go_simp
          all_goals (with_reducible rfl)
        try simp only [Act.put, List.setIfInBounds_toArray, List.set_cons_zero, List.set_cons_succ, List.getElem_toArray, List.getElem_cons_zero, List.getElem_cons_succ]
        refine wpAnyH_done (by kernel_rfl) ?_ _
        go_wp2_with fail
        have hres := res5 HS.out.br (.slice A5 ms.length c5) (.slice (some ⟨gV, 0, none⟩) 6 6) (.slice (some ⟨gT, 0, none⟩) 6 6) (.slice none 0 0) (.slice none 0 0)
        obtain ⟨⟨s0, s1, s2, s3, s4⟩, _⟩ := hres.1.five
        have hown : WOwn v15 W.heap.size (.agg #[.slice A5 ms.length c5, .slice (some ⟨gV, 0, none⟩) 6 6, .slice (some ⟨gT, 0, none⟩) 6 6, .slice none 0 0, .slice none 0 0]) (DC.start ms) :=
          ⟨A5, c5, some ⟨gV, 0, none⟩, 6, some ⟨gT, 0, none⟩, 6, none, 0, none, 0, _, rfl, OI.out, OV.out, OT.out, ts0 _ _, World.ownsRow_nil _ _ _ _, World.ownsRow_nil _ _ _ _⟩
        exact bodyPost_ret (v := .tuple #[.agg #[.slice A5 ms.length c5, .slice (some ⟨gV, 0, none⟩) 6 6, .slice (some ⟨gT, 0, none⟩) 6 6, .slice none 0 0, .slice none 0 0], .int .i64 0]) (by simp [results, Try.results7, go_sem, s0, s1, s2, s3, s4]) rfl ⟨_, rfl, hres.2.2 _ _ HS.out.bl HS.out.hr, .inr ⟨rfl, hown.kept hres.2.1⟩⟩
end Go.Proofs.Ytiiobafcgdelmaa.PD
