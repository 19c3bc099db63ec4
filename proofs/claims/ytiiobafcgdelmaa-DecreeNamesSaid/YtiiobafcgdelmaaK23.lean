/-
  What package decree's voted leaves: a vote kept, and what goes back. Conditions: the world has six votes.
-/
import Derived.Test.YtiiobafcgdelmaaK22
namespace Go.Proofs.Ytiiobafcgdelmaa.PD
open Go.RowKit Go.Shelf
set_option linter.unusedVariables false
set_option linter.unusedSimpArgs false

def votedF (w : DC.Wd) (i : Nat) (x y : Int) (tv : ByteArray) (e : Int) (t k b p : Int) (v : ByteArray) : DC.Wd :=
  if e = 0 then ⟨w.ms, w.vs.set i ⟨x, y, tv⟩, w.ts, w.ml ++ [DC.mk (i : Int) t k b p v], w.ch⟩
  else if e = 70 then ⟨w.ms, w.vs, w.ts, w.ml ++ [DC.mk (i : Int) t 5 b (DC.getV w (i : Int)).p .empty], w.ch⟩ else w
def VotPost (base g : Nat) (w w' : DC.Wd) (W : World) (e : Ending) (W' : World) : Prop :=
  e = .returned (.tuple #[]) ∧ WdAt W' base g w' ∧ Kept isTk W W' ∧ Below base W W'
/-- the world, and mail's variable beside it -/
def MlS (W : World) (base g : Nat) (w : DC.Wd) (gb : Nat) (m : DC.Ml) (wx : World) : Prop :=
  WdAt wx base g w ∧ Box wx gb 40 (mcell m).toArray ∧ (∀ v, wx.cell? ⟨g, 3, none⟩ = some v → v.ownBlock ≠ some gb) ∧ base ≤ gb ∧ Kept isTk W wx ∧ Below base W wx
theorem MlS.store {W wx : World} {base g gb : Nat} {w : DC.Wd} {m m' : DC.Ml} (h : MlS W base g w gb m wx) (u : World)
    (hb : Below gb wx u) (hk : ∀ (S : TypeId → Prop), S 40 → Kept S wx u) (hg : ∀ q e (cs : Array Value), q ≠ gb → Box wx q e cs → Box u q e cs) (hm : Box u gb 40 (mcell m').toArray) : MlS W base g w gb m' u := by
  obtain ⟨⟨A0, c0, A1, c1, A2, c2, A3, c3, A4, c4, xs, hgb, hx, o0, o1, o2, ht, o3, o4⟩, hm0, hap, hbg, hkk, hbl⟩ := h
  have kM := hk (fun e => e = 40) rfl
  have n1 : ¬ (fun e => e = 40) 3 := by show ¬ _ = _; decide
  have n2 : ¬ (fun e => e = 40) 79 := by show ¬ _ = _; decide
  have hx' := kM.box _ _ _ (by show ¬ _ = _; decide) hx
  have hq : (Value.slice A3 w.ml.length c3).ownBlock ≠ some gb := hap _ hx.five.1.2.2.2.1
  refine ⟨⟨A0, c0, A1, c1, A2, c2, A3, c3, A4, c4, xs, hgb, hx', kM.own o0 n1, kM.own o1 (by show ¬ _ = _; decide), kM.own o2 (by show ¬ _ = _; decide), ht.kept kM n1 n2, ⟨o3.1, ?_⟩, kM.own o4 (by show ¬ _ = _; decide)⟩, hm, fun v hv => ?_, hbg, hkk.trans (hk isTk (.inr (.inl rfl))), hbl.trans (hb.mono hbg)⟩
  · rcases o3.2 with h0 | ⟨g', cap, cur, hv, hbb, hxx, hrest⟩
    · exact .inl h0
    · refine .inr ⟨g', cap, cur, hv, hbb, hg g' _ _ (fun e => hq ?_) hxx, hrest⟩
      rw [hv, e]; rfl
  · rw [hx'.five.1.2.2.2.1] at hv
    injection hv with hv
    subst hv
    exact hq

set_option maxRecDepth 100000 in
set_option maxHeartbeats 8000000 in
theorem voted_any (base g i : Nat) (w : DC.Wd) (x y : Int) (tv : ByteArray) (e : Int) (t k b p : Int) (v : ByteArray) (W : World) (H : WdAt W base g w) (hvl : w.vs.length = 6) (hi : i < 6) (hbase : base ≤ W.heap.size) (hl : w.ml.length ≤ 1900) :
    Calls Try.prog 46 #[.pointer (some ⟨g, 0, none⟩), .agg #[.int .i64 x, .int .i64 y, .string tv], .int .i64 e, .agg #[.int .i64 (i : Int), .int .i64 t, .int .u8 k, .int .i64 0, .int .i64 0, .int .i64 b, .int .i64 p, .string v, .int .i64 0, .int .i64 0]] W (VotPost base g w (votedF w i x y tv e t k b p v) W) := by
  have hVv : w.vs[i]? = some (DC.getV w (i : Int)) := by have := DC.getV_at hvl (n := (i : Int)) (by unfold DC.isNode; omega); rwa [Int.toNat_natCast] at this
  obtain ⟨vt, hvt⟩ : ∃ vt, vt = DC.getV w (i : Int) := ⟨_, rfl⟩
  rw [← hvt] at hVv
  have LV6 := Lib.hid hvl
  have HI := Lib.hid hi
  have HBS := Lib.hid hbase
  have HL := Lib.hid hl
  have HVT := Lib.hid hvt
  have HVV := Lib.hid hVv
  have hi0 : (0 : Int) ≤ (i : Int) := by omega
  have hi2 : (i : Int) < (w.vs.length : Int) := by omega
  have mixed : Try.prog.follows Departure.mixedOrders = true := by kernel_rfl
  obtain ⟨W2, hW2⟩ : ∃ W2, W2 = (W.alloc (.cells #[.int .i64 x, .int .i64 y, .string tv] 53)).alloc (.cells #[.int .i64 (i : Int), .int .i64 t, .int .u8 k, .int .i64 0, .int .i64 0, .int .i64 b, .int .i64 p, .string v, .int .i64 0, .int .i64 0] 40) := ⟨_, rfl⟩
  have hb2 : Below W.heap.size W W2 := by rw [hW2]; exact ((Below.refl _ _).alloc (Nat.le_refl _) _).alloc (by simp) _
  have hxv : Box W2 W.heap.size 53 #[.int .i64 x, .int .i64 y, .string tv] := by rw [hW2]; exact (Box.new _ _ _).alloc _
  have hxb : Box W2 (W.heap.size + 1) 40 #[.int .i64 (i : Int), .int .i64 t, .int .u8 k, .int .i64 0, .int .i64 0, .int .i64 b, .int .i64 p, .string v, .int .i64 0, .int .i64 0] := by rw [hW2]; exact Box.new_at _ (by simp)
  have S1 : Hid (MlS W base g w (W.heap.size + 1) (DC.mk (i : Int) t k b p v) W2) := Lib.hid ⟨H.below hb2, hxb, fun u hu => by
    obtain ⟨A0, c0, A1, c1, A2, c2, A3, c3, A4, c4, xs, hgb, hx, o0, o1, o2, ht, o3, o4⟩ := H
    rw [hb2.cell (p := ⟨g, 3, none⟩) hx.lt, hx.five.1.2.2.2.1] at hu
    injection hu with hu
    subst hu
    intro hc
    obtain ⟨_, cur, hd⟩ := own_block o3 hc
    have := hd.lt
    omega, by omega, Kept.of_below hb2, hb2.mono hbase⟩
  have XV := Lib.hid hxv
  have hgb : g ≠ W.heap.size + 1 := by have := H.lt.2; omega
  have hgl := Lib.hid H.lt.2
  have hvb : W.heap.size ≠ W.heap.size + 1 := by omega
  obtain ⟨v0, v1, v2, _⟩ := hxv.three
  obtain ⟨b0, b1, b2, b3, b4, b5, b6, b7, b8, b9⟩ := hxb.ten
  clear hVv hvl hi hbase hl hvt hb2 hxv hxb H
  go_enter Try.func46, Try.ntmps46
  go_upto_region 1 with (fail)
  rw [← hW2]
  clear hW2
  by_cases h1 : e = 0
  · have e1 : (e == 0) = true := by simpa using h1
    have HF0 : Hid (votedF w i x y tv e t k b p v = ⟨w.ms, w.vs.set i ⟨x, y, tv⟩, w.ts, w.ml ++ [DC.mk (i : Int) t k b p v], w.ch⟩) := Lib.hid (by unfold votedF; rw [if_pos h1])
    clear h1
    go_upto_region 4 with (fail)
    clear b0 b1 b2 b3 b4 b5 b6 b7 b8 b9 v0 v1 v2
    generalize W.heap.size + 1 = gb at S1 hgb hvb ⊢
    generalize W.heap.size = gv at XV hvb hgl ⊢
    obtain ⟨q2, c2, hq2, hq2l, d2, hthere, hst, hfar⟩ := (show WdAt W2.drew base g w from S1.out.1).storeV LV6.out HI.out
    obtain ⟨hs1, hs2, hs3, hs4⟩ := hst ⟨x, y, tv⟩
    have hxV := hfar gv _ (show Box W2.drew gv _ _ from XV.out) rfl (.int .i64 x) (.int .i64 y) (.string tv)
    have NX : Hid (WdAt (putAt3 W2.drew q2 (i * 3) (.int .i64 x) (.int .i64 y) (.string tv)) base g ⟨w.ms, w.vs.set i ⟨x, y, tv⟩, w.ts, w.ml, w.ch⟩ ∧ Box (putAt3 W2.drew q2 (i * 3) (.int .i64 x) (.int .i64 y) (.string tv)) gb 40 #[.int .i64 (i : Int), .int .i64 t, .int .u8 k, .int .i64 0, .int .i64 0, .int .i64 b, .int .i64 p, .string v, .int .i64 0, .int .i64 0] ∧ Kept isTk W (putAt3 W2.drew q2 (i * 3) (.int .i64 x) (.int .i64 y) (.string tv)) ∧ Below base W (putAt3 W2.drew q2 (i * 3) (.int .i64 x) (.int .i64 y) (.string tv))) :=
      Lib.hid ⟨hs1, hs2.box _ _ _ (by unfold isV; decide) (show Box W2.drew gb _ _ from S1.out.2.1), (S1.out.2.2.2.2.1.more ((Below.refl _ _).drew)).trans (hs2.mono fun _ h => tk_of_v h), below_more (bmore S1.out.2.2.2.2.2 ((Below.refl _ _).drew) HBS.out) hs3⟩
    obtain ⟨v0, v1, v2, _⟩ := (show Box W2.drew gv _ _ from XV.out).three
    obtain ⟨r0, r1, r2, _⟩ := hxV.three
    clear hst hfar hs1 hs2 hs3 hxV S1 hq2 hq2l XV
    go_cut [21] (fun _ wx => WdAt wx base g ⟨w.ms, w.vs.set i ⟨x, y, tv⟩, w.ts, w.ml, w.ch⟩ ∧ Box wx gb 40 #[.int .i64 (i : Int), .int .i64 t, .int .u8 k, .int .i64 0, .int .i64 0, .int .i64 b, .int .i64 p, .string v, .int .i64 0, .int .i64 0] ∧ Kept isTk W wx ∧ Below base W wx)
    case first =>
      have hS0 : W2.drew.cell? ⟨g, 1, none⟩ = some (.slice (some ⟨q2, 0, none⟩) w.vs.length c2) ∧ W2.drew.cell? ⟨gv, 0, none⟩ = some (.int .i64 x) ∧ W2.drew.cell? ⟨gv, 1, none⟩ = some (.int .i64 y) ∧ W2.drew.cell? ⟨gv, 2, none⟩ = some (.string tv) := ⟨d2, v0, v1, v2⟩
      have hS1 := And.intro hs4 (And.intro r0 (And.intro r1 r2))
      clear r0 r1 r2 v0 v1 v2 d2 hs4
      refine wp_region_held_drew (S := fun w' => w'.cell? ⟨g, 1, none⟩ = some (.slice (some ⟨q2, 0, none⟩) w.vs.length c2) ∧ w'.cell? ⟨gv, 0, none⟩ = some (.int .i64 x) ∧ w'.cell? ⟨gv, 1, none⟩ = some (.int .i64 y) ∧ w'.cell? ⟨gv, 2, none⟩ = some (.string tv)) (by kernel_rfl) hS0 (fun hHeld => ?_)
      refine wpAnyH_take (i := 0) (v := ?_) rfl (by kernel_rfl) (by kernel_rfl) (by kernel_rfl) (fun _ _ _ h => h) (Or.inl ⟨by rfl, ?_⟩) (by assumption) ?_
      rotate_left
      · intro w' hSw
        (try dsimp only at hSw)
        go_simp
        all_goals (with_reducible rfl)
      try simp only [Act.put, List.setIfInBounds_toArray, List.set_cons_zero, List.set_cons_succ, List.getElem_toArray, List.getElem_cons_zero, List.getElem_cons_succ]
      refine wpAnyH_take (i := 1) (v := ?_) rfl (by kernel_rfl) (by kernel_rfl) (by kernel_rfl) (fun _ _ _ h => h) (Or.inl ⟨by rfl, ?_⟩) (by assumption) ?_
      rotate_left
      · intro w' hSw
        (try dsimp only at hSw)
        go_simp
        all_goals (with_reducible rfl)
      try simp only [Act.put, List.setIfInBounds_toArray, List.set_cons_zero, List.set_cons_succ, List.getElem_toArray, List.getElem_cons_zero, List.getElem_cons_succ]
      refine wpAnyH_take (i := 2) (v := ?_) rfl (by kernel_rfl) (by kernel_rfl) (by kernel_rfl) (fun _ _ _ h => h) (Or.inl ⟨by rfl, ?_⟩) (by assumption) ?_
      rotate_left
      · intro w' hSw
        (try dsimp only at hSw)
        go_simp
        all_goals (with_reducible rfl)
      try simp only [Act.put, List.setIfInBounds_toArray, List.set_cons_zero, List.set_cons_succ, List.getElem_toArray, List.getElem_cons_zero, List.getElem_cons_succ]
      refine wpAnyH_take (i := 3) (v := ?_) rfl (by kernel_rfl) (by kernel_rfl) (by kernel_rfl) (fun _ _ _ h => h) (Or.inl ⟨by rfl, ?_⟩) (by assumption) ?_
      rotate_left
      · intro w' hSw
        (try dsimp only at hSw)
        go_simp
        all_goals (with_reducible rfl)
      try simp only [Act.put, List.setIfInBounds_toArray, List.set_cons_zero, List.set_cons_succ, List.getElem_toArray, List.getElem_cons_zero, List.getElem_cons_succ]
      refine wpAnyH_take (i := 4) (v := ?_) rfl (by kernel_rfl) (by kernel_rfl) (by kernel_rfl) (fun _ _ _ h => h) (Or.inl ⟨by rfl, ?_⟩) (by assumption) ?_
      rotate_left
      · intro w' hSw
        (try dsimp only at hSw)
        go_simp
        all_goals (with_reducible rfl)
      try simp only [Act.put, List.setIfInBounds_toArray, List.set_cons_zero, List.set_cons_succ, List.getElem_toArray, List.getElem_cons_zero, List.getElem_cons_succ]
      refine wpAnyH_take (i := 5) (v := ?_) rfl (by kernel_rfl) (by kernel_rfl) (by kernel_rfl) (fun _ _ _ h => h) (Or.inl ⟨by rfl, ?_⟩) (by assumption) ?_
      rotate_left
      · intro w' hSw
        (try dsimp only at hSw)
        go_simp
        all_goals (with_reducible rfl)
      try simp only [Act.put, List.setIfInBounds_toArray, List.set_cons_zero, List.set_cons_succ, List.getElem_toArray, List.getElem_cons_zero, List.getElem_cons_succ]
      refine wpAnyH_take (i := 6) (v := ?_) rfl (by kernel_rfl) (by kernel_rfl) (by kernel_rfl) (fun _ _ _ h => h) (Or.inl ⟨by rfl, ?_⟩) (by assumption) ?_
      rotate_left
      · intro w' hSw
        (try dsimp only at hSw)
        go_simp
        all_goals (with_reducible rfl)
      try simp only [Act.put, List.setIfInBounds_toArray, List.set_cons_zero, List.set_cons_succ, List.getElem_toArray, List.getElem_cons_zero, List.getElem_cons_succ]
      refine wpAnyH_ready (rs := [7]) (by kernel_rfl) (by simp) ?_
      refine AllReadyH.cons rfl (fun K hK => ?_) AllReadyH.nil
      refine step_store_mid rfl 53 _ _ rfl q2 (i * 3) #[.int .i64 x, .int .i64 y, .string tv] (by simp [Act.eval, Act.put]) (by simp [Act.eval, Act.put]) hthere (by kernel_rfl) (by simp [Value.oneCell']) ?_
      refine hK.out _ _ (hS1) (fun hHeld => ?_)
      clear hK
      try simp only [Act.put, List.setIfInBounds_toArray, List.set_cons_zero, List.set_cons_succ, List.getElem_toArray, List.getElem_cons_zero, List.getElem_cons_succ]
      refine wpAnyH_done (by kernel_rfl) ?_ _
      go_wp2_with fail
      go_meet
      case rel => exact NX.out
    case rest =>
      clear NX hthere r0 r1 r2 v0 v1 v2 d2 hs4
      obtain ⟨hW7, hB7, hK7, hL7⟩ := hcut
      have SX := Lib.hid hW7
      have BX := Lib.hid hB7
      have KX := Lib.hid hK7
      have LX := Lib.hid hL7
      clear hW7 hB7 hK7 hL7
      obtain ⟨i0, hin, hz0, hz1, hz2⟩ := info_parts info_mail
      obtain ⟨A0, c0, A1, c1, A2, c2, A3, c3, A4, c4, xs, hgb, hx, o0, o1, o2, ht, o3, o4⟩ := SX.out
      try simp only at hx o0 o1 o2 ht o3 o4
      obtain ⟨ML, hML⟩ : ∃ ML, ML = w.ml.length := ⟨_, rfl⟩
      rw [← hML] at hx o3
      have hlm : ML ≤ 1900 := by rw [hML]; exact HL.out
      have HX := Lib.hid hx
      have Q0 := Lib.hid o0
      have Q1 := Lib.hid o1
      have Q2 := Lib.hid o2
      have Q3 := Lib.hid o3
      have Q4 := Lib.hid o4
      have QT := Lib.hid ht
      have QG := Lib.hid hgb
      have HML := Lib.hid hML
      clear hgb hx o0 o1 o2 ht o3 o4 hML
      have hal : Below wc.heap.size wc (wc.alloc (.cells #[.int .i64 (i : Int), .int .i64 t, .int .u8 k, .int .i64 0, .int .i64 0, .int .i64 b, .int .i64 p, .string v, .int .i64 0, .int .i64 0] 40)) := (Below.refl _ _).alloc (Nat.le_refl _) _
      have O3a := Lib.hid (own_below3 Q3.out hal)
      have HR2 := Lib.hid (rdG_box (s := 10) (n := 1) (Box.new wc 40 #[.int .i64 (i : Int), .int .i64 t, .int .u8 k, .int .i64 0, .int .i64 0, .int .i64 b, .int .i64 p, .string v, .int .i64 0, .int .i64 0]) rfl rfl)
      have hbc : base ≤ wc.heap.size := Nat.le_trans HBS.out LX.out.size
      have hbz : base ≤ (wc.alloc (.cells #[.int .i64 (i : Int), .int .i64 t, .int .u8 k, .int .i64 0, .int .i64 0, .int .i64 b, .int .i64 p, .string v, .int .i64 0, .int .i64 0] 40)).heap.size := Nat.le_trans hbc hal.size
      have XA := Lib.hid (HX.out.below hal HX.out.lt)
      obtain ⟨⟨g0, g1, g2, g3, g4⟩, _⟩ := HX.out.five
      obtain ⟨⟨y0, y1, y2, y3, y4⟩, _⟩ := XA.out.five
      obtain ⟨b0, b1, b2, b3, b4, b5, b6, b7, b8, b9⟩ := BX.out.ten
      have hbl2 := hal
      clear hal
      go_upto_region 5 with (fail)
      go_region_law_o (refine step_append_h rfl (.tmp 25) (.tmp 27) 25 rfl base 40 i0 _ 10 88 Try.underlying25 hin hz0 hz1 hz2 rfl (by omega) (.slice A3 ML c3) ML _ (by simp [Act.eval, Act.put]) O3a.out (some ⟨wc.heap.size, 0, none⟩) 1 1 _ (by simp [Act.eval, Act.put]) HR2.out (by intro x hx; simp at hx; rcases hx with rfl | rfl | rfl | rfl | rfl | rfl | rfl | rfl | rfl | rfl <;> rfl) (by unfold maxLen; omega) (by omega) hbz ?_; intro v9 w9 o9 g9 hob9; obtain ⟨A9, c9, rfl, _, _⟩ := own_form o9; obtain ⟨_, z0, z1, z2, z3, z4⟩ := (XA.out.drew.grown g9 (fun e => by obtain ⟨_, cur, hc⟩ := own_block O3a.out e.symm; have := XA.out; rw [Box] at this hc; rw [hc] at this; injection this with this; injection this with _ this; exact absurd this (by decide))).five)
      all_goals
        have hq := WdAt.addM (w := ⟨w.ms, w.vs.set i ⟨x, y, tv⟩, w.ts, w.ml, w.ch⟩) (c := DC.mk (i : Int) t k b p v) HML.out.symm hbc QG.out HX.out Q0.out Q1.out Q2.out QT.out Q3.out Q4.out g9 o9
        have HF : Hid (VotPost base g w (votedF w i x y tv e t k b p v) W (.returned (.tuple #[])) (w9.setCell ⟨g, 3, none⟩ (.slice A9 (ML + 1) c9))) := Lib.hid ⟨rfl, by rw [HF0.out]; exact hq.1, KX.out.trans (hq.2.1.mono fun _ h => tk_of_wm h), below_more LX.out hq.2.2⟩
        clear o9 g9 hob9 hq
        clear g0 g1 g2 g3 g4 y0 y1 y2 y3 y4 b0 b1 b2 b3 b4 b5 b6 b7 b8 b9
        go_wp2_with fail
        go_end0
        exact HF.out
  have e1 : (e == 0) = false := by simpa using h1
  by_cases h7 : e = 70
  rotate_left
  · have e2 : (e == 70) = false := by simpa using h7
    have HF : Hid (VotPost base g w (votedF w i x y tv e t k b p v) W (.returned (.tuple #[])) W2) := Lib.hid ⟨rfl, by unfold votedF; rw [if_neg h1, if_neg h7]; exact S1.out.1, S1.out.2.2.2.2.1, S1.out.2.2.2.2.2⟩
    clear h1 h7
    go_wp2_with fail
    go_end0
    exact HF.out
  have e2 : (e == 70) = true := by simpa using h7
  have HF0 : Hid (votedF w i x y tv e t k b p v = ⟨w.ms, w.vs, w.ts, w.ml ++ [DC.mk (i : Int) t 5 b vt.p .empty], w.ch⟩) := Lib.hid (by unfold votedF; rw [if_neg h1, if_pos h7, ← HVT.out])
  clear h1 h7
  go_upto_region 7 with (fail)
  clear b1 b2 b3 b4 b5 b6 b7 b8 b9 v0 v1 v2
  obtain ⟨q1, c1, hvc⟩ := S1.out.1.vote HVV.out
  obtain ⟨w0, w1, w2, w3⟩ := hvc W2 (Below.refl _ _)
  have hqb : q1 ≠ W.heap.size + 1 := fun hc => by
    have h2 := (show Box W2 (W.heap.size + 1) 40 #[.int .i64 (i : Int), .int .i64 t, .int .u8 k, .int .i64 0, .int .i64 0, .int .i64 b, .int .i64 p, .string v, .int .i64 0, .int .i64 0] from S1.out.2.1)
    obtain ⟨A0, c0, A1, c1', A2, c2, A3, c3, A4, c4, xs, hgb, hx, o0, o1, o2, ht, o3, o4⟩ := S1.out.1
    rw [hx.five.1.2.1] at w0
    injection w0 with w0
    injection w0 with w0 _ _
    subst w0
    obtain ⟨_, cur, h3⟩ := own_block o1 (show (Value.slice (some ⟨q1, 0, none⟩) w.vs.length c1').ownBlock = some q1 from rfl)
    rw [hc] at h3
    rw [Box] at h2 h3
    rw [h3] at h2
    injection h2 with h2
    injection h2 with _ h2
    exact absurd h2 (by decide)
  generalize W.heap.size + 1 = gb at S1 hgb hvb hqb b0 ⊢
  generalize W.heap.size = gv at XV hvb hgl ⊢
  have hgb2 : gb ≠ g := fun hc => hgb hc.symm
  have hqb2 : gb ≠ q1 := fun hc => hqb hc.symm
  have z2 := S1.out.2.1.frozen 2
  have z6 := S1.out.2.1.frozen 6
  have z7 := S1.out.2.1.frozen 7
  obtain ⟨b0, b1, b2, b3, b4, b5, b6, b7, b8, b9⟩ := (show Box W2 gb 40 #[.int .i64 (i : Int), .int .i64 t, .int .u8 k, .int .i64 0, .int .i64 0, .int .i64 b, .int .i64 p, .string v, .int .i64 0, .int .i64 0] from S1.out.2.1).ten
  clear hvc w2 w3
  go_region
  clear b0 b1 b2 b3 b4 b5 b6 b7 b8 b9 z2 z6 z7 w0 w1
  have S4 : Hid (MlS W base g w gb (DC.mk (i : Int) t 5 b vt.p .empty) (((W2.setCell ⟨gb, 2, none⟩ (.int .u8 5)).setCell ⟨gb, 6, none⟩ (.int .i64 vt.p)).setCell ⟨gb, 7, none⟩ (.string ⟨#[]⟩)).drew) := Lib.hid (by
    have hm : Box W2 gb 40 #[.int .i64 (i : Int), .int .i64 t, .int .u8 k, .int .i64 0, .int .i64 0, .int .i64 b, .int .i64 p, .string v, .int .i64 0, .int .i64 0] := S1.out.2.1
    have hm2 := hm.stored 2 (.int .u8 5)
    have hm3 := hm2.stored 6 (.int .i64 vt.p)
    have hm4 := hm3.stored 7 (.string ⟨#[]⟩)
    refine S1.out.store _ ((((Below.refl _ _).setCell (p := ⟨gb, 2, none⟩) (Nat.le_refl _) _).setCell (p := ⟨gb, 6, none⟩) (Nat.le_refl _) _).setCell (p := ⟨gb, 7, none⟩) (Nat.le_refl _) _).drew (fun S hS => ((Kept.set hm hS _).trans ((Kept.set hm2 hS _).trans (Kept.set hm3 hS _))).more ((Below.refl _ _).drew)) (fun q e cs hne hb => ((hb.far (p := ⟨gb, 2, none⟩) hne _).far (p := ⟨gb, 6, none⟩) hne _).far (p := ⟨gb, 7, none⟩) hne _) ?_
    have hm5 : Box (((W2.setCell ⟨gb, 2, none⟩ (.int .u8 5)).setCell ⟨gb, 6, none⟩ (.int .i64 vt.p)).setCell ⟨gb, 7, none⟩ (.string ⟨#[]⟩)).drew gb 40 #[.int .i64 (i : Int), .int .i64 t, .int .u8 5, .int .i64 0, .int .i64 0, .int .i64 b, .int .i64 vt.p, .string ⟨#[]⟩, .int .i64 0, .int .i64 0] := by simpa using hm4.drew
    exact hm5)
  clear S1
  generalize (((W2.setCell ⟨gb, 2, none⟩ (.int .u8 5)).setCell ⟨gb, 6, none⟩ (.int .i64 vt.p)).setCell ⟨gb, 7, none⟩ (.string ⟨#[]⟩)).drew = u4 at S4 ⊢
  have SX := Lib.hid S4.out.1
  have BX : Hid (Box u4 gb 40 #[.int .i64 (i : Int), .int .i64 t, .int .u8 5, .int .i64 0, .int .i64 0, .int .i64 b, .int .i64 vt.p, .string ⟨#[]⟩, .int .i64 0, .int .i64 0]) := Lib.hid S4.out.2.1
  have KX := Lib.hid S4.out.2.2.2.2.1
  have LX := Lib.hid S4.out.2.2.2.2.2
  obtain ⟨i0, hin, hz0, hz1, hz2⟩ := info_parts info_mail
  obtain ⟨A0, c0, A1, c1, A2, c2, A3, c3, A4, c4, xs, hgb, hx, o0, o1, o2, ht, o3, o4⟩ := SX.out
  try simp only at hx o0 o1 o2 ht o3 o4
  obtain ⟨ML, hML⟩ : ∃ ML, ML = w.ml.length := ⟨_, rfl⟩
  rw [← hML] at hx o3
  have hlm : ML ≤ 1900 := by rw [hML]; exact HL.out
  have HX := Lib.hid hx
  have Q0 := Lib.hid o0
  have Q1 := Lib.hid o1
  have Q2 := Lib.hid o2
  have Q3 := Lib.hid o3
  have Q4 := Lib.hid o4
  have QT := Lib.hid ht
  have QG := Lib.hid hgb
  have HML := Lib.hid hML
  clear hgb hx o0 o1 o2 ht o3 o4 hML
  have hal : Below u4.heap.size u4 (u4.alloc (.cells #[.int .i64 (i : Int), .int .i64 t, .int .u8 5, .int .i64 0, .int .i64 0, .int .i64 b, .int .i64 vt.p, .string ⟨#[]⟩, .int .i64 0, .int .i64 0] 40)) := (Below.refl _ _).alloc (Nat.le_refl _) _
  have O3a := Lib.hid (own_below3 Q3.out hal)
  have HR2 := Lib.hid (rdG_box (s := 10) (n := 1) (Box.new u4 40 #[.int .i64 (i : Int), .int .i64 t, .int .u8 5, .int .i64 0, .int .i64 0, .int .i64 b, .int .i64 vt.p, .string ⟨#[]⟩, .int .i64 0, .int .i64 0]) rfl rfl)
  have hbc : base ≤ u4.heap.size := Nat.le_trans HBS.out LX.out.size
  have hbz : base ≤ (u4.alloc (.cells #[.int .i64 (i : Int), .int .i64 t, .int .u8 5, .int .i64 0, .int .i64 0, .int .i64 b, .int .i64 vt.p, .string ⟨#[]⟩, .int .i64 0, .int .i64 0] 40)).heap.size := Nat.le_trans hbc hal.size
  have XA := Lib.hid (HX.out.below hal HX.out.lt)
  obtain ⟨⟨g0, g1, g2, g3, g4⟩, _⟩ := HX.out.five
  obtain ⟨⟨y0, y1, y2, y3, y4⟩, _⟩ := XA.out.five
  obtain ⟨b0, b1, b2, b3, b4, b5, b6, b7, b8, b9⟩ := BX.out.ten
  have hbl2 := hal
  clear hal
  go_upto_region 8 with (fail)
  go_region_law_o (refine step_append_h rfl (.tmp 48) (.tmp 50) 25 rfl base 40 i0 _ 10 88 Try.underlying25 hin hz0 hz1 hz2 rfl (by omega) (.slice A3 ML c3) ML _ (by simp [Act.eval, Act.put]) O3a.out (some ⟨u4.heap.size, 0, none⟩) 1 1 _ (by simp [Act.eval, Act.put]) HR2.out (by intro x hx; simp at hx; rcases hx with rfl | rfl | rfl | rfl | rfl | rfl | rfl | rfl | rfl | rfl <;> rfl) (by unfold maxLen; omega) (by omega) hbz ?_; intro v9 w9 o9 g9 hob9; obtain ⟨A9, c9, rfl, _, _⟩ := own_form o9; obtain ⟨_, z0, z1, z2, z3, z4⟩ := (XA.out.drew.grown g9 (fun e => by obtain ⟨_, cur, hc⟩ := own_block O3a.out e.symm; have := XA.out; rw [Box] at this hc; rw [hc] at this; injection this with this; injection this with _ this; exact absurd this (by decide))).five)
  all_goals
    have hq := WdAt.addM (w := w) (c := DC.mk (i : Int) t 5 b vt.p .empty) HML.out.symm hbc QG.out HX.out Q0.out Q1.out Q2.out QT.out Q3.out Q4.out g9 o9
    have HF : Hid (VotPost base g w (votedF w i x y tv e t k b p v) W (.returned (.tuple #[])) (w9.setCell ⟨g, 3, none⟩ (.slice A9 (ML + 1) c9))) := Lib.hid ⟨rfl, by rw [HF0.out]; exact hq.1, KX.out.trans (hq.2.1.mono fun _ h => tk_of_wm h), below_more LX.out hq.2.2⟩
    clear o9 g9 hob9 hq
    clear g0 g1 g2 g3 g4 y0 y1 y2 y3 y4 b0 b1 b2 b3 b4 b5 b6 b7 b8 b9
    go_wp2_with fail
    go_end0
    exact HF.out
end Go.Proofs.Ytiiobafcgdelmaa.PD
