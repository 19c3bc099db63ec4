/- Contracts of functions of towncrier, layers 5 to 9, and of the document's own ones, part 44; each as its theorem says. -/
import Derived.Test.YtiiobafcgdelmaaGreatL01
import Derived.Test.YtiiobafcgdelmaaGreatL43
set_option linter.unusedVariables false
set_option linter.unusedSimpArgs false
namespace Go.Proofs.YtiiobafcgdelmaaGreat
open Go.RowKit Go.Shelf
set_option maxRecDepth 100000 in
set_option maxHeartbeats 8000000 in
theorem comes_4 (base g i : Nat) (w : DC.Wd) (f b p : Int) (v : ByteArray) (W : World) (H : WdAt W base g w) (h0 : DC.May0 w) (hi : i < 6) (hm : DC.MayM (DC.mk f (i : Int) 4 b p v)) (hbase : base ≤ W.heap.size) (hl : w.ml.length ≤ 1000) (hch : w.ch.length ≤ 1000) :
  Calls Tryz.prog 28 #[.pointer (some ⟨g, 0, none⟩), .agg #[.int .i64 f, .int .i64 (i : Int), .int .u8 4, .int .i64 0, .int .i64 0, .int .i64 b, .int .i64 p, .string v, .int .i64 0, .int .i64 0]] W (ComPost base g w (DC.mk f (i : Int) 4 b p v) W) := by
 have hn : DC.isNode (i : Int) := by unfold DC.isNode; omega
 have LT6 := h! h0.tl
 have LV6 := h! h0.vl
 have hVv : w.vs[i]? = some (DC.getV w (i : Int)) := by have := DC.getV_at h0.vl hn; rwa [Int.toNat_natCast] at this
 have hvm := h0.vote hn
 have H0 := h! h0
 have HM := h! hm
 have HBS := h! hbase
 have HWD := h! H
 have LEN := h! (And.intro hl hch)
 have hi0 : (0 : Int) ≤ (i : Int) := by omega
 have hi2 : (i : Int) < (w.vs.length : Int) := by have := LV6.out; omega
 obtain ⟨A0, c0, A1, c1, A2, c2, A3, c3, A4, c4, xs, hgb, hx, o0, o1, o2, ht, o3, o4⟩ := H
 obtain ⟨q1, rfl, hq1, v0, v1, v2⟩ := vote_cells o1 hVv rfl
 have hq1lt : q1 < W.heap.size := by obtain ⟨_, cur, hc⟩ := own_block o1 (show (Value.slice (some ⟨q1, 0, none⟩) w.vs.length c1).ownBlock = some q1 from rfl); exact hc.lt
 have hglt := hx.lt
 obtain ⟨vt, hvt⟩ : ∃ vt, vt = DC.getV w (i : Int) := ⟨_, rfl⟩
 rw [← hvt] at v0 v1 v2 hvm
 have HVT := h! hvt
 have HVM := h! hvm
 obtain ⟨W2, hW2⟩ : ∃ W2, W2 = (W.alloc (.cells #[.int .i64 f, .int .i64 (i : Int), .int .u8 4, .int .i64 0, .int .i64 0, .int .i64 b, .int .i64 p, .string v, .int .i64 0, .int .i64 0] 51)).alloc (.cells #[.int .i64 (i : Int), .int .i64 f, .int .u8 0, .int .i64 0, .int .i64 0, .int .i64 b, .int .i64 0, .string ⟨#[]⟩, .int .i64 0, .int .i64 0] 51) := ⟨_, rfl⟩
 have hb2 : Below W.heap.size W W2 := by rw [hW2]; exact ((Below.refl _ _).alloc n! _).alloc (by simp) _
 have hb3 : Below W.heap.size W (W2.alloc (.cells #[.int .i64 vt.p, .int .i64 vt.b, .string vt.v] 59)) := hb2.alloc hb2.size _
 have hs2 : W2.heap.size = W.heap.size + 1 + 1 := by rw [hW2]; simp
 have S1 : Hid (CmS W base g w W.heap.size (W.heap.size + 1) (W.heap.size + 1 + 1) #[.int .i64 f, .int .i64 (i : Int), .int .u8 4, .int .i64 0, .int .i64 0, .int .i64 b, .int .i64 p, .string v, .int .i64 0, .int .i64 0] #[.int .i64 (i : Int), .int .i64 f, .int .u8 0, .int .i64 0, .int .i64 0, .int .i64 b, .int .i64 0, .string ⟨#[]⟩, .int .i64 0, .int .i64 0] vt (W2.alloc (.cells #[.int .i64 vt.p, .int .i64 vt.b, .string vt.v] 59))) := h! ⟨HWD.out.below hb3, (show Box W2 W.heap.size _ _ by rw [hW2]; exact (Box.new _ _ _).alloc _).alloc _, (show Box W2 (W.heap.size + 1) _ _ by rw [hW2]; exact Box.new_at _ (by simp)).alloc _, Box.new_at _ hs2, Kept.of_below hb3, hb3.mono HBS.out⟩
 have w0 := (hb2.cell (p := ⟨q1, i * 3, none⟩) hq1lt).trans v0
 have w1 := (hb2.cell (p := ⟨q1, i * 3 + 1, none⟩) hq1lt).trans v1
 have w2 := (hb2.cell (p := ⟨q1, i * 3 + 2, none⟩) hq1lt).trans v2
 obtain ⟨⟨g0, g1, g2, g3, g4⟩, _⟩ := (hx.below hb2 hglt).five
 have HS2 := h! hs2
 clear h0 hn hm hvm hVv hbase hl hch hq1 hgb hx o0 o1 o2 ht o3 o4 hvt v0 v1 v2 hb2 hb3 hq1lt hglt hs2
 have mixed : Tryz.prog.follows Departure.mixedOrders = true := by kernel_rfl
 go_enter Tryz.func28, Tryz.ntmps28
 go_upto_region 3 with (fail)
 rw [← hW2]
 clear hW2
 go_upto_region 4 with (fail)
 clear w0 w1 w2 g0 g1 g2 g3 g4
 rw [HS2.out]
 generalize W2.alloc (.cells #[.int .i64 vt.p, .int .i64 vt.b, .string vt.v] 59) = u1 at S1 ⊢
 have hne : W.heap.size + 1 ≠ W.heap.size + 1 + 1 := by omega
 have hne2 : W.heap.size + 1 + 1 ≠ W.heap.size + 1 := by omega
 generalize W.heap.size + 1 + 1 = gv at S1 hne hne2 ⊢
 generalize W.heap.size + 1 = gb at S1 hne hne2 ⊢
 generalize W.heap.size = gm at S1 ⊢
 have hmt := H0.out.try_ (n := (i : Int)) (by unfold DC.isNode; omega)
 have hTt : w.ts[i]? = some (DC.getT w (i : Int)) := by have := DC.getT_at H0.out.tl (n := (i : Int)) (by unfold DC.isNode; omega); rwa [Int.toNat_natCast] at this
 have F := fit_mayT hmt
 obtain ⟨A0, c0, A1, c1, A2, c2, A3, c3, A4, c4, xs, hgb, hx, o0, o1, o2, ht, o3, o4⟩ := S1.out.1
 obtain ⟨q, x, y, z, rfl, hqb, hown, t0, t1, t2, t3, t4, t5, t6⟩ := try_cells o2 ht hTt rfl
 have hblt : q < u1.heap.size := by obtain ⟨_, cur, hc⟩ := own_block o2 (show (Value.slice (some ⟨q, 0, none⟩) w.ts.length c2).ownBlock = some q from rfl); exact hc.lt
 have hglt := hx.lt
 have hmlt := S1.out.2.1.lt
 obtain ⟨tt, htt⟩ : ∃ tt, tt = DC.getT w (i : Int) := ⟨_, rfl⟩
 rw [← htt] at t0 t1 t3 t4 hmt hTt F hown
 have HTT := h! htt
 have CC := h! (fun (w' : World) (hb : Below u1.heap.size u1 w') => (⟨(hx.below hb hglt).cell 2, (S1.out.2.1.below hb hmlt).cell 5, (S1.out.2.1.below hb hmlt).cell 0, (hb.cell hblt).trans t0, (hb.cell hblt).trans t1, (hb.cell hblt).trans t2, (hb.cell hblt).trans t3, (hb.cell hblt).trans t4, (hb.cell hblt).trans t5, (hb.cell hblt).trans t6⟩ :
  w'.cell? ⟨g, 2, none⟩ = some (.slice (some ⟨q, 0, none⟩) w.ts.length c2) ∧ w'.cell? ⟨gm, 5, none⟩ = some (.int .i64 b) ∧ w'.cell? ⟨gm, 0, none⟩ = some (.int .i64 f) ∧
  w'.cell? ⟨q, i * 7, none⟩ = some (.int .u8 tt.ph) ∧ w'.cell? ⟨q, i * 7 + 1, none⟩ = some (.int .i64 tt.ba) ∧ w'.cell? ⟨q, i * 7 + 2, none⟩ = some x ∧ w'.cell? ⟨q, i * 7 + 3, none⟩ = some (.string tt.wi) ∧ w'.cell? ⟨q, i * 7 + 4, none⟩ = some (.string tt.va) ∧ w'.cell? ⟨q, i * 7 + 5, none⟩ = some y ∧ w'.cell? ⟨q, i * 7 + 6, none⟩ = some z))
 have HPA := h! (fun (W' : World) (hb : Below u1.heap.size u1 W') => raccd_any _ tt b f W' (hown.below hb).is F hown.cap)
 obtain ⟨er, her⟩ : ∃ er, er = AM.errA tt b f := ⟨_, rfl⟩
 obtain ⟨a, ha⟩ : ∃ a, a = AM.acc tt b f := ⟨_, rfl⟩
 rw [← her, ← ha] at HPA
 have HER := h! her
 have HAA := h! ha
 have HT := h! hTt
 have hi1 : (i : Int) < (w.ts.length : Int) := by have := LT6.out; omega
 clear hmt hTt F hgb hx o0 o1 o2 ht o3 o4 hown t0 t1 t2 t3 t4 t5 t6 hqb htt her ha
 obtain ⟨m0, m1, m2, m3, m4, m5, m6, m7, m8, m9⟩ := S1.out.2.1.ten
 go_upto_region 20 with (fail)
 clear m0 m1 m2 m3 m4 m5 m6 m7 m8 m9
 go_cut [9, 10] (fun u9 u10 wx => LoopMid u1 a er u9 u10 wx)
 case first =>
  have bb1 : Below u1.heap.size u1 u1.drew := (Below.refl _ _).drew
  have bb0 : ∀ ob : Obj, Below u1.heap.size u1 (u1.alloc ob).drew := fun ob => ((Below.refl _ _).alloc n! ob).drew
  refine wp_region_held_drew (S := fun w' => Below u1.heap.size u1 w') (by kernel_rfl) bb1 (fun hHeld => ?_)
  refine wpAnyH_take (i := 0) (v := ?_) rfl (by kernel_rfl) (by kernel_rfl) (by kernel_rfl) (fun _ _ _ h => h) (Or.inl ⟨by rfl, ?_⟩) (by assumption) ?_
  rotate_left
  ·intro w' hSw
   (try dsimp only at hSw)
   obtain ⟨k0, k1, k2, k3, k4, k5, k6, k7, k8, k9⟩ := CC.out _ hSw
   go_simp
   all_goals (with_reducible rfl)
  try simp only [Act.put, qq]
  refine wpAnyH_take (i := 1) (v := ?_) rfl (by kernel_rfl) (by kernel_rfl) (by kernel_rfl) (fun _ _ _ h => h) (Or.inl ⟨by rfl, ?_⟩) (by assumption) ?_
  rotate_left
  ·intro w' hSw
   (try dsimp only at hSw)
   obtain ⟨k0, k1, k2, k3, k4, k5, k6, k7, k8, k9⟩ := CC.out _ hSw
   go_simp
   all_goals (with_reducible rfl)
  try simp only [Act.put, qq]
  refine wpAnyH_take (i := 2) (v := ?_) rfl (by kernel_rfl) (by kernel_rfl) (by kernel_rfl) (fun _ _ _ h => h) (Or.inl ⟨by rfl, ?_⟩) (by assumption) ?_
  rotate_left
  ·intro w' hSw
   (try dsimp only at hSw)
   obtain ⟨k0, k1, k2, k3, k4, k5, k6, k7, k8, k9⟩ := CC.out _ hSw
   go_simp
   all_goals (with_reducible rfl)
  try simp only [Act.put, qq]
  refine wpAnyH_take (i := 3) (v := ?_) rfl (by kernel_rfl) (by kernel_rfl) (by kernel_rfl) (fun _ _ _ h => h) (Or.inl ⟨by rfl, ?_⟩) (by assumption) ?_
  rotate_left
  ·intro w' hSw
   (try dsimp only at hSw)
   obtain ⟨k0, k1, k2, k3, k4, k5, k6, k7, k8, k9⟩ := CC.out _ hSw
   go_simp
   all_goals (with_reducible rfl)
  try simp only [Act.put, qq]
  refine wpAnyH_take (i := 4) (v := ?_) rfl (by kernel_rfl) (by kernel_rfl) (by kernel_rfl) (fun _ _ _ h => h) (Or.inl ⟨by rfl, ?_⟩) (by assumption) ?_
  rotate_left
  ·intro w' hSw
   (try dsimp only at hSw)
   obtain ⟨k0, k1, k2, k3, k4, k5, k6, k7, k8, k9⟩ := CC.out _ hSw
   go_simp
   all_goals (with_reducible rfl)
  try simp only [Act.put, qq]
  refine wpAnyH_take (i := 5) (v := ?_) rfl (by kernel_rfl) (by kernel_rfl) (by kernel_rfl) (fun _ _ _ h => h) (Or.inl ⟨by rfl, ?_⟩) (by assumption) ?_
  rotate_left
  ·intro w' hSw
   (try dsimp only at hSw)
   obtain ⟨k0, k1, k2, k3, k4, k5, k6, k7, k8, k9⟩ := CC.out _ hSw
   go_simp
   all_goals (with_reducible rfl)
  try simp only [Act.put, qq]
  refine wpAnyH_take (i := 6) (v := ?_) rfl (by kernel_rfl) (by kernel_rfl) (by kernel_rfl) (fun _ _ _ h => h) (Or.inl ⟨by rfl, ?_⟩) (by assumption) ?_
  rotate_left
  ·intro w' hSw
   (try dsimp only at hSw)
   obtain ⟨k0, k1, k2, k3, k4, k5, k6, k7, k8, k9⟩ := CC.out _ hSw
   go_simp
   all_goals (with_reducible rfl)
  try simp only [Act.put, qq]
  refine wpAnyH_take (i := 7) (v := ?_) rfl (by kernel_rfl) (by kernel_rfl) (by kernel_rfl) (fun _ _ _ h => h) (Or.inl ⟨by rfl, ?_⟩) (by assumption) ?_
  rotate_left
  ·intro w' hSw
   (try dsimp only at hSw)
   obtain ⟨k0, k1, k2, k3, k4, k5, k6, k7, k8, k9⟩ := CC.out _ hSw
   go_simp
   all_goals (with_reducible rfl)
  try simp only [Act.put, qq]
  refine wpAnyH_take (i := 8) (v := ?_) rfl (by kernel_rfl) (by kernel_rfl) (by kernel_rfl) (fun _ _ _ h => h) (Or.inl ⟨by rfl, ?_⟩) (by assumption) ?_
  rotate_left
  ·intro w' hSw
   (try dsimp only at hSw)
   obtain ⟨k0, k1, k2, k3, k4, k5, k6, k7, k8, k9⟩ := CC.out _ hSw
   go_simp
   all_goals (with_reducible rfl)
  try simp only [Act.put, qq]
  refine wpAnyH_take (i := 9) (v := ?_) rfl (by kernel_rfl) (by kernel_rfl) (by kernel_rfl) (fun _ _ _ h => h) (Or.inl ⟨by rfl, ?_⟩) (by assumption) ?_
  rotate_left
  ·intro w' hSw
   (try dsimp only at hSw)
   obtain ⟨k0, k1, k2, k3, k4, k5, k6, k7, k8, k9⟩ := CC.out _ hSw
   go_simp
   all_goals (with_reducible rfl)
  try simp only [Act.put, qq]
  refine wpAnyH_take (i := 10) (v := ?_) rfl (by kernel_rfl) (by kernel_rfl) (by kernel_rfl) (fun _ _ _ h => h) (Or.inl ⟨by rfl, ?_⟩) (by assumption) ?_
  rotate_left
  ·intro w' hSw
   (try dsimp only at hSw)
   obtain ⟨k0, k1, k2, k3, k4, k5, k6, k7, k8, k9⟩ := CC.out _ hSw
   go_simp
   all_goals (with_reducible rfl)
  try simp only [Act.put, qq]
  refine wpAnyH_ready (rs := [11, 15]) (by kernel_rfl) (by simp) ?_
  refine AllReadyH.cons rfl (fun K hK => ?_) (AllReadyH.cons rfl (fun K hK => ?_) AllReadyH.nil)
  ·go_simp
   refine (HPA.out _ bb1).mono ?_
   rintro e w4 ⟨v4, rfl, own, hr⟩
   obtain ⟨A5, c5, D5, q5, C5, f5, rfl⟩ := own.form
   have hq := lm_1 (e := er) hr own
   have bb2 := hq.1
   have mid := h! hq.2
   clear hq hr own
   refine hK.out _ _ bb2 (fun hHeld => ?_)
   clear hK
   try simp only [Act.put, qq]
   refine qT 12 ?_
   try simp only [Act.put, qq]
   refine qT 13 ?_
   try simp only [Act.put, qq]
   refine qT 14 ?_
   try simp only [Act.put, qq]
   refine qR 15 fun K hK => ?_
   go_simp
   refine hK.out _ _ (bb2.alloc bb2.size _) (fun hHeld => ?_)
   clear hK
   try simp only [Act.put, qq]
   refine qR 16 fun K hK => ?_
   go_simp
   refine hK.out _ _ (bb2.alloc bb2.size _) (fun hHeld => ?_)
   clear hK
   try simp only [Act.put, qq]
   refine qT 17 ?_
   try simp only [Act.put, qq]
   refine wpAnyH_done (by kernel_rfl) ?_ _
   go_wp2_with fail
   go_meet
   case rel => exact mid.out
  ·go_simp
   refine hK.out _ _ (bb0 _) (fun hHeld => ?_)
   clear hK
   try simp only [Act.put, qq]
   refine qR 11 fun K hK => ?_
   go_simp
   refine (HPA.out _ (bb0 _)).mono ?_
   rintro e w4 ⟨v4, rfl, own, hr⟩
   obtain ⟨A5, c5, D5, q5, C5, f5, rfl⟩ := own.form
   have hq := lm_2 (e := er) hr own
   have bb2 := hq.1
   obtain ⟨⟨r0, r1, r2, r3, r4, r5, r6⟩, z0, z1, z2, z3, z4, z5, z6⟩ := hq.2.1.seven
   have mid := h! hq.2.2
   unfold put7 at mid
   have kk := below_put7 bb2 (g := u1.heap.size) n! (.int .u8 a.ph) (.int .i64 a.ba) (.slice A5 a.ms.length c5) (.string a.wi) (.string a.va) (.slice D5 a.ps.length q5) (.slice C5 a.ac.length f5)
   unfold put7 at kk
   clear hq hr own
   refine hK.out _ _ bb2 (fun hHeld => ?_)
   clear hK
   try simp only [Act.put, qq]
   refine qT 12 ?_
   try simp only [Act.put, qq]
   refine qT 13 ?_
   try simp only [Act.put, qq]
   refine qT 14 ?_
   try simp only [Act.put, qq]
   refine qR 16 fun K hK => ?_
   go_simp
   refine hK.out _ _ (kk) (fun hHeld => ?_)
   clear hK
   try simp only [Act.put, qq]
   refine qT 17 ?_
   try simp only [Act.put, qq]
   refine wpAnyH_done (by kernel_rfl) ?_ _
   go_wp2_with fail
   go_meet
   case rel => exact mid.out
 case rest =>
  obtain ⟨gM, A5, c5, D5, q5, C5, f5, rfl, rfl, hmb, hmg, hmv, hmo⟩ := hcut
  clear CC HPA
  have SC : Hid (TkS W base g w gM a A5 c5 D5 q5 C5 f5 wc) := h! ⟨S1.out.1.below hmb, ⟨hmv, hmo.mono (Nat.le_trans HBS.out S1.out.2.2.2.2.2.size)⟩, S1.out.2.2.2.2.1.more hmb, bmore S1.out.2.2.2.2.2 hmb HBS.out⟩
  clear hmb hmv hmo S1
  by_cases he : er = 0
  rotate_left
  ·have e1 : (er == 0) = false := by simpa using he
   have HF : Hid (ComPost base g w (DC.mk f (i : Int) 4 b p v) W (.returned (.tuple #[])) wc) := h! ⟨rfl, by
    unfold DC.comes
    rw [if_neg (show ¬ (DC.mk f (i : Int) 4 b p v).k = 1 from (by decide : ¬ (4 : Int) = 1)), if_neg (show ¬ (DC.mk f (i : Int) 4 b p v).k = 3 from (by decide : ¬ (4 : Int) = 3)), if_neg (show ¬ (DC.mk f (i : Int) 4 b p v).k = 2 from (by decide : ¬ (4 : Int) = 2)), if_pos (show (DC.mk f (i : Int) 4 b p v).k = 4 from rfl), if_neg (show ¬ AM.errA (DC.getT w (DC.mk f (i : Int) 4 b p v).t) (DC.mk f (i : Int) 4 b p v).b (DC.mk f (i : Int) 4 b p v).f = 0 from (by rw [← HTT.out, ← HER.out]; exact he : ¬ AM.errA (DC.getT w (i : Int)) b f = 0))]
    exact SC.out.1, SC.out.2.2.1, SC.out.2.2.2⟩
   clear he
   go_wp2_with fail
   go_end0
   exact HF.out
  have e1 : (er == 0) = true := by simpa using he
  have HDC : Hid (DC.comes w (DC.mk f (i : Int) 4 b p v) = ⟨w.ms, w.vs, w.ts.set i a, w.ml, w.ch ++ DC.found (i : Int) tt.ph a⟩) := h! (by
   unfold DC.comes
   rw [if_neg (show ¬ (DC.mk f (i : Int) 4 b p v).k = 1 from (by decide : ¬ (4 : Int) = 1)), if_neg (show ¬ (DC.mk f (i : Int) 4 b p v).k = 3 from (by decide : ¬ (4 : Int) = 3)), if_neg (show ¬ (DC.mk f (i : Int) 4 b p v).k = 2 from (by decide : ¬ (4 : Int) = 2)), if_pos (show (DC.mk f (i : Int) 4 b p v).k = 4 from rfl), if_pos (show AM.errA (DC.getT w (DC.mk f (i : Int) 4 b p v).t) (DC.mk f (i : Int) 4 b p v).b (DC.mk f (i : Int) 4 b p v).f = 0 from (by rw [← HTT.out, ← HER.out]; exact he : AM.errA (DC.getT w (i : Int)) b f = 0))]
   show (⟨w.ms, w.vs, w.ts.set (i : Int).toNat (AM.acc (DC.getT w (i : Int)) b f), w.ml, w.ch ++ DC.found (i : Int) (DC.getT w (i : Int)).ph (AM.acc (DC.getT w (i : Int)) b f)⟩ : DC.Wd) = _
   rw [← HTT.out, ← HAA.out, Int.toNat_natCast])
  clear he
  obtain ⟨A0, c0, A1, c1, A2, c2, A3, c3, A4, c4, xs, hgb, hx, o0, o1, o2, ht, o3, o4⟩ := SC.out.1
  obtain ⟨q2, x, y, z, rfl, hqb, _, t0, t1, t2, t3, t4, t5, t6⟩ := try_cells o2 ht HT.out rfl
  obtain ⟨⟨s0, s1, s2, s3, s4, s5, s6⟩, _⟩ := SC.out.2.1.1.seven
  obtain ⟨⟨g0, g1, g2, g3, g4⟩, _⟩ := hx.five
  have hgq := row_ne o2 (by have := LT6.out; omega) SC.out.2.1.1 (by omega) rfl
  have hthere := there_own (o := i * 7) (k := 7) o2 (by have := LT6.out; omega)
  have hst := wd_setT (W := wc.drew) (i := i) (t := a) hgb hx o0 o1 o2 ht o3 o4 (by have := LT6.out; omega) SC.out.2.1.2
  have hnx : WdAt (putAt7 wc.drew q2 (i * 7) (.int .u8 a.ph) (.int .i64 a.ba) (.slice A5 a.ms.length c5) (.string a.wi) (.string a.va) (.slice D5 a.ps.length q5) (.slice C5 a.ac.length f5)) base g ⟨w.ms, w.vs, w.ts.set i a, w.ml, w.ch⟩ ∧ Kept isTk W (putAt7 wc.drew q2 (i * 7) (.int .u8 a.ph) (.int .i64 a.ba) (.slice A5 a.ms.length c5) (.string a.wi) (.string a.va) (.slice D5 a.ps.length q5) (.slice C5 a.ac.length f5)) ∧ Below base W (putAt7 wc.drew q2 (i * 7) (.int .u8 a.ph) (.int .i64 a.ba) (.slice A5 a.ms.length c5) (.string a.wi) (.string a.va) (.slice D5 a.ps.length q5) (.slice C5 a.ac.length f5)) :=
   ⟨hst.1, (SC.out.2.2.1.more ((Below.refl _ _).drew)).trans (hst.2.1.mono fun _ h => tk_of_a h), below_more (bmore SC.out.2.2.2 ((Below.refl _ _).drew) HBS.out) hst.2.2⟩
  have hks : (putAt7 wc.drew q2 (i * 7) (.int .u8 a.ph) (.int .i64 a.ba) (.slice A5 a.ms.length c5) (.string a.wi) (.string a.va) (.slice D5 a.ps.length q5) (.slice C5 a.ac.length f5)).cell? ⟨g, 2, none⟩ = some (.slice (some ⟨q2, 0, none⟩) w.ts.length c2) ∧ (putAt7 wc.drew q2 (i * 7) (.int .u8 a.ph) (.int .i64 a.ba) (.slice A5 a.ms.length c5) (.string a.wi) (.string a.va) (.slice D5 a.ps.length q5) (.slice C5 a.ac.length f5)).cell? ⟨gM, 0, none⟩ = some (.int .u8 a.ph) ∧ (putAt7 wc.drew q2 (i * 7) (.int .u8 a.ph) (.int .i64 a.ba) (.slice A5 a.ms.length c5) (.string a.wi) (.string a.va) (.slice D5 a.ps.length q5) (.slice C5 a.ac.length f5)).cell? ⟨gM, 1, none⟩ = some (.int .i64 a.ba) ∧ (putAt7 wc.drew q2 (i * 7) (.int .u8 a.ph) (.int .i64 a.ba) (.slice A5 a.ms.length c5) (.string a.wi) (.string a.va) (.slice D5 a.ps.length q5) (.slice C5 a.ac.length f5)).cell? ⟨gM, 2, none⟩ = some (.slice A5 a.ms.length c5) ∧ (putAt7 wc.drew q2 (i * 7) (.int .u8 a.ph) (.int .i64 a.ba) (.slice A5 a.ms.length c5) (.string a.wi) (.string a.va) (.slice D5 a.ps.length q5) (.slice C5 a.ac.length f5)).cell? ⟨gM, 3, none⟩ = some (.string a.wi) ∧ (putAt7 wc.drew q2 (i * 7) (.int .u8 a.ph) (.int .i64 a.ba) (.slice A5 a.ms.length c5) (.string a.wi) (.string a.va) (.slice D5 a.ps.length q5) (.slice C5 a.ac.length f5)).cell? ⟨gM, 4, none⟩ = some (.string a.va) ∧ (putAt7 wc.drew q2 (i * 7) (.int .u8 a.ph) (.int .i64 a.ba) (.slice A5 a.ms.length c5) (.string a.wi) (.string a.va) (.slice D5 a.ps.length q5) (.slice C5 a.ac.length f5)).cell? ⟨gM, 5, none⟩ = some (.slice D5 a.ps.length q5) ∧ (putAt7 wc.drew q2 (i * 7) (.int .u8 a.ph) (.int .i64 a.ba) (.slice A5 a.ms.length c5) (.string a.wi) (.string a.va) (.slice D5 a.ps.length q5) (.slice C5 a.ac.length f5)).cell? ⟨gM, 6, none⟩ = some (.slice C5 a.ac.length f5) := by
   have hgx := hst.2.1.box _ _ _ (show ¬ isA 28 by unfold isA; decide) (show Box wc.drew g _ _ from hx)
   have hmx := box_at7 (o := i * 7) (show Box wc.drew gM _ _ from SC.out.2.1.1) hgq (.int .u8 a.ph) (.int .i64 a.ba) (.slice A5 a.ms.length c5) (.string a.wi) (.string a.va) (.slice D5 a.ps.length q5) (.slice C5 a.ac.length f5)
   exact ⟨hgx.cell 2, hmx.cell 0, hmx.cell 1, hmx.cell 2, hmx.cell 3, hmx.cell 4, hmx.cell 5, hmx.cell 6⟩
  have NX := h! hnx
  have KS := h! hks
  clear hks hst hnx hgq hgb hx o0 o1 o2 ht o3 o4 hqb t1 t2 t3 t4 t5 t6
  go_upto_region 23 with (fail)
  go_cut [132] (fun _ wx => WdAt wx base g ⟨w.ms, w.vs, w.ts.set i a, w.ml, w.ch⟩ ∧ Kept isTk W wx ∧ Below base W wx)
  case first =>
   have hS0 : wc.drew.cell? ⟨g, 2, none⟩ = some (.slice (some ⟨q2, 0, none⟩) w.ts.length c2) ∧ wc.drew.cell? ⟨gM, 0, none⟩ = some (.int .u8 a.ph) ∧ wc.drew.cell? ⟨gM, 1, none⟩ = some (.int .i64 a.ba) ∧ wc.drew.cell? ⟨gM, 2, none⟩ = some (.slice A5 a.ms.length c5) ∧ wc.drew.cell? ⟨gM, 3, none⟩ = some (.string a.wi) ∧ wc.drew.cell? ⟨gM, 4, none⟩ = some (.string a.va) ∧ wc.drew.cell? ⟨gM, 5, none⟩ = some (.slice D5 a.ps.length q5) ∧ wc.drew.cell? ⟨gM, 6, none⟩ = some (.slice C5 a.ac.length f5) := ⟨g2, s0, s1, s2, s3, s4, s5, s6⟩
   have hS1 := KS.out
   refine wp_region_held_drew (S := fun w' => w'.cell? ⟨g, 2, none⟩ = some (.slice (some ⟨q2, 0, none⟩) w.ts.length c2) ∧ w'.cell? ⟨gM, 0, none⟩ = some (.int .u8 a.ph) ∧ w'.cell? ⟨gM, 1, none⟩ = some (.int .i64 a.ba) ∧ w'.cell? ⟨gM, 2, none⟩ = some (.slice A5 a.ms.length c5) ∧ w'.cell? ⟨gM, 3, none⟩ = some (.string a.wi) ∧ w'.cell? ⟨gM, 4, none⟩ = some (.string a.va) ∧ w'.cell? ⟨gM, 5, none⟩ = some (.slice D5 a.ps.length q5) ∧ w'.cell? ⟨gM, 6, none⟩ = some (.slice C5 a.ac.length f5)) (by kernel_rfl) hS0 (fun hHeld => ?_)
   refine qT 0 ?_
   try simp only [Act.put, qq]
   refine qT 1 ?_
   try simp only [Act.put, qq]
   refine qT 2 ?_
   try simp only [Act.put, qq]
   refine qT 3 ?_
   try simp only [Act.put, qq]
   refine qT 4 ?_
   try simp only [Act.put, qq]
   refine qT 5 ?_
   try simp only [Act.put, qq]
   refine qT 6 ?_
   try simp only [Act.put, qq]
   refine qR 7 fun K hK => ?_
   refine step_store_mid rfl 57 _ _ rfl q2 (i * 7) #[.int .u8 a.ph, .int .i64 a.ba, .slice A5 a.ms.length c5, .string a.wi, .string a.va, .slice D5 a.ps.length q5, .slice C5 a.ac.length f5] (by simp [Act.eval, Act.put]) (by simp [Act.eval, Act.put]) hthere (by kernel_rfl) (by simp [Value.oneCell']) ?_
   refine hK.out _ _ hS1 (fun hHeld => ?_)
   clear hK
   try simp only [Act.put, qq]
   refine wpAnyH_done (by kernel_rfl) ?_ _
   go_wp2_with fail
   go_meet
   case rel => exact NX.out
  case rest =>
   clear NX KS s0 s1 s2 s3 s4 s5 s6 g0 g1 g2 g3 g4 hthere t0 SC
   have S4 := h! hcut
   clear hcut
   have HFD := h! (found_any base g i ⟨w.ms, w.vs, w.ts.set i a, w.ml, w.ch⟩ tt.ph wc S4.out.1 (Nat.le_trans HBS.out S4.out.2.2.size) (by show i < (w.ts.set i a).length; rw [List.length_set]; have := LT6.out; omega) (by show w.ch.length ≤ 2000; have := LEN.out.2; omega))
   have HFIN : Hid (∀ wy, FndPost base g ⟨w.ms, w.vs, w.ts.set i a, w.ml, w.ch⟩ (i : Int) tt.ph wc (.returned (.tuple #[])) wy → ComPost base g w (DC.mk f (i : Int) 4 b p v) W (.returned (.tuple #[])) wy) := h! fun wy h => by
    obtain ⟨_, h2, h3, h4⟩ := h
    refine ⟨rfl, ?_, S4.out.2.1.trans (h3.mono fun _ h => tk_of_wc h), below_more S4.out.2.2 h4⟩
    rw [getT_set (by have := LT6.out; omega)] at h2
    rw [HDC.out]
    exact h2
   go_wp2_with fail
   refine HFD.out.mono ?_
   rintro e wz hz
   obtain ⟨rfl, hz2⟩ := hz
   have HZ := h! (HFIN.out wz ⟨rfl, hz2⟩)
   clear hz2 HFD HFIN
   go_wp2_with fail
   go_end0
   exact HZ.out
theorem comes_any (base g : Nat) (w : DC.Wd) (m : DC.Ml) (W : World) (H : WdAt W base g w) (h0 : DC.May0 w) (hm : DC.MayM m) (hbase : base ≤ W.heap.size) (hl : w.ml.length ≤ 1000) (hch : w.ch.length ≤ 1000) (hp63 : m.p ≤ 9223372036854775807) :
  Calls Tryz.prog 28 #[.pointer (some ⟨g, 0, none⟩), .agg #[.int .i64 m.f, .int .i64 m.t, .int .u8 m.k, .int .i64 m.g, .int .i64 m.s, .int .i64 m.b, .int .i64 m.p, .string m.v, .int .i64 m.i, .int .i64 m.m]] W (ComPost base g w m W) := by
 obtain ⟨e, hf, ht, k1, k5, hb, hp, hv⟩ := hm
 obtain ⟨i, hi, hi6⟩ : ∃ i : Nat, m.t = (i : Int) ∧ i < 6 := ⟨m.t.toNat, (DC.node_nat ht).1.symm, (DC.node_nat ht).2⟩
 have hm' : DC.MayM m := ⟨e, hf, ht, k1, k5, hb, hp, hv⟩
 have e2 : m = DC.mk m.f (i : Int) m.k m.b m.p m.v := by rw [← hi]; exact e
 generalize m.f = f at *
 generalize m.k = k at *
 generalize m.b = b at *
 generalize m.p = p at *
 generalize m.v = v at *
 subst e2
 rcases (show k = 1 ∨ k = 2 ∨ k = 3 ∨ k = 4 ∨ k = 5 by omega) with rfl | rfl | rfl | rfl | rfl
 ·exact comes_1 base g i w f b p v W H h0 hi6 hm' hbase hl hch
 ·exact comes_2 base g i w f b p v W H h0 hi6 hm' hbase hl hch hp63
 ·exact comes_3 base g i w f b p v W H h0 hi6 hm' hbase hl hch
 ·exact comes_4 base g i w f b p v W H h0 hi6 hm' hbase hl hch
 ·exact comes_5 base g i w f b p v W H h0 hi6 hm' hbase hl hch
end Go.Proofs.YtiiobafcgdelmaaGreat
