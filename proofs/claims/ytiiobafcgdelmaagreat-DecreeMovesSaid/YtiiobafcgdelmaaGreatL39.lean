/- Contracts of functions of towncrier, layers 5 to 9, and of the document's own ones, part 39; each as its theorem says. -/
import Derived.Test.YtiiobafcgdelmaaGreatL01
import Derived.Test.YtiiobafcgdelmaaGreatL31
import Derived.Test.YtiiobafcgdelmaaGreatL38
import Derived.Test.YtiiobafcgdelmaaGreatL33
import Derived.Test.YtiiobafcgdelmaaGreatL15
set_option linter.unusedVariables false
set_option linter.unusedSimpArgs false
namespace Go.Proofs.YtiiobafcgdelmaaGreat
open Go.RowKit Go.Shelf
def TakPost (base g : Nat) (w : DC.Wd) (n k : Int) (p : AM.Pr) (W : World) (e : Ending) (W' : World) : Prop :=
 e = .returned (.tuple #[]) ∧ WdAt W' base g (DC.takes w n k p) ∧ Kept isTk W W' ∧ Below base W W'
def TkS (W : World) (base g : Nat) (w : DC.Wd) (gM : Nat) (a : AM.At) (A : Option Addr) (c : Nat) (D : Option Addr) (q : Nat) (C : Option Addr) (f : Nat) (wx : World) : Prop :=
 WdAt wx base g w ∧ TryVar wx base gM a A c D q C f ∧ Kept isTk W wx ∧ Below base W wx
section
variable {W wx wy : World} {base g : Nat} {w : DC.Wd} {gM : Nat} {a : AM.At} {A D C : Option Addr} {c q f : Nat}
theorem TkS.below (h : TkS W base g w gM a A c D q C f wx) (hb : Below wx.heap.size wx wy) (hbase : base ≤ W.heap.size) : TkS W base g w gM a A c D q C f wy :=
 ⟨h.1.below hb, ⟨h.2.1.1.below hb h.2.1.1.lt, h.2.1.2.below hb⟩, h.2.2.1.more hb, bmore h.2.2.2 hb hbase⟩
end
theorem tk_of_wm {e : TypeId} (h : isWM e) : isTk e := by rcases h with h | h; (· exact .inl h); (· exact .inr (.inl h))
theorem tk_of_wc {e : TypeId} (h : isWC e) : isTk e := by rcases h with h | h; (· exact .inl h); (· exact .inr (.inr (.inl h)))
theorem tk_of_a {e : TypeId} (h : isA e) : isTk e := .inr (.inr (.inr (.inl h)))
theorem tk_of_v {e : TypeId} (h : isV e) : isTk e := .inr (.inr (.inr (.inr h)))
set_option maxRecDepth 100000 in
set_option maxHeartbeats 8000000 in
theorem takes_any (base g i : Nat) (w : DC.Wd) (k : Int) (p : AM.Pr) (W : World) (H : WdAt W base g w) (h0 : DC.May0 w) (hi : i < 6) (FP : FitP p) (hbase : base ≤ W.heap.size) (hl : w.ml.length ≤ 1900) (hch : w.ch.length ≤ 1900) :
  Calls Tryz.prog 59 #[.pointer (some ⟨g, 0, none⟩), .int .i64 (i : Int), .int .i64 k, .agg #[.int .i64 p.n, .int .i64 p.b, .string p.v]] W (TakPost base g w (i : Int) k p W) := by
 have hn : DC.isNode (i : Int) := by unfold DC.isNode; omega
 have LT6 := h! h0.tl
 have LV6 := h! h0.vl
 have hit : i < w.ts.length := by rw [h0.tl]; exact hi
 have hiv : i < w.vs.length := by rw [h0.vl]; exact hi
 have hTt : w.ts[i]? = some (DC.getT w (i : Int)) := by have := DC.getT_at h0.tl hn; rwa [Int.toNat_natCast] at this
 have hVv : w.vs[i]? = some (DC.getV w (i : Int)) := by have := DC.getV_at h0.vl hn; rwa [Int.toNat_natCast] at this
 have hmt := h0.try_ hn
 have hvm := h0.vote hn
 have F := fit_mayT hmt
 obtain ⟨W0, hW0⟩ : ∃ W0, W0 = W.alloc (.cells #[.int .i64 p.n, .int .i64 p.b, .string p.v] 86) := ⟨_, rfl⟩
 have hb0 : Below W.heap.size W W0 := by rw [hW0]; exact (Below.refl _ _).alloc n! _
 have XP := h! (show Box W0 W.heap.size 86 #[.int .i64 p.n, .int .i64 p.b, .string p.v] by rw [hW0]; exact Box.new _ _ _)
 have BW := h! hb0
 have HWd := h! (H.below hb0)
 obtain ⟨A0, c0, A1, c1, A2, c2, A3, c3, A4, c4, xs, hgb, hx, o0, o1, o2, ht, o3, o4⟩ := HWd.out
 obtain ⟨q, x, y, z, rfl, hqb, hown, t0, t1, t2, t3, t4, t5, t6⟩ := try_cells o2 ht hTt rfl
 have hblt : q < W0.heap.size := by obtain ⟨_, cur, hc⟩ := own_block o2 (show (Value.slice (some ⟨q, 0, none⟩) w.ts.length c2).ownBlock = some q from rfl); exact hc.lt
 have hglt := hx.lt
 have CC := h! (fun (w' : World) (hb : Below W0.heap.size W0 w') => (⟨(hx.below hb hglt).cell 2, (XP.out.below hb XP.out.lt).cell 0, (XP.out.below hb XP.out.lt).cell 1, (XP.out.below hb XP.out.lt).cell 2, (hb.cell hblt).trans t0, (hb.cell hblt).trans t1, (hb.cell hblt).trans t2, (hb.cell hblt).trans t3, (hb.cell hblt).trans t4, (hb.cell hblt).trans t5, (hb.cell hblt).trans t6⟩ :
  w'.cell? ⟨g, 2, none⟩ = some (.slice (some ⟨q, 0, none⟩) w.ts.length c2) ∧ w'.cell? ⟨W.heap.size, 0, none⟩ = some (.int .i64 p.n) ∧ w'.cell? ⟨W.heap.size, 1, none⟩ = some (.int .i64 p.b) ∧ w'.cell? ⟨W.heap.size, 2, none⟩ = some (.string p.v) ∧
  w'.cell? ⟨q, i * 7, none⟩ = some (.int .u8 (DC.getT w (i : Int)).ph) ∧ w'.cell? ⟨q, i * 7 + 1, none⟩ = some (.int .i64 (DC.getT w (i : Int)).ba) ∧ w'.cell? ⟨q, i * 7 + 2, none⟩ = some x ∧ w'.cell? ⟨q, i * 7 + 3, none⟩ = some (.string (DC.getT w (i : Int)).wi) ∧ w'.cell? ⟨q, i * 7 + 4, none⟩ = some (.string (DC.getT w (i : Int)).va) ∧ w'.cell? ⟨q, i * 7 + 5, none⟩ = some y ∧ w'.cell? ⟨q, i * 7 + 6, none⟩ = some z))
 have HPR := h! (fun (W' : World) (hb : Below W0.heap.size W0 W') => rprom_any _ (DC.getT w (i : Int)) k p W' (hown.below hb).is F FP hown.cap)
 have hi0 : (0 : Int) ≤ (i : Int) := by omega
 have hi1 : (i : Int) < (w.ts.length : Int) := by omega
 have hi2 : (i : Int) < (w.vs.length : Int) := by omega
 obtain ⟨er, her⟩ : ∃ er, er = AM.errP (DC.getT w (i : Int)) k p := ⟨_, rfl⟩
 obtain ⟨a, ha⟩ : ∃ a, a = AM.prom (DC.getT w (i : Int)) k p := ⟨_, rfl⟩
 rw [← her, ← ha] at HPR
 -- what is answered, way by way
 have hA : er ≠ 0 → DC.takes w (i : Int) k p = w := fun e => by unfold DC.takes; rw [if_neg (by rw [← her]; exact e)]
 have hB : er = 0 → a.ph ≠ 2 → DC.takes w (i : Int) k p = ⟨w.ms, w.vs, w.ts.set i a, w.ml, w.ch⟩ := fun e e2 => by unfold DC.takes; rw [if_pos (by rw [← her]; exact e), ← ha, if_neg e2, Int.toNat_natCast]
 have hC : er = 0 → a.ph = 2 → DC.takes w (i : Int) k p = DC.tells w (i : Int) a := fun e e2 => by unfold DC.takes; rw [if_pos (by rw [← her]; exact e), ← ha, if_pos e2]
 have hTell : er = 0 → a.ph = 2 → DC.Tell w.ms (i : Int) a := fun e e2 => by
  have hm := DC.prom_t hmt (by rw [← her]; exact e)
  rw [← ha] at hm
  refine ⟨hm.1, by omega, ?_, ?_⟩
  ·rcases hm.2 with h | h
   ·omega
   ·exact h.1
  ·rcases hm.2 with h | h
   ·omega
   ·exact h.2
 have FA : er = 0 → Fit a := fun e => by rw [ha]; exact fit_prom F FP
 have HA := h! hA
 have HB := h! hB
 have HC := h! hC
 have HTL := h! hTell
 have HFA := h! FA
 have HVM := h! hvm
 have HVV := h! hVv
 have HMS := h! h0.ms
 have HBS := h! hbase
 have HN := h! hn
 have LEN := h! (And.intro hit (And.intro hiv (And.intro hl hch)))
 have HGB := h! hgb
 have mixed : Tryz.prog.follows Departure.mixedOrders = true := by kernel_rfl
 clear hA hB hC hTell FA hvm hVv hbase hn hmt F h0 hTt hx o0 o1 o2 ht o3 o4 hown t0 t1 t2 t3 t4 t5 t6 her ha hqb H hl hch hgb hit hiv
 generalize DC.getT w (i : Int) = tt at CC HPR
 go_enter Tryz.func59, Tryz.ntmps59
 go_upto_region 1 with (fail)
 rw [← hW0]
 clear hW0
 go_cut [8, 9] (fun u9 u10 wx => LoopMid W0 a er u9 u10 wx)
 case first =>
  have bb1 : Below W0.heap.size W0 W0.drew := (Below.refl _ _).drew
  have bb0 : ∀ ob : Obj, Below W0.heap.size W0 (W0.alloc ob).drew := fun ob => ((Below.refl _ _).alloc n! ob).drew
  refine wp_region_held_drew (S := fun w' => Below W0.heap.size W0 w') (by kernel_rfl) bb1 (fun hHeld => ?_)
  refine wpAnyH_take (i := 0) (v := ?_) rfl (by kernel_rfl) (by kernel_rfl) (by kernel_rfl) (fun _ _ _ h => h) (Or.inl ⟨by rfl, ?_⟩) (by assumption) ?_
  rotate_left
  ·intro w' hSw
   (try dsimp only at hSw)
   obtain ⟨k0, k1, k2, k3, k4, k5, k6, k7, k8, k9, k10⟩ := CC.out _ hSw
   go_simp
   all_goals (with_reducible rfl)
  try simp only [Act.put, qq]
  refine wpAnyH_take (i := 1) (v := ?_) rfl (by kernel_rfl) (by kernel_rfl) (by kernel_rfl) (fun _ _ _ h => h) (Or.inl ⟨by rfl, ?_⟩) (by assumption) ?_
  rotate_left
  ·intro w' hSw
   (try dsimp only at hSw)
   obtain ⟨k0, k1, k2, k3, k4, k5, k6, k7, k8, k9, k10⟩ := CC.out _ hSw
   go_simp
   all_goals (with_reducible rfl)
  try simp only [Act.put, qq]
  refine wpAnyH_take (i := 2) (v := ?_) rfl (by kernel_rfl) (by kernel_rfl) (by kernel_rfl) (fun _ _ _ h => h) (Or.inl ⟨by rfl, ?_⟩) (by assumption) ?_
  rotate_left
  ·intro w' hSw
   (try dsimp only at hSw)
   obtain ⟨k0, k1, k2, k3, k4, k5, k6, k7, k8, k9, k10⟩ := CC.out _ hSw
   go_simp
   all_goals (with_reducible rfl)
  try simp only [Act.put, qq]
  refine wpAnyH_take (i := 3) (v := ?_) rfl (by kernel_rfl) (by kernel_rfl) (by kernel_rfl) (fun _ _ _ h => h) (Or.inl ⟨by rfl, ?_⟩) (by assumption) ?_
  rotate_left
  ·intro w' hSw
   (try dsimp only at hSw)
   obtain ⟨k0, k1, k2, k3, k4, k5, k6, k7, k8, k9, k10⟩ := CC.out _ hSw
   go_simp
   all_goals (with_reducible rfl)
  try simp only [Act.put, qq]
  refine wpAnyH_take (i := 4) (v := ?_) rfl (by kernel_rfl) (by kernel_rfl) (by kernel_rfl) (fun _ _ _ h => h) (Or.inl ⟨by rfl, ?_⟩) (by assumption) ?_
  rotate_left
  ·intro w' hSw
   (try dsimp only at hSw)
   obtain ⟨k0, k1, k2, k3, k4, k5, k6, k7, k8, k9, k10⟩ := CC.out _ hSw
   go_simp
   all_goals (with_reducible rfl)
  try simp only [Act.put, qq]
  refine wpAnyH_take (i := 5) (v := ?_) rfl (by kernel_rfl) (by kernel_rfl) (by kernel_rfl) (fun _ _ _ h => h) (Or.inl ⟨by rfl, ?_⟩) (by assumption) ?_
  rotate_left
  ·intro w' hSw
   (try dsimp only at hSw)
   obtain ⟨k0, k1, k2, k3, k4, k5, k6, k7, k8, k9, k10⟩ := CC.out _ hSw
   go_simp
   all_goals (with_reducible rfl)
  try simp only [Act.put, qq]
  refine wpAnyH_take (i := 6) (v := ?_) rfl (by kernel_rfl) (by kernel_rfl) (by kernel_rfl) (fun _ _ _ h => h) (Or.inl ⟨by rfl, ?_⟩) (by assumption) ?_
  rotate_left
  ·intro w' hSw
   (try dsimp only at hSw)
   obtain ⟨k0, k1, k2, k3, k4, k5, k6, k7, k8, k9, k10⟩ := CC.out _ hSw
   go_simp
   all_goals (with_reducible rfl)
  try simp only [Act.put, qq]
  refine wpAnyH_take (i := 7) (v := ?_) rfl (by kernel_rfl) (by kernel_rfl) (by kernel_rfl) (fun _ _ _ h => h) (Or.inl ⟨by rfl, ?_⟩) (by assumption) ?_
  rotate_left
  ·intro w' hSw
   (try dsimp only at hSw)
   obtain ⟨k0, k1, k2, k3, k4, k5, k6, k7, k8, k9, k10⟩ := CC.out _ hSw
   go_simp
   all_goals (with_reducible rfl)
  try simp only [Act.put, qq]
  refine wpAnyH_take (i := 8) (v := ?_) rfl (by kernel_rfl) (by kernel_rfl) (by kernel_rfl) (fun _ _ _ h => h) (Or.inl ⟨by rfl, ?_⟩) (by assumption) ?_
  rotate_left
  ·intro w' hSw
   (try dsimp only at hSw)
   obtain ⟨k0, k1, k2, k3, k4, k5, k6, k7, k8, k9, k10⟩ := CC.out _ hSw
   go_simp
   all_goals (with_reducible rfl)
  try simp only [Act.put, qq]
  refine wpAnyH_ready (rs := [9, 13]) (by kernel_rfl) (by simp) ?_
  refine AllReadyH.cons rfl (fun K hK => ?_) (AllReadyH.cons rfl (fun K hK => ?_) AllReadyH.nil)
  ·go_simp
   refine (HPR.out _ bb1).mono ?_
   rintro e w4 ⟨v, rfl, own, hr⟩
   obtain ⟨A5, c5, D5, q5, C5, f5, rfl⟩ := own.form
   have hq := lm_1 (e := er) hr own
   have bb2 := hq.1
   have mid := h! hq.2
   clear hq hr own
   refine hK.out _ _ bb2 (fun hHeld => ?_)
   clear hK
   try simp only [Act.put, qq]
   refine qT 10 ?_
   try simp only [Act.put, qq]
   refine qT 11 ?_
   try simp only [Act.put, qq]
   refine qT 12 ?_
   try simp only [Act.put, qq]
   refine qR 13 fun K hK => ?_
   go_simp
   refine hK.out _ _ (bb2.alloc bb2.size _) (fun hHeld => ?_)
   clear hK
   try simp only [Act.put, qq]
   refine qR 14 fun K hK => ?_
   go_simp
   refine hK.out _ _ (bb2.alloc bb2.size _) (fun hHeld => ?_)
   clear hK
   try simp only [Act.put, qq]
   refine qT 15 ?_
   try simp only [Act.put, qq]
   refine wpAnyH_done (by kernel_rfl) ?_ _
   go_wp2_with fail
   go_meet
   case rel => exact mid.out
  ·go_simp
   refine hK.out _ _ (bb0 _) (fun hHeld => ?_)
   clear hK
   try simp only [Act.put, qq]
   refine qR 9 fun K hK => ?_
   go_simp
   refine (HPR.out _ (bb0 _)).mono ?_
   rintro e w4 ⟨v, rfl, own, hr⟩
   obtain ⟨A5, c5, D5, q5, C5, f5, rfl⟩ := own.form
   have hq := lm_2 (e := er) hr own
   have bb2 := hq.1
   obtain ⟨⟨r0, r1, r2, r3, r4, r5, r6⟩, z0, z1, z2, z3, z4, z5, z6⟩ := hq.2.1.seven
   have mid := h! hq.2.2
   unfold put7 at mid
   have kk := below_put7 bb2 (g := W0.heap.size) n! (.int .u8 a.ph) (.int .i64 a.ba) (.slice A5 a.ms.length c5) (.string a.wi) (.string a.va) (.slice D5 a.ps.length q5) (.slice C5 a.ac.length f5)
   unfold put7 at kk
   clear hq hr own
   refine hK.out _ _ bb2 (fun hHeld => ?_)
   clear hK
   try simp only [Act.put, qq]
   refine qT 10 ?_
   try simp only [Act.put, qq]
   refine qT 11 ?_
   try simp only [Act.put, qq]
   refine qT 12 ?_
   try simp only [Act.put, qq]
   refine qR 14 fun K hK => ?_
   go_simp
   refine hK.out _ _ (kk) (fun hHeld => ?_)
   clear hK
   try simp only [Act.put, qq]
   refine qT 15 ?_
   try simp only [Act.put, qq]
   refine wpAnyH_done (by kernel_rfl) ?_ _
   go_wp2_with fail
   go_meet
   case rel => exact mid.out
 case rest =>
  obtain ⟨gM, A5, c5, D5, q5, C5, f5, rfl, rfl, hmb, hmg, hmv, hmo⟩ := hcut
  clear CC HPR
  have WC := h! (HWd.out.below hmb)
  have KC := h! ((Kept.of_below (S := isTk) BW.out).more hmb)
  have BC := h! (bmore (BW.out.mono HBS.out) hmb HBS.out)
  have XM := h! hmv
  have OM := h! (hmo.mono (show base ≤ W0.heap.size from Nat.le_trans HBS.out BW.out.size))
  have NBB := h! (show W.heap.size < W0.heap.size from XP.out.lt)
  clear hmb hmv hmo HWd BW
  by_cases he : er = 0
  rotate_left
  ·have e1 : (er != 0) = true := by simpa using he
   have HF : Hid (TakPost base g w (i : Int) k p W (.returned (.tuple #[])) wc) := h! ⟨rfl, by rw [HA.out he]; exact WC.out, KC.out, BC.out⟩
   clear he
   go_wp2_with fail
   go_end0
   exact HF.out
  have e1 : (er != 0) = false := by simpa using he
  have HE := h! he
  clear he HA
  have SC : Hid (TkS W base g w gM a A5 c5 D5 q5 C5 f5 wc) := h! ⟨WC.out, ⟨XM.out, OM.out⟩, KC.out, BC.out⟩
  clear WC KC BC XM OM
  obtain ⟨lt, lv, ll, lc⟩ := LEN.out
  obtain ⟨A0, c0, A1, c1, A2, c2, A3, c3, A4, c4, xs, hgb, hx, o0, o1, o2, ht, o3, o4⟩ := SC.out.1
  obtain ⟨q2, rfl, hq2, _⟩ := own_some o2 (by omega)
  obtain ⟨⟨s0, s1, s2, s3, s4, s5, s6⟩, _⟩ := SC.out.2.1.1.seven
  obtain ⟨⟨g0, g1, g2, g3, g4⟩, _⟩ := hx.five
  have hrow := own_block o2 (show (Value.slice (some ⟨q2, 0, none⟩) w.ts.length c2).ownBlock = some q2 from rfl)
  obtain ⟨_, cur, hcur⟩ := hrow
  have hgq := row_ne o2 (by have := lt; have : w.ts.length = 6 := LT6.out; omega) SC.out.2.1.1 (by omega) rfl
  have hthere := there_own (o := i * 7) (k := 7) o2 (by have : w.ts.length = 6 := LT6.out; omega)
  have hst := wd_setT (W := wc.drew) (i := i) (t := a) hgb hx o0 o1 o2 ht o3 o4 lt SC.out.2.1.2
  have hnx : TkS W base g ⟨w.ms, w.vs, w.ts.set i a, w.ml, w.ch⟩ gM a A5 c5 D5 q5 C5 f5 (putAt7 wc.drew q2 (i * 7) (.int .u8 a.ph) (.int .i64 a.ba) (.slice A5 a.ms.length c5) (.string a.wi) (.string a.va) (.slice D5 a.ps.length q5) (.slice C5 a.ac.length f5)) :=
   ⟨hst.1, ⟨box_at7 (show Box wc.drew gM _ _ from SC.out.2.1.1) hgq .., hst.2.1.at_ (show AtOwn wc.drew base _ a from SC.out.2.1.2) (by unfold isA; decide) (by unfold isA; decide)⟩, (SC.out.2.2.1.more ((Below.refl _ _).drew)).trans (hst.2.1.mono fun e h => .inr (.inr (.inr (.inl h)))), below_more (bmore SC.out.2.2.2 ((Below.refl _ _).drew) HBS.out) hst.2.2⟩
  have NX := h! hnx
  have hks : (putAt7 wc.drew q2 (i * 7) (.int .u8 a.ph) (.int .i64 a.ba) (.slice A5 a.ms.length c5) (.string a.wi) (.string a.va) (.slice D5 a.ps.length q5) (.slice C5 a.ac.length f5)).cell? ⟨g, 2, none⟩ = some (.slice (some ⟨q2, 0, none⟩) w.ts.length c2) ∧ (putAt7 wc.drew q2 (i * 7) (.int .u8 a.ph) (.int .i64 a.ba) (.slice A5 a.ms.length c5) (.string a.wi) (.string a.va) (.slice D5 a.ps.length q5) (.slice C5 a.ac.length f5)).cell? ⟨gM, 0, none⟩ = some (.int .u8 a.ph) ∧ (putAt7 wc.drew q2 (i * 7) (.int .u8 a.ph) (.int .i64 a.ba) (.slice A5 a.ms.length c5) (.string a.wi) (.string a.va) (.slice D5 a.ps.length q5) (.slice C5 a.ac.length f5)).cell? ⟨gM, 1, none⟩ = some (.int .i64 a.ba) ∧ (putAt7 wc.drew q2 (i * 7) (.int .u8 a.ph) (.int .i64 a.ba) (.slice A5 a.ms.length c5) (.string a.wi) (.string a.va) (.slice D5 a.ps.length q5) (.slice C5 a.ac.length f5)).cell? ⟨gM, 2, none⟩ = some (.slice A5 a.ms.length c5) ∧ (putAt7 wc.drew q2 (i * 7) (.int .u8 a.ph) (.int .i64 a.ba) (.slice A5 a.ms.length c5) (.string a.wi) (.string a.va) (.slice D5 a.ps.length q5) (.slice C5 a.ac.length f5)).cell? ⟨gM, 3, none⟩ = some (.string a.wi) ∧ (putAt7 wc.drew q2 (i * 7) (.int .u8 a.ph) (.int .i64 a.ba) (.slice A5 a.ms.length c5) (.string a.wi) (.string a.va) (.slice D5 a.ps.length q5) (.slice C5 a.ac.length f5)).cell? ⟨gM, 4, none⟩ = some (.string a.va) ∧ (putAt7 wc.drew q2 (i * 7) (.int .u8 a.ph) (.int .i64 a.ba) (.slice A5 a.ms.length c5) (.string a.wi) (.string a.va) (.slice D5 a.ps.length q5) (.slice C5 a.ac.length f5)).cell? ⟨gM, 5, none⟩ = some (.slice D5 a.ps.length q5) ∧ (putAt7 wc.drew q2 (i * 7) (.int .u8 a.ph) (.int .i64 a.ba) (.slice A5 a.ms.length c5) (.string a.wi) (.string a.va) (.slice D5 a.ps.length q5) (.slice C5 a.ac.length f5)).cell? ⟨gM, 6, none⟩ = some (.slice C5 a.ac.length f5) := by
   have hgx := hst.2.1.box _ _ _ (show ¬ isA 28 by unfold isA; decide) (show Box wc.drew g _ _ from hx)
   have hmx := box_at7 (o := i * 7) (show Box wc.drew gM _ _ from SC.out.2.1.1) hgq (.int .u8 a.ph) (.int .i64 a.ba) (.slice A5 a.ms.length c5) (.string a.wi) (.string a.va) (.slice D5 a.ps.length q5) (.slice C5 a.ac.length f5)
   exact ⟨hgx.cell 2, hmx.cell 0, hmx.cell 1, hmx.cell 2, hmx.cell 3, hmx.cell 4, hmx.cell 5, hmx.cell 6⟩
  have KS := h! hks
  clear hks
  clear hst hnx hgq hcur hgb hx o0 o1 o2 ht o3 o4 lt lv ll lc hq2
  go_upto_region 3 with (fail)
  go_cut [33] (fun _ wx => TkS W base g ⟨w.ms, w.vs, w.ts.set i a, w.ml, w.ch⟩ gM a A5 c5 D5 q5 C5 f5 wx)
  case first =>
   have hS0 : wc.drew.cell? ⟨g, 2, none⟩ = some (.slice (some ⟨q2, 0, none⟩) w.ts.length c2) ∧ wc.drew.cell? ⟨gM, 0, none⟩ = some (.int .u8 a.ph) ∧ wc.drew.cell? ⟨gM, 1, none⟩ = some (.int .i64 a.ba) ∧ wc.drew.cell? ⟨gM, 2, none⟩ = some (.slice A5 a.ms.length c5) ∧ wc.drew.cell? ⟨gM, 3, none⟩ = some (.string a.wi) ∧ wc.drew.cell? ⟨gM, 4, none⟩ = some (.string a.va) ∧ wc.drew.cell? ⟨gM, 5, none⟩ = some (.slice D5 a.ps.length q5) ∧ wc.drew.cell? ⟨gM, 6, none⟩ = some (.slice C5 a.ac.length f5) := ⟨g2, s0, s1, s2, s3, s4, s5, s6⟩
   have hS1 := KS.out
   refine wp_region_held_drew (S := fun w' => w'.cell? ⟨g, 2, none⟩ = some (.slice (some ⟨q2, 0, none⟩) w.ts.length c2) ∧ w'.cell? ⟨gM, 0, none⟩ = some (.int .u8 a.ph) ∧ w'.cell? ⟨gM, 1, none⟩ = some (.int .i64 a.ba) ∧ w'.cell? ⟨gM, 2, none⟩ = some (.slice A5 a.ms.length c5) ∧ w'.cell? ⟨gM, 3, none⟩ = some (.string a.wi) ∧ w'.cell? ⟨gM, 4, none⟩ = some (.string a.va) ∧ w'.cell? ⟨gM, 5, none⟩ = some (.slice D5 a.ps.length q5) ∧ w'.cell? ⟨gM, 6, none⟩ = some (.slice C5 a.ac.length f5)) (by kernel_rfl) hS0 (fun hHeld => ?_)
   refine qT 0 ?_
   try simp only [Act.put, qq]
   refine qT 1 ?_
   try simp only [Act.put, qq]
   refine qT 2 ?_
   try simp only [Act.put, qq]
   refine qT 3 ?_
   try simp only [Act.put, qq]
   refine qT 4 ?_
   try simp only [Act.put, qq]
   refine qT 5 ?_
   try simp only [Act.put, qq]
   refine qT 6 ?_
   try simp only [Act.put, qq]
   refine qR 7 fun K hK => ?_
   refine step_store_mid rfl 57 _ _ rfl q2 (i * 7) #[.int .u8 a.ph, .int .i64 a.ba, .slice A5 a.ms.length c5, .string a.wi, .string a.va, .slice D5 a.ps.length q5, .slice C5 a.ac.length f5] (by simp [Act.eval, Act.put]) (by simp [Act.eval, Act.put]) hthere (by kernel_rfl) (by simp [Value.oneCell']) ?_
   refine hK.out _ _ hS1 (fun hHeld => ?_)
   clear hK
   try simp only [Act.put, qq]
   refine wpAnyH_done (by kernel_rfl) ?_ _
   go_wp2_with fail
   go_meet
   case rel => exact NX.out
  case rest =>
   clear NX KS s0 s1 s2 s3 s4 s5 s6 g0 g1 g2 g3 g4 hthere SC
   have S3 := h! hcut
   clear hcut
   obtain ⟨⟨s0, s1, s2, s3, s4, s5, s6⟩, _⟩ := S3.out.2.1.1.seven
   by_cases hph : a.ph = 2
   rotate_left
   ·have e2 : (a.ph != 2) = true := by simpa using hph
    have HF : Hid (TakPost base g w (i : Int) k p W (.returned (.tuple #[])) wc) := h! ⟨rfl, by rw [HB.out HE.out hph]; exact S3.out.1, S3.out.2.2.1, S3.out.2.2.2⟩
    clear hph
    go_wp2_with fail
    go_end0
    exact HF.out
   have e2 : (a.ph != 2) = false := by simpa using hph
   have HPH := h! hph
   have HT := h! (HTL.out HE.out hph)
   clear hph HB HTL
   obtain ⟨lt, lv, ll, lc⟩ := LEN.out
   have hmsl : w.ms.length ≤ 6 := (QM.may_len HMS.out).2.1
   have HO : Hid (Calls Tryz.prog 58 #[.pointer (some ⟨g, 0, none⟩), .agg #[.int .i64 (i : Int), .int .i64 0, .int .u8 3, .int .i64 0, .int .i64 0, .int .i64 a.ba, .int .i64 0, .string a.va, .int .i64 0, .int .i64 0]] wc (OthPost base g ⟨w.ms, w.vs, w.ts.set i a, w.ml, w.ch⟩ (DC.mk (i : Int) 0 3 a.ba 0 a.va) wc)) :=
    h! (others_any base g ⟨w.ms, w.vs, w.ts.set i a, w.ml, w.ch⟩ (DC.mk (i : Int) 0 3 a.ba 0 a.va) wc S3.out.1 (Nat.le_trans HBS.out S3.out.2.2.2.size) (by show w.ms.length ≤ 2000; omega) (by show w.ml.length ≤ 2000; omega))
   clear lt lv ll lc
   go_wp2_with fail
   refine HO.out.mono ?_
   rintro e w5 ⟨rfl, hW5, hk5, hb5⟩
   clear s0 s1 s2 s3 s4 s5 s6 HO
   have S5 : Hid (TkS W base g (DC.tell1 w (i : Int) a) gM a A5 c5 D5 q5 C5 f5 w5) := h! ⟨hW5, S3.out.2.1.kept hk5 (by unfold isWM; decide) (by unfold isWM; decide) (by unfold isWM; decide), S3.out.2.2.1.trans (hk5.mono fun _ h => tk_of_wm h), below_more S3.out.2.2.2 hb5⟩
   clear hW5 hk5 hb5 S3
   have HNO : Hid (¬ (QM.has w.ms (i : Int) = true ∧ (DC.getV w (i : Int)).p ≤ a.ba) → ∀ wx, TkS W base g (DC.tell1 w (i : Int) a) gM a A5 c5 D5 q5 C5 f5 wx → TakPost base g w (i : Int) k p W (.returned (.tuple #[])) wx) := h! fun hno wx h => ⟨rfl, by rw [HC.out HE.out HPH.out]; unfold DC.tells; rw [if_neg hno]; exact h.1, h.2.2.1, h.2.2.2⟩
   obtain ⟨A0, c0, A1, c1, A2, c2, A3, c3, A4, c4, xs, hgb, hx, o0, o1, o2, ht, o3, o4⟩ := S5.out.1
   obtain ⟨⟨g0, g1, g2, g3, g4⟩, _⟩ := hx.five
   have HH := h! (rHas_any A0 w.ms.length c0 w.ms (i : Int) w5 (Rd.of_own o0) (by omega))
   clear hgb hx o0 o1 o2 ht o3 o4
   go_wp2_with fail
   refine HH.out.mono ?_
   rintro e w6 ⟨rfl, rfl⟩
   clear HH g0 g1 g2 g3 g4 hmsl
   rcases hhas : QM.has w.ms (i : Int) with _ | _
   ·have HF := h! (HNO.out (fun h => by rw [hhas] at h; exact absurd h.1 (by decide)) w5 S5.out)
    clear hhas
    go_wp2_with fail
    go_end0
    exact HF.out
   have HHAS := h! hhas
   clear hhas
   obtain ⟨x, y, tv, ee, hacc⟩ := VM.accIs_ex (DC.getV w (i : Int)).p (DC.getV w (i : Int)).b (DC.getV w (i : Int)).v a.ba a.va
   have HACI := h! hacc
   obtain ⟨A0, c0, A1, c1, A2, c2, A3, c3, A4, c4, xs, hgb, hx, o0, o1, o2, ht, o3, o4⟩ := S5.out.1
   obtain ⟨q1, rfl, hq1, v0, v1, v2⟩ := vote_cells o1 HVV.out rfl
   have hvlt : q1 < w5.heap.size := by obtain ⟨_, cur, hc⟩ := own_block o1 (show (Value.slice (some ⟨q1, 0, none⟩) w.vs.length c1).ownBlock = some q1 from rfl); exact hc.lt
   have hglt := hx.lt
   have CC := h! (fun (w' : World) (hb : Below w5.heap.size w5 w') => (⟨(hx.below hb hglt).cell 1, (S5.out.2.1.1.below hb S5.out.2.1.1.lt).cell 1, (S5.out.2.1.1.below hb S5.out.2.1.1.lt).cell 4, (hb.cell hvlt).trans v0, (hb.cell hvlt).trans v1, (hb.cell hvlt).trans v2⟩ :
    w'.cell? ⟨g, 1, none⟩ = some (.slice (some ⟨q1, 0, none⟩) w.vs.length c1) ∧ w'.cell? ⟨gM, 1, none⟩ = some (.int .i64 a.ba) ∧ w'.cell? ⟨gM, 4, none⟩ = some (.string a.va) ∧
    w'.cell? ⟨q1, i * 3, none⟩ = some (.int .i64 (DC.getV w (i : Int)).p) ∧ w'.cell? ⟨q1, i * 3 + 1, none⟩ = some (.int .i64 (DC.getV w (i : Int)).b) ∧ w'.cell? ⟨q1, i * 3 + 2, none⟩ = some (.string (DC.getV w (i : Int)).v)))
   have HAC := h! (fun (W' : World) => VP.rAcc_any W' (by have := HVM.out.2; unfold maxLen; rcases this with ⟨_, e⟩ | ⟨_, _, _, e⟩; (· rw [e]; decide); (· omega)) (by have := HT.out.va.1; unfold maxLen; omega) hacc)
   clear hgb hx o0 o1 o2 ht o3 o4 v0 v1 v2 hq1 hacc
   generalize hgv : DC.getV w (i : Int) = vt at *
   have HGV := h! hgv
   clear hgv
   go_upto_region 7 with (fail)
   go_cut [10, 9] (fun u v wx => VoteMid w5 x y tv ee u v wx)
   case first =>
    have bb1 : Below w5.heap.size w5 w5.drew := (Below.refl _ _).drew
    have bb0 : ∀ ob : Obj, Below w5.heap.size w5 (w5.alloc ob).drew := fun ob => ((Below.refl _ _).alloc n! ob).drew
    refine wp_region_held_drew (S := fun w' => Below w5.heap.size w5 w') (by kernel_rfl) bb1 (fun hHeld => ?_)
    refine wpAnyH_take (i := 0) (v := ?_) rfl (by kernel_rfl) (by kernel_rfl) (by kernel_rfl) (fun _ _ _ h => h) (Or.inl ⟨by rfl, ?_⟩) (by assumption) ?_
    rotate_left
    ·intro w' hSw
     (try dsimp only at hSw)
     obtain ⟨k0, k1, k2, k3, k4, k5⟩ := CC.out _ hSw
     go_simp
     all_goals (with_reducible rfl)
    try simp only [Act.put, qq]
    refine wpAnyH_take (i := 1) (v := ?_) rfl (by kernel_rfl) (by kernel_rfl) (by kernel_rfl) (fun _ _ _ h => h) (Or.inl ⟨by rfl, ?_⟩) (by assumption) ?_
    rotate_left
    ·intro w' hSw
     (try dsimp only at hSw)
     obtain ⟨k0, k1, k2, k3, k4, k5⟩ := CC.out _ hSw
     go_simp
     all_goals (with_reducible rfl)
    try simp only [Act.put, qq]
    refine wpAnyH_take (i := 2) (v := ?_) rfl (by kernel_rfl) (by kernel_rfl) (by kernel_rfl) (fun _ _ _ h => h) (Or.inl ⟨by rfl, ?_⟩) (by assumption) ?_
    rotate_left
    ·intro w' hSw
     (try dsimp only at hSw)
     obtain ⟨k0, k1, k2, k3, k4, k5⟩ := CC.out _ hSw
     go_simp
     all_goals (with_reducible rfl)
    try simp only [Act.put, qq]
    refine wpAnyH_take (i := 3) (v := ?_) rfl (by kernel_rfl) (by kernel_rfl) (by kernel_rfl) (fun _ _ _ h => h) (Or.inl ⟨by rfl, ?_⟩) (by assumption) ?_
    rotate_left
    ·intro w' hSw
     (try dsimp only at hSw)
     obtain ⟨k0, k1, k2, k3, k4, k5⟩ := CC.out _ hSw
     go_simp
     all_goals (with_reducible rfl)
    try simp only [Act.put, qq]
    refine wpAnyH_take (i := 4) (v := ?_) rfl (by kernel_rfl) (by kernel_rfl) (by kernel_rfl) (fun _ _ _ h => h) (Or.inl ⟨by rfl, ?_⟩) (by assumption) ?_
    rotate_left
    ·intro w' hSw
     (try dsimp only at hSw)
     obtain ⟨k0, k1, k2, k3, k4, k5⟩ := CC.out _ hSw
     go_simp
     all_goals (with_reducible rfl)
    try simp only [Act.put, qq]
    refine wpAnyH_take (i := 5) (v := ?_) rfl (by kernel_rfl) (by kernel_rfl) (by kernel_rfl) (fun _ _ _ h => h) (Or.inl ⟨by rfl, ?_⟩) (by assumption) ?_
    rotate_left
    ·intro w' hSw
     (try dsimp only at hSw)
     obtain ⟨k0, k1, k2, k3, k4, k5⟩ := CC.out _ hSw
     go_simp
     all_goals (with_reducible rfl)
    try simp only [Act.put, qq]
    refine wpAnyH_take (i := 6) (v := ?_) rfl (by kernel_rfl) (by kernel_rfl) (by kernel_rfl) (fun _ _ _ h => h) (Or.inl ⟨by rfl, ?_⟩) (by assumption) ?_
    rotate_left
    ·intro w' hSw
     (try dsimp only at hSw)
     obtain ⟨k0, k1, k2, k3, k4, k5⟩ := CC.out _ hSw
     go_simp
     all_goals (with_reducible rfl)
    try simp only [Act.put, qq]
    refine wpAnyH_take (i := 7) (v := ?_) rfl (by kernel_rfl) (by kernel_rfl) (by kernel_rfl) (fun _ _ _ h => h) (Or.inl ⟨by rfl, ?_⟩) (by assumption) ?_
    rotate_left
    ·intro w' hSw
     (try dsimp only at hSw)
     obtain ⟨k0, k1, k2, k3, k4, k5⟩ := CC.out _ hSw
     go_simp
     all_goals (with_reducible rfl)
    try simp only [Act.put, qq]
    refine wpAnyH_take (i := 8) (v := ?_) rfl (by kernel_rfl) (by kernel_rfl) (by kernel_rfl) (fun _ _ _ h => h) (Or.inl ⟨by rfl, ?_⟩) (by assumption) ?_
    rotate_left
    ·intro w' hSw
     (try dsimp only at hSw)
     obtain ⟨k0, k1, k2, k3, k4, k5⟩ := CC.out _ hSw
     go_simp
     all_goals (with_reducible rfl)
    try simp only [Act.put, qq]
    refine wpAnyH_take (i := 9) (v := ?_) rfl (by kernel_rfl) (by kernel_rfl) (by kernel_rfl) (fun _ _ _ h => h) (Or.inl ⟨by rfl, ?_⟩) (by assumption) ?_
    rotate_left
    ·intro w' hSw
     (try dsimp only at hSw)
     obtain ⟨k0, k1, k2, k3, k4, k5⟩ := CC.out _ hSw
     go_simp
     all_goals (with_reducible rfl)
    try simp only [Act.put, qq]
    refine wpAnyH_take (i := 10) (v := ?_) rfl (by kernel_rfl) (by kernel_rfl) (by kernel_rfl) (fun _ _ _ h => h) (Or.inl ⟨by rfl, ?_⟩) (by assumption) ?_
    rotate_left
    ·intro w' hSw
     (try dsimp only at hSw)
     obtain ⟨k0, k1, k2, k3, k4, k5⟩ := CC.out _ hSw
     go_simp
     all_goals (with_reducible rfl)
    try simp only [Act.put, qq]
    refine wpAnyH_ready (rs := [11, 15]) (by kernel_rfl) (by simp) ?_
    refine AllReadyH.cons rfl (fun K hK => ?_) (AllReadyH.cons rfl (fun K hK => ?_) AllReadyH.nil)
    ·go_simp
     refine (HAC.out _).mono ?_
     rintro e w7 ⟨rfl, hr⟩
     have hq := vm_1 (x := x) (y := y) (e := ee) (t := tv) hr
     have bb2 := hq.1
     have mid := h! hq.2
     clear hq hr
     refine hK.out _ _ bb2 (fun hHeld => ?_)
     clear hK
     try simp only [Act.put, qq]
     refine qT 12 ?_
     try simp only [Act.put, qq]
     refine qT 13 ?_
     try simp only [Act.put, qq]
     refine qT 14 ?_
     try simp only [Act.put, qq]
     refine qR 15 fun K hK => ?_
     go_simp
     refine hK.out _ _ (bb2.alloc bb2.size _) (fun hHeld => ?_)
     clear hK
     try simp only [Act.put, qq]
     refine qR 16 fun K hK => ?_
     go_simp
     refine hK.out _ _ (bb2.alloc bb2.size _) (fun hHeld => ?_)
     clear hK
     try simp only [Act.put, qq]
     refine qT 17 ?_
     try simp only [Act.put, qq]
     refine wpAnyH_done (by kernel_rfl) ?_ _
     go_wp2_with fail
     go_meet
     case rel => exact mid.out
    ·go_simp
     refine hK.out _ _ (bb0 _) (fun hHeld => ?_)
     clear hK
     try simp only [Act.put, qq]
     refine qR 11 fun K hK => ?_
     go_simp
     refine (HAC.out _).mono ?_
     rintro e w7 ⟨rfl, hr⟩
     have hq := vm_2 (x := x) (y := y) (e := ee) (t := tv) hr
     have bb2 := hq.1
     obtain ⟨r0, r1, r2, z0, z1, z2⟩ := hq.2.1.three
     have mid := h! hq.2.2
     have kk := below_put3 bb2 (g := w5.heap.size) n! (.int .i64 x) (.int .i64 y) (.string tv)
     clear hq hr
     refine hK.out _ _ bb2 (fun hHeld => ?_)
     clear hK
     try simp only [Act.put, qq]
     refine qT 12 ?_
     try simp only [Act.put, qq]
     refine qT 13 ?_
     try simp only [Act.put, qq]
     refine qT 14 ?_
     try simp only [Act.put, qq]
     refine qR 16 fun K hK => ?_
     go_simp
     refine hK.out _ _ (kk) (fun hHeld => ?_)
     clear hK
     try simp only [Act.put, qq]
     refine qT 17 ?_
     try simp only [Act.put, qq]
     refine wpAnyH_done (by kernel_rfl) ?_ _
     go_wp2_with fail
     go_meet
     case rel => exact mid.out
   case rest =>
    obtain ⟨g7, rfl, rfl, hmb, hg7, hx7⟩ := hcut
    clear CC HAC
    have S7 := h! (S5.out.below hmb HBS.out)
    have X7 := h! hx7
    clear hmb hx7 S5
    by_cases hle : vt.p ≤ a.ba
    rotate_left
    ·have hee := (VM.acc_old HACI.out HVM.out HT.out.good (by omega)).1
     have e3 : (ee != 0) = true := by simpa using hee
     have HF := h! (HNO.out (fun h => hle h.2) _ S7.out)
     clear hee hle
     go_wp2_with fail
     go_end0
     exact HF.out
    have hag := VM.acc_good HACI.out HVM.out HT.out.good HT.out.va.1 hle
    obtain ⟨hx1, hx2, hx3, hx4⟩ := hag
    subst hx4
    subst hx3
    subst hx2
    subst hx1
    have HLE := h! hle
    clear hle HACI HNO
    obtain ⟨A0, c0, A1, c1, A2, c2, A3, c3, A4, c4, xs, hgb, hx, o0, o1, o2, ht, o3, o4⟩ := S7.out.1
    obtain ⟨q3, rfl, hq3, _⟩ := own_some o1 (by show 0 < w.vs.length; have := LV6.out; omega)
    obtain ⟨x0, x1, x2, _⟩ := X7.out.three
    obtain ⟨⟨g0, g1, g2, g3, g4⟩, _⟩ := hx.five
    have hgq := row_ne o1 (by show 1 < w.vs.length; have := LV6.out; omega) X7.out (by omega) rfl
    have hthere := there_own (o := i * 3) (k := 3) o1 (by show _ ≤ w.vs.length * 3; have := LV6.out; omega)
    have hst := wd_setV (W := wc.drew) (w := DC.tell1 w (i : Int) a) (i := i) (v := ⟨a.ba, a.ba, a.va⟩) hgb hx o0 o1 o2 ht o3 o4 (by show i < w.vs.length; have := LV6.out; omega)
    have hnx : TkS W base g ⟨w.ms, w.vs.set i ⟨a.ba, a.ba, a.va⟩, w.ts.set i a, w.ml ++ DC.others w.ms (DC.mk (i : Int) 0 3 a.ba 0 a.va), w.ch⟩ gM a A5 c5 D5 q5 C5 f5 (putAt3 wc.drew q3 (i * 3) (.int .i64 a.ba) (.int .i64 a.ba) (.string a.va)) :=
     ⟨hst.1, TryVar.kept (show TryVar wc.drew base gM a A5 c5 D5 q5 C5 f5 from S7.out.2.1) hst.2.1 (by unfold isV; decide) (by unfold isV; decide) (by unfold isV; decide), (S7.out.2.2.1.more ((Below.refl _ _).drew)).trans (hst.2.1.mono fun _ h => tk_of_v h), below_more (bmore S7.out.2.2.2 ((Below.refl _ _).drew) HBS.out) hst.2.2⟩
    have hks : (putAt3 wc.drew q3 (i * 3) (.int .i64 a.ba) (.int .i64 a.ba) (.string a.va)).cell? ⟨g, 1, none⟩ = some (.slice (some ⟨q3, 0, none⟩) w.vs.length c1) ∧ (putAt3 wc.drew q3 (i * 3) (.int .i64 a.ba) (.int .i64 a.ba) (.string a.va)).cell? ⟨g7, 0, none⟩ = some (.int .i64 a.ba) ∧ (putAt3 wc.drew q3 (i * 3) (.int .i64 a.ba) (.int .i64 a.ba) (.string a.va)).cell? ⟨g7, 1, none⟩ = some (.int .i64 a.ba) ∧ (putAt3 wc.drew q3 (i * 3) (.int .i64 a.ba) (.int .i64 a.ba) (.string a.va)).cell? ⟨g7, 2, none⟩ = some (.string a.va) := by
     have hgx := hst.2.1.box _ _ _ (show ¬ isV 28 by unfold isV; decide) (show Box wc.drew g _ _ from hx)
     have hmx := box_at3 (o := i * 3) (show Box wc.drew g7 _ _ from X7.out) hgq (.int .i64 a.ba) (.int .i64 a.ba) (.string a.va)
     exact ⟨hgx.cell 1, hmx.cell 0, hmx.cell 1, hmx.cell 2⟩
    have NX := h! hnx
    have KS := h! hks
    clear hks hst hnx hgq hgb hx o0 o1 o2 ht o3 o4 hq3
    go_upto_region 9 with (fail)
    go_cut [75] (fun _ wx => TkS W base g ⟨w.ms, w.vs.set i ⟨a.ba, a.ba, a.va⟩, w.ts.set i a, w.ml ++ DC.others w.ms (DC.mk (i : Int) 0 3 a.ba 0 a.va), w.ch⟩ gM a A5 c5 D5 q5 C5 f5 wx)
    case first =>
     have hS0 : wc.drew.cell? ⟨g, 1, none⟩ = some (.slice (some ⟨q3, 0, none⟩) w.vs.length c1) ∧ wc.drew.cell? ⟨g7, 0, none⟩ = some (.int .i64 a.ba) ∧ wc.drew.cell? ⟨g7, 1, none⟩ = some (.int .i64 a.ba) ∧ wc.drew.cell? ⟨g7, 2, none⟩ = some (.string a.va) := ⟨g1, x0, x1, x2⟩
     have hS1 := KS.out
     refine wp_region_held_drew (S := fun w' => w'.cell? ⟨g, 1, none⟩ = some (.slice (some ⟨q3, 0, none⟩) w.vs.length c1) ∧ w'.cell? ⟨g7, 0, none⟩ = some (.int .i64 a.ba) ∧ w'.cell? ⟨g7, 1, none⟩ = some (.int .i64 a.ba) ∧ w'.cell? ⟨g7, 2, none⟩ = some (.string a.va)) (by kernel_rfl) hS0 (fun hHeld => ?_)
     refine qT 0 ?_
     try simp only [Act.put, qq]
     refine qT 1 ?_
     try simp only [Act.put, qq]
     refine qT 2 ?_
     try simp only [Act.put, qq]
     refine qT 3 ?_
     try simp only [Act.put, qq]
     refine qT 4 ?_
     try simp only [Act.put, qq]
     refine qT 5 ?_
     try simp only [Act.put, qq]
     refine qT 6 ?_
     try simp only [Act.put, qq]
     refine qR 7 fun K hK => ?_
     refine step_store_mid rfl 59 _ _ rfl q3 (i * 3) #[.int .i64 a.ba, .int .i64 a.ba, .string a.va] (by simp [Act.eval, Act.put]) (by simp [Act.eval, Act.put]) hthere (by kernel_rfl) (by simp [Value.oneCell']) ?_
     refine hK.out _ _ hS1 (fun hHeld => ?_)
     clear hK
     try simp only [Act.put, qq]
     refine wpAnyH_done (by kernel_rfl) ?_ _
     go_wp2_with fail
     go_meet
     case rel => exact NX.out
    case rest =>
     clear NX KS x0 x1 x2 g0 g1 g2 g3 g4 hthere S7 X7
     have S9 := h! hcut
     clear hcut
     have hea := DC.errA_own HT.out HHAS.out
     have HAD := h! (raccd_any _ a a.ba (i : Int) wc S9.out.2.1.2.is (HFA.out HE.out) S9.out.2.1.2.cap)
     rw [hea] at HAD
     obtain ⟨b, hb⟩ : ∃ b, b = AM.acc a a.ba (i : Int) := ⟨_, rfl⟩
     rw [← hb] at HAD
     have HBB := h! hb
     clear hb hea
     obtain ⟨⟨s0, s1, s2, s3, s4, s5, s6⟩, _⟩ := S9.out.2.1.1.seven
     go_wp2_with fail
     refine HAD.out.mono ?_
     rintro e w10 ⟨v10, rfl, own10, hb10⟩
     clear HAD s0 s1 s2 s3 s4 s5 s6
     obtain ⟨A9, c9, D9, q9, C9, f9, rfl⟩ := own10.form
     have hb2 : Below wc.heap.size wc (w10.alloc (.cells #[.int .u8 b.ph, .int .i64 b.ba, .slice A9 b.ms.length c9, .string b.wi, .string b.va, .slice D9 b.ps.length q9, .slice C9 b.ac.length f9] 57)) := hb10.alloc hb10.size _
     have S10 := h! (S9.out.below hb2 HBS.out)
     have X10 := h! (Box.new w10 57 #[.int .u8 b.ph, .int .i64 b.ba, .slice A9 b.ms.length c9, .string b.wi, .string b.va, .slice D9 b.ps.length q9, .slice C9 b.ac.length f9])
     have O10 := h! ((own10.alloc (.cells #[.int .u8 b.ph, .int .i64 b.ba, .slice A9 b.ms.length c9, .string b.wi, .string b.va, .slice D9 b.ps.length q9, .slice C9 b.ac.length f9] 57)).mono (Nat.le_trans HBS.out S9.out.2.2.2.size))
     clear hb2 hb10 own10 S9
     go_upto_region 11 with (fail)
     generalize w10.alloc (.cells #[.int .u8 b.ph, .int .i64 b.ba, .slice A9 b.ms.length c9, .string b.wi, .string b.va, .slice D9 b.ps.length q9, .slice C9 b.ac.length f9] 57) = u at S10 X10 O10 ⊢
     generalize w10.heap.size = gN at X10 ⊢
     obtain ⟨A0, c0, A1, c1, A2, c2, A3, c3, A4, c4, xs, hgb, hx, o0, o1, o2, ht, o3, o4⟩ := S10.out.1
     obtain ⟨q4, rfl, hq4, _⟩ := own_some o2 (by show 0 < (w.ts.set i a).length; rw [List.length_set]; have := LT6.out; omega)
     obtain ⟨⟨s0, s1, s2, s3, s4, s5, s6⟩, _⟩ := X10.out.seven
     obtain ⟨⟨g0, g1, g2, g3, g4⟩, _⟩ := hx.five
     have hgq := row_ne o2 (by show 1 < (w.ts.set i a).length; rw [List.length_set]; have := LT6.out; omega) X10.out (by omega) rfl
     have hgm := row_ne o2 (by show 1 < (w.ts.set i a).length; rw [List.length_set]; have := LT6.out; omega) S10.out.2.1.1 (by omega) rfl
     have hthere := there_own (o := i * 7) (k := 7) o2 (by show _ ≤ (w.ts.set i a).length * 7; rw [List.length_set]; have := LT6.out; omega)
     have hst := wd_setT (W := u.drew) (i := i) (t := b) hgb hx o0 o1 o2 ht o3 o4 (by show i < (w.ts.set i a).length; rw [List.length_set]; have := LT6.out; omega) O10.out
     have hnx : TkS W base g ⟨w.ms, w.vs.set i ⟨a.ba, a.ba, a.va⟩, w.ts.set i b, w.ml ++ DC.others w.ms (DC.mk (i : Int) 0 3 a.ba 0 a.va), w.ch⟩ gM a A5 c5 D5 q5 C5 f5 (putAt7 u.drew q4 (i * 7) (.int .u8 b.ph) (.int .i64 b.ba) (.slice A9 b.ms.length c9) (.string b.wi) (.string b.va) (.slice D9 b.ps.length q9) (.slice C9 b.ac.length f9)) :=
      ⟨by have := hst.1; simpa only [List.set_set] using this, ⟨box_at7 (show Box u.drew gM _ _ from S10.out.2.1.1) hgm .., hst.2.1.at_ (show AtOwn u.drew base _ a from S10.out.2.1.2) (by unfold isA; decide) (by unfold isA; decide)⟩, (S10.out.2.2.1.more ((Below.refl _ _).drew)).trans (hst.2.1.mono fun _ h => tk_of_a h), below_more (bmore S10.out.2.2.2 ((Below.refl _ _).drew) HBS.out) hst.2.2⟩
     have hks : (putAt7 u.drew q4 (i * 7) (.int .u8 b.ph) (.int .i64 b.ba) (.slice A9 b.ms.length c9) (.string b.wi) (.string b.va) (.slice D9 b.ps.length q9) (.slice C9 b.ac.length f9)).cell? ⟨g, 2, none⟩ = some (.slice (some ⟨q4, 0, none⟩) (w.ts.set i a).length c2) ∧ (putAt7 u.drew q4 (i * 7) (.int .u8 b.ph) (.int .i64 b.ba) (.slice A9 b.ms.length c9) (.string b.wi) (.string b.va) (.slice D9 b.ps.length q9) (.slice C9 b.ac.length f9)).cell? ⟨gN, 0, none⟩ = some (.int .u8 b.ph) ∧ (putAt7 u.drew q4 (i * 7) (.int .u8 b.ph) (.int .i64 b.ba) (.slice A9 b.ms.length c9) (.string b.wi) (.string b.va) (.slice D9 b.ps.length q9) (.slice C9 b.ac.length f9)).cell? ⟨gN, 1, none⟩ = some (.int .i64 b.ba) ∧ (putAt7 u.drew q4 (i * 7) (.int .u8 b.ph) (.int .i64 b.ba) (.slice A9 b.ms.length c9) (.string b.wi) (.string b.va) (.slice D9 b.ps.length q9) (.slice C9 b.ac.length f9)).cell? ⟨gN, 2, none⟩ = some (.slice A9 b.ms.length c9) ∧ (putAt7 u.drew q4 (i * 7) (.int .u8 b.ph) (.int .i64 b.ba) (.slice A9 b.ms.length c9) (.string b.wi) (.string b.va) (.slice D9 b.ps.length q9) (.slice C9 b.ac.length f9)).cell? ⟨gN, 3, none⟩ = some (.string b.wi) ∧ (putAt7 u.drew q4 (i * 7) (.int .u8 b.ph) (.int .i64 b.ba) (.slice A9 b.ms.length c9) (.string b.wi) (.string b.va) (.slice D9 b.ps.length q9) (.slice C9 b.ac.length f9)).cell? ⟨gN, 4, none⟩ = some (.string b.va) ∧ (putAt7 u.drew q4 (i * 7) (.int .u8 b.ph) (.int .i64 b.ba) (.slice A9 b.ms.length c9) (.string b.wi) (.string b.va) (.slice D9 b.ps.length q9) (.slice C9 b.ac.length f9)).cell? ⟨gN, 5, none⟩ = some (.slice D9 b.ps.length q9) ∧ (putAt7 u.drew q4 (i * 7) (.int .u8 b.ph) (.int .i64 b.ba) (.slice A9 b.ms.length c9) (.string b.wi) (.string b.va) (.slice D9 b.ps.length q9) (.slice C9 b.ac.length f9)).cell? ⟨gN, 6, none⟩ = some (.slice C9 b.ac.length f9) := by
      have hgx := hst.2.1.box _ _ _ (show ¬ isA 28 by unfold isA; decide) (show Box u.drew g _ _ from hx)
      have hmx := box_at7 (o := i * 7) (show Box u.drew gN _ _ from X10.out) hgq (.int .u8 b.ph) (.int .i64 b.ba) (.slice A9 b.ms.length c9) (.string b.wi) (.string b.va) (.slice D9 b.ps.length q9) (.slice C9 b.ac.length f9)
      exact ⟨hgx.cell 2, hmx.cell 0, hmx.cell 1, hmx.cell 2, hmx.cell 3, hmx.cell 4, hmx.cell 5, hmx.cell 6⟩
     have NX := h! hnx
     have KS := h! hks
     clear hks hst hnx hgq hgm hgb hx o0 o1 o2 ht o3 o4 hq4
     generalize hlen : (w.ts.set i a).length = LN at *
     have HLN := h! hlen
     have hiN : (i : Int) < (LN : Int) := by rw [← hlen, List.length_set]; have := LT6.out; omega
     clear hlen
     go_cut [90] (fun _ wx => TkS W base g ⟨w.ms, w.vs.set i ⟨a.ba, a.ba, a.va⟩, w.ts.set i b, w.ml ++ DC.others w.ms (DC.mk (i : Int) 0 3 a.ba 0 a.va), w.ch⟩ gM a A5 c5 D5 q5 C5 f5 wx)
     case first =>
      have hS0 : u.drew.cell? ⟨g, 2, none⟩ = some (.slice (some ⟨q4, 0, none⟩) LN c2) ∧ u.drew.cell? ⟨gN, 0, none⟩ = some (.int .u8 b.ph) ∧ u.drew.cell? ⟨gN, 1, none⟩ = some (.int .i64 b.ba) ∧ u.drew.cell? ⟨gN, 2, none⟩ = some (.slice A9 b.ms.length c9) ∧ u.drew.cell? ⟨gN, 3, none⟩ = some (.string b.wi) ∧ u.drew.cell? ⟨gN, 4, none⟩ = some (.string b.va) ∧ u.drew.cell? ⟨gN, 5, none⟩ = some (.slice D9 b.ps.length q9) ∧ u.drew.cell? ⟨gN, 6, none⟩ = some (.slice C9 b.ac.length f9) := ⟨g2, s0, s1, s2, s3, s4, s5, s6⟩
      have hS1 := KS.out
      refine wp_region_held_drew (S := fun w' => w'.cell? ⟨g, 2, none⟩ = some (.slice (some ⟨q4, 0, none⟩) LN c2) ∧ w'.cell? ⟨gN, 0, none⟩ = some (.int .u8 b.ph) ∧ w'.cell? ⟨gN, 1, none⟩ = some (.int .i64 b.ba) ∧ w'.cell? ⟨gN, 2, none⟩ = some (.slice A9 b.ms.length c9) ∧ w'.cell? ⟨gN, 3, none⟩ = some (.string b.wi) ∧ w'.cell? ⟨gN, 4, none⟩ = some (.string b.va) ∧ w'.cell? ⟨gN, 5, none⟩ = some (.slice D9 b.ps.length q9) ∧ w'.cell? ⟨gN, 6, none⟩ = some (.slice C9 b.ac.length f9)) (by kernel_rfl) hS0 (fun hHeld => ?_)
      refine qT 0 ?_
      try simp only [Act.put, qq]
      refine qT 1 ?_
      try simp only [Act.put, qq]
      refine qT 2 ?_
      try simp only [Act.put, qq]
      refine qT 3 ?_
      try simp only [Act.put, qq]
      refine qT 4 ?_
      try simp only [Act.put, qq]
      refine qT 5 ?_
      try simp only [Act.put, qq]
      refine qT 6 ?_
      try simp only [Act.put, qq]
      refine qR 7 fun K hK => ?_
      refine step_store_mid rfl 57 _ _ rfl q4 (i * 7) #[.int .u8 b.ph, .int .i64 b.ba, .slice A9 b.ms.length c9, .string b.wi, .string b.va, .slice D9 b.ps.length q9, .slice C9 b.ac.length f9] (by simp [Act.eval, Act.put]) (by simp [Act.eval, Act.put]) hthere (by kernel_rfl) (by simp [Value.oneCell']) ?_
      refine hK.out _ _ hS1 (fun hHeld => ?_)
      clear hK
      try simp only [Act.put, qq]
      refine wpAnyH_done (by kernel_rfl) ?_ _
      go_wp2_with fail
      go_meet
      case rel => exact NX.out
     case rest =>
      clear NX KS s0 s1 s2 s3 s4 s5 s6 g0 g1 g2 g3 g4 hthere S10 X10 O10
      have S11 := h! hcut
      clear hcut
      obtain ⟨lt, lv, ll, lc⟩ := LEN.out
      have HFD := h! (found_any base g i ⟨w.ms, w.vs.set i ⟨a.ba, a.ba, a.va⟩, w.ts.set i b, w.ml ++ DC.others w.ms (DC.mk (i : Int) 0 3 a.ba 0 a.va), w.ch⟩ a.ph wc S11.out.1 (Nat.le_trans HBS.out S11.out.2.2.2.size) (by show i < (w.ts.set i b).length; rw [List.length_set]; exact lt) (by show w.ch.length ≤ 2000; omega))
      have HFIN : Hid (∀ wy, FndPost base g ⟨w.ms, w.vs.set i ⟨a.ba, a.ba, a.va⟩, w.ts.set i b, w.ml ++ DC.others w.ms (DC.mk (i : Int) 0 3 a.ba 0 a.va), w.ch⟩ (i : Int) a.ph wc (.returned (.tuple #[])) wy → TakPost base g w (i : Int) k p W (.returned (.tuple #[])) wy) := h! fun wy h => by
       obtain ⟨_, h2, h3, h4⟩ := h
       refine ⟨rfl, ?_, S11.out.2.2.1.trans (h3.mono fun _ h => tk_of_wc h), below_more S11.out.2.2.2 h4⟩
       rw [getT_set lt, HBB.out] at h2
       rw [HC.out HE.out HPH.out]
       unfold DC.tells
       rw [if_pos ⟨HHAS.out, by rw [HGV.out]; exact HLE.out⟩]
       unfold DC.tell2 DC.tell1
       simp only [List.set_set, Int.toNat_natCast]
       exact h2
      clear lt lv ll lc
      obtain ⟨⟨s0, s1, s2, s3, s4, s5, s6⟩, _⟩ := S11.out.2.1.1.seven
      go_wp2_with fail
      refine HFD.out.mono ?_
      rintro e wz hz
      obtain ⟨rfl, hz2⟩ := hz
      have HZ := h! (HFIN.out wz ⟨rfl, hz2⟩)
      clear hz2 s0 s1 s2 s3 s4 s5 s6 HFD HFIN
      go_wp2_with fail
      go_end0
      exact HZ.out
end Go.Proofs.YtiiobafcgdelmaaGreat
