/- Contracts of functions of towncrier, layers 5 to 9, and of the document's own ones, part 17; each as its theorem says. -/
import Derived.Test.YtiiobafcgdelmaaGreatL01
import Derived.Test.YtiiobafcgdelmaaGreatL16
set_option linter.unusedVariables false
set_option linter.unusedSimpArgs false
namespace Go.Proofs.YtiiobafcgdelmaaGreat.PD
open Go.RowKit Go.Shelf
def votedF (w : DC.Wd) (i : Nat) (x y : Int) (tv : ByteArray) (e : Int) (t k b p : Int) (v : ByteArray) : DC.Wd :=
 if e = 0 then ⟨w.ms, w.vs.set i ⟨x, y, tv⟩, w.ts, w.ml ++ [DC.mk (i : Int) t k b p v], w.ch⟩
 else if e = 70 then ⟨w.ms, w.vs, w.ts, w.ml ++ [DC.mk (i : Int) t 5 b (DC.getV w (i : Int)).p .empty], w.ch⟩ else w
def VotPost (base g : Nat) (w w' : DC.Wd) (W : World) (e : Ending) (W' : World) : Prop :=
 e = .returned (.tuple #[]) ∧ WdAt W' base g w' ∧ Kept isTk W W' ∧ Below base W W'
def MlS (W : World) (base g : Nat) (w : DC.Wd) (gb : Nat) (m : DC.Ml) (wx : World) : Prop :=
 WdAt wx base g w ∧ Box wx gb 51 (mcell m).toArray ∧ (∀ v, wx.cell? ⟨g, 3, none⟩ = some v → v.ownBlock ≠ some gb) ∧ base ≤ gb ∧ Kept isTk W wx ∧ Below base W wx
theorem MlS.store {W wx : World} {base g gb : Nat} {w : DC.Wd} {m m' : DC.Ml} (h : MlS W base g w gb m wx) (u : World)
  (hb : Below gb wx u) (hk : ∀ (S : TypeId → Prop), S 51 → Kept S wx u) (hg : ∀ q e (cs : Array Value), q ≠ gb → Box wx q e cs → Box u q e cs) (hm : Box u gb 51 (mcell m').toArray) : MlS W base g w gb m' u := by
 obtain ⟨⟨A0, c0, A1, c1, A2, c2, A3, c3, A4, c4, xs, hgb, hx, o0, o1, o2, ht, o3, o4⟩, hm0, hap, hbg, hkk, hbl⟩ := h
 have kM := hk (fun e => e = 51) rfl
 have n1 : ¬ (fun e => e = 51) 3 := by show ¬ _ = _; decide
 have n2 : ¬ (fun e => e = 51) 86 := by show ¬ _ = _; decide
 have hx' := kM.box _ _ _ (by show ¬ _ = _; decide) hx
 have hq : (Value.slice A3 w.ml.length c3).ownBlock ≠ some gb := hap _ hx.five.1.2.2.2.1
 refine ⟨⟨A0, c0, A1, c1, A2, c2, A3, c3, A4, c4, xs, hgb, hx', kM.own o0 n1, kM.own o1 (by show ¬ _ = _; decide), kM.own o2 (by show ¬ _ = _; decide), ht.kept kM n1 n2, ⟨o3.1, ?_⟩, kM.own o4 (by show ¬ _ = _; decide)⟩, hm, fun v hv => ?_, hbg, hkk.trans (hk isTk (.inr (.inl rfl))), hbl.trans (hb.mono hbg)⟩
 ·rcases o3.2 with h0 | ⟨g', cap, cur, hv, hbb, hxx, hrest⟩
  ·exact .inl h0
  ·refine .inr ⟨g', cap, cur, hv, hbb, hg g' _ _ (fun e => hq ?_) hxx, hrest⟩
   rw [hv, e]; rfl
 ·rw [hx'.five.1.2.2.2.1] at hv
  injection hv with hv
  subst hv
  exact hq
set_option maxRecDepth 100000 in
set_option maxHeartbeats 8000000 in
theorem voted_any (base g i : Nat) (w : DC.Wd) (x y : Int) (tv : ByteArray) (e : Int) (t k b p : Int) (v : ByteArray) (W : World) (H : WdAt W base g w) (hvl : w.vs.length = 6) (hi : i < 6) (hbase : base ≤ W.heap.size) (hl : w.ml.length ≤ 1900) :
  Calls Tryz.prog 81 #[.pointer (some ⟨g, 0, none⟩), .agg #[.int .i64 x, .int .i64 y, .string tv], .int .i64 e, .agg #[.int .i64 (i : Int), .int .i64 t, .int .u8 k, .int .i64 0, .int .i64 0, .int .i64 b, .int .i64 p, .string v, .int .i64 0, .int .i64 0]] W (VotPost base g w (votedF w i x y tv e t k b p v) W) := by
 have hVv : w.vs[i]? = some (DC.getV w (i : Int)) := by have := DC.getV_at hvl (n := (i : Int)) (by unfold DC.isNode; omega); rwa [Int.toNat_natCast] at this
 obtain ⟨vt, hvt⟩ : ∃ vt, vt = DC.getV w (i : Int) := ⟨_, rfl⟩
 rw [← hvt] at hVv
 have LV6 := h! hvl
 have HI := h! hi
 have HBS := h! hbase
 have HL := h! hl
 have HVT := h! hvt
 have HVV := h! hVv
 have hi0 : (0 : Int) ≤ (i : Int) := by omega
 have hi2 : (i : Int) < (w.vs.length : Int) := by omega
 have mixed : Tryz.prog.follows Departure.mixedOrders = true := by kernel_rfl
 obtain ⟨W2, hW2⟩ : ∃ W2, W2 = (W.alloc (.cells #[.int .i64 x, .int .i64 y, .string tv] 59)).alloc (.cells #[.int .i64 (i : Int), .int .i64 t, .int .u8 k, .int .i64 0, .int .i64 0, .int .i64 b, .int .i64 p, .string v, .int .i64 0, .int .i64 0] 51) := ⟨_, rfl⟩
 have hb2 : Below W.heap.size W W2 := by rw [hW2]; exact ((Below.refl _ _).alloc n! _).alloc (by simp) _
 have hxv : Box W2 W.heap.size 59 #[.int .i64 x, .int .i64 y, .string tv] := by rw [hW2]; exact (Box.new _ _ _).alloc _
 have hxb : Box W2 (W.heap.size + 1) 51 #[.int .i64 (i : Int), .int .i64 t, .int .u8 k, .int .i64 0, .int .i64 0, .int .i64 b, .int .i64 p, .string v, .int .i64 0, .int .i64 0] := by rw [hW2]; exact Box.new_at _ (by simp)
 have S1 : Hid (MlS W base g w (W.heap.size + 1) (DC.mk (i : Int) t k b p v) W2) := h! ⟨H.below hb2, hxb, fun u hu => by
  obtain ⟨A0, c0, A1, c1, A2, c2, A3, c3, A4, c4, xs, hgb, hx, o0, o1, o2, ht, o3, o4⟩ := H
  rw [hb2.cell (p := ⟨g, 3, none⟩) hx.lt, hx.five.1.2.2.2.1] at hu
  injection hu with hu
  subst hu
  intro hc
  obtain ⟨_, cur, hd⟩ := own_block o3 hc
  have := hd.lt
  omega, by omega, Kept.of_below hb2, hb2.mono hbase⟩
 have XV := h! hxv
 have hgb : g ≠ W.heap.size + 1 := by have := H.lt.2; omega
 have hgl := h! H.lt.2
 have hvb : W.heap.size ≠ W.heap.size + 1 := by omega
 obtain ⟨v0, v1, v2, _⟩ := hxv.three
 obtain ⟨b0, b1, b2, b3, b4, b5, b6, b7, b8, b9⟩ := hxb.ten
 clear hVv hvl hi hbase hl hvt hb2 hxv hxb H
 go_enter Tryz.func81, Tryz.ntmps81
 go_upto_region 1 with (fail)
 rw [← hW2]
 clear hW2
 by_cases h1 : e = 0
 ·have e1 : (e == 0) = true := by simpa using h1
  have HF0 : Hid (votedF w i x y tv e t k b p v = ⟨w.ms, w.vs.set i ⟨x, y, tv⟩, w.ts, w.ml ++ [DC.mk (i : Int) t k b p v], w.ch⟩) := h! (by unfold votedF; rw [if_pos h1])
  clear h1
  go_upto_region 4 with (fail)
  clear b0 b1 b2 b3 b4 b5 b6 b7 b8 b9 v0 v1 v2
  generalize W.heap.size + 1 = gb at S1 hgb hvb ⊢
  generalize W.heap.size = gv at XV hvb hgl ⊢
  obtain ⟨q2, c2, hq2, hq2l, d2, hthere, hst, hfar⟩ := (show WdAt W2.drew base g w from S1.out.1).storeV LV6.out HI.out
  obtain ⟨hs1, hs2, hs3, hs4⟩ := hst ⟨x, y, tv⟩
  have hxV := hfar gv _ (show Box W2.drew gv _ _ from XV.out) rfl (.int .i64 x) (.int .i64 y) (.string tv)
  have NX : Hid (WdAt (putAt3 W2.drew q2 (i * 3) (.int .i64 x) (.int .i64 y) (.string tv)) base g ⟨w.ms, w.vs.set i ⟨x, y, tv⟩, w.ts, w.ml, w.ch⟩ ∧ Box (putAt3 W2.drew q2 (i * 3) (.int .i64 x) (.int .i64 y) (.string tv)) gb 51 #[.int .i64 (i : Int), .int .i64 t, .int .u8 k, .int .i64 0, .int .i64 0, .int .i64 b, .int .i64 p, .string v, .int .i64 0, .int .i64 0] ∧ Kept isTk W (putAt3 W2.drew q2 (i * 3) (.int .i64 x) (.int .i64 y) (.string tv)) ∧ Below base W (putAt3 W2.drew q2 (i * 3) (.int .i64 x) (.int .i64 y) (.string tv))) :=
   h! ⟨hs1, hs2.box _ _ _ (by unfold isV; decide) (show Box W2.drew gb _ _ from S1.out.2.1), (S1.out.2.2.2.2.1.more ((Below.refl _ _).drew)).trans (hs2.mono fun _ h => tk_of_v h), below_more (bmore S1.out.2.2.2.2.2 ((Below.refl _ _).drew) HBS.out) hs3⟩
  obtain ⟨v0, v1, v2, _⟩ := (show Box W2.drew gv _ _ from XV.out).three
  obtain ⟨r0, r1, r2, _⟩ := hxV.three
  clear hst hfar hs1 hs2 hs3 hxV S1 hq2 hq2l XV
  go_cut [21] (fun _ wx => WdAt wx base g ⟨w.ms, w.vs.set i ⟨x, y, tv⟩, w.ts, w.ml, w.ch⟩ ∧ Box wx gb 51 #[.int .i64 (i : Int), .int .i64 t, .int .u8 k, .int .i64 0, .int .i64 0, .int .i64 b, .int .i64 p, .string v, .int .i64 0, .int .i64 0] ∧ Kept isTk W wx ∧ Below base W wx)
  case first =>
   have hS0 : W2.drew.cell? ⟨g, 1, none⟩ = some (.slice (some ⟨q2, 0, none⟩) w.vs.length c2) ∧ W2.drew.cell? ⟨gv, 0, none⟩ = some (.int .i64 x) ∧ W2.drew.cell? ⟨gv, 1, none⟩ = some (.int .i64 y) ∧ W2.drew.cell? ⟨gv, 2, none⟩ = some (.string tv) := ⟨d2, v0, v1, v2⟩
   have hS1 := And.intro hs4 (And.intro r0 (And.intro r1 r2))
   clear r0 r1 r2 v0 v1 v2 d2 hs4
   refine wp_region_held_drew (S := fun w' => w'.cell? ⟨g, 1, none⟩ = some (.slice (some ⟨q2, 0, none⟩) w.vs.length c2) ∧ w'.cell? ⟨gv, 0, none⟩ = some (.int .i64 x) ∧ w'.cell? ⟨gv, 1, none⟩ = some (.int .i64 y) ∧ w'.cell? ⟨gv, 2, none⟩ = some (.string tv)) (by kernel_rfl) hS0 (fun hHeld => ?_)
   refine qT 0 ?_
   try simp only [Act.put, qq]
   refine qT 1 ?_
   try simp only [Act.put, qq]
   refine qT 2 ?_
   try simp only [Act.put, qq]
   refine qT 3 ?_
   try simp only [Act.put, qq]
   refine qT 4 ?_
   try simp only [Act.put, qq]
   refine qT 5 ?_
   try simp only [Act.put, qq]
   refine qT 6 ?_
   try simp only [Act.put, qq]
   refine qR 7 fun K hK => ?_
   refine step_store_mid rfl 59 _ _ rfl q2 (i * 3) #[.int .i64 x, .int .i64 y, .string tv] (by simp [Act.eval, Act.put]) (by simp [Act.eval, Act.put]) hthere (by kernel_rfl) (by simp [Value.oneCell']) ?_
   refine hK.out _ _ (hS1) (fun hHeld => ?_)
   clear hK
   try simp only [Act.put, qq]
   refine wpAnyH_done (by kernel_rfl) ?_ _
   go_wp2_with fail
   go_meet
   case rel => exact NX.out
  case rest =>
   clear NX hthere r0 r1 r2 v0 v1 v2 d2 hs4
   obtain ⟨hW7, hB7, hK7, hL7⟩ := hcut
   have SX := h! hW7
   have BX := h! hB7
   have KX := h! hK7
   have LX := h! hL7
   clear hW7 hB7 hK7 hL7
   obtain ⟨i0, hin, hz0, hz1, hz2⟩ := info_parts info_mail
   obtain ⟨A0, c0, A1, c1, A2, c2, A3, c3, A4, c4, xs, hgb, hx, o0, o1, o2, ht, o3, o4⟩ := SX.out
   try simp only at hx o0 o1 o2 ht o3 o4
   obtain ⟨ML, hML⟩ : ∃ ML, ML = w.ml.length := ⟨_, rfl⟩
   rw [← hML] at hx o3
   have hlm : ML ≤ 1900 := by rw [hML]; exact HL.out
   have HX := h! hx
   have Q0 := h! o0
   have Q1 := h! o1
   have Q2 := h! o2
   have Q3 := h! o3
   have Q4 := h! o4
   have QT := h! ht
   have QG := h! hgb
   have HML := h! hML
   clear hgb hx o0 o1 o2 ht o3 o4 hML
   have hal : Below wc.heap.size wc (wc.alloc (.cells #[.int .i64 (i : Int), .int .i64 t, .int .u8 k, .int .i64 0, .int .i64 0, .int .i64 b, .int .i64 p, .string v, .int .i64 0, .int .i64 0] 51)) := b!
   have O3a := h! (own_below3 Q3.out hal)
   have HR2 := h! (rdG_box (s := 10) (n := 1) (Box.new wc 51 #[.int .i64 (i : Int), .int .i64 t, .int .u8 k, .int .i64 0, .int .i64 0, .int .i64 b, .int .i64 p, .string v, .int .i64 0, .int .i64 0]) rfl rfl)
   have hbc : base ≤ wc.heap.size := Nat.le_trans HBS.out LX.out.size
   have hbz : base ≤ (wc.alloc (.cells #[.int .i64 (i : Int), .int .i64 t, .int .u8 k, .int .i64 0, .int .i64 0, .int .i64 b, .int .i64 p, .string v, .int .i64 0, .int .i64 0] 51)).heap.size := Nat.le_trans hbc hal.size
   have XA := h! (HX.out.below hal HX.out.lt)
   obtain ⟨⟨g0, g1, g2, g3, g4⟩, _⟩ := HX.out.five
   obtain ⟨⟨y0, y1, y2, y3, y4⟩, _⟩ := XA.out.five
   obtain ⟨b0, b1, b2, b3, b4, b5, b6, b7, b8, b9⟩ := BX.out.ten
   have hbl2 := hal
   clear hal
   go_upto_region 5 with (fail)
   go_region_law_o (refine step_append_h rfl (.tmp 25) (.tmp 27) 25 rfl base 51 i0 _ 10 88 Tryz.underlying25 hin hz0 hz1 hz2 rfl (by omega) (.slice A3 ML c3) ML _ (by simp [Act.eval, Act.put]) O3a.out (some ⟨wc.heap.size, 0, none⟩) 1 1 _ (by simp [Act.eval, Act.put]) HR2.out (by intro x hx; simp at hx; rcases hx with rfl | rfl | rfl | rfl | rfl | rfl | rfl | rfl | rfl | rfl <;> rfl) (by unfold maxLen; omega) (by omega) hbz ?_; intro v9 w9 o9 g9 hob9; obtain ⟨A9, c9, rfl, _, _⟩ := own_form o9; obtain ⟨_, z0, z1, z2, z3, z4⟩ := (XA.out.drew.grown g9 (fun e => by obtain ⟨_, cur, hc⟩ := own_block O3a.out e.symm; have := XA.out; rw [Box] at this hc; rw [hc] at this; injection this with this; injection this with _ this; exact absurd this (by decide))).five)
   all_goals
    have hq := WdAt.addM (w := ⟨w.ms, w.vs.set i ⟨x, y, tv⟩, w.ts, w.ml, w.ch⟩) (c := DC.mk (i : Int) t k b p v) HML.out.symm hbc QG.out HX.out Q0.out Q1.out Q2.out QT.out Q3.out Q4.out g9 o9
    have HF : Hid (VotPost base g w (votedF w i x y tv e t k b p v) W (.returned (.tuple #[])) (w9.setCell ⟨g, 3, none⟩ (.slice A9 (ML + 1) c9))) := h! ⟨rfl, by rw [HF0.out]; exact hq.1, KX.out.trans (hq.2.1.mono fun _ h => tk_of_wm h), below_more LX.out hq.2.2⟩
    clear o9 g9 hob9 hq
    clear g0 g1 g2 g3 g4 y0 y1 y2 y3 y4 b0 b1 b2 b3 b4 b5 b6 b7 b8 b9
    go_wp2_with fail
    go_end0
    exact HF.out
 have e1 : (e == 0) = false := by simpa using h1
 by_cases h7 : e = 70
 rotate_left
 ·have e2 : (e == 70) = false := by simpa using h7
  have HF : Hid (VotPost base g w (votedF w i x y tv e t k b p v) W (.returned (.tuple #[])) W2) := h! ⟨rfl, by unfold votedF; rw [if_neg h1, if_neg h7]; exact S1.out.1, S1.out.2.2.2.2.1, S1.out.2.2.2.2.2⟩
  clear h1 h7
  go_wp2_with fail
  go_end0
  exact HF.out
 have e2 : (e == 70) = true := by simpa using h7
 have HF0 : Hid (votedF w i x y tv e t k b p v = ⟨w.ms, w.vs, w.ts, w.ml ++ [DC.mk (i : Int) t 5 b vt.p .empty], w.ch⟩) := h! (by unfold votedF; rw [if_neg h1, if_pos h7, ← HVT.out])
 clear h1 h7
 go_upto_region 7 with (fail)
 clear b1 b2 b3 b4 b5 b6 b7 b8 b9 v0 v1 v2
 obtain ⟨q1, c1, hvc⟩ := S1.out.1.vote HVV.out
 obtain ⟨w0, w1, w2, w3⟩ := hvc W2 (Below.refl _ _)
 have hqb : q1 ≠ W.heap.size + 1 := fun hc => by
  have h2 := (show Box W2 (W.heap.size + 1) 51 #[.int .i64 (i : Int), .int .i64 t, .int .u8 k, .int .i64 0, .int .i64 0, .int .i64 b, .int .i64 p, .string v, .int .i64 0, .int .i64 0] from S1.out.2.1)
  obtain ⟨A0, c0, A1, c1', A2, c2, A3, c3, A4, c4, xs, hgb, hx, o0, o1, o2, ht, o3, o4⟩ := S1.out.1
  rw [hx.five.1.2.1] at w0
  injection w0 with w0
  injection w0 with w0 _ _
  subst w0
  obtain ⟨_, cur, h3⟩ := own_block o1 (show (Value.slice (some ⟨q1, 0, none⟩) w.vs.length c1').ownBlock = some q1 from rfl)
  rw [hc] at h3
  rw [Box] at h2 h3
  rw [h3] at h2
  injection h2 with h2
  injection h2 with _ h2
  exact absurd h2 (by decide)
 generalize W.heap.size + 1 = gb at S1 hgb hvb hqb b0 ⊢
 generalize W.heap.size = gv at XV hvb hgl ⊢
 have hgb2 : gb ≠ g := fun hc => hgb hc.symm
 have hqb2 : gb ≠ q1 := fun hc => hqb hc.symm
 have z2 := S1.out.2.1.frozen 2
 have z6 := S1.out.2.1.frozen 6
 have z7 := S1.out.2.1.frozen 7
 obtain ⟨b0, b1, b2, b3, b4, b5, b6, b7, b8, b9⟩ := (show Box W2 gb 51 #[.int .i64 (i : Int), .int .i64 t, .int .u8 k, .int .i64 0, .int .i64 0, .int .i64 b, .int .i64 p, .string v, .int .i64 0, .int .i64 0] from S1.out.2.1).ten
 clear hvc w2 w3
 go_region
 clear b0 b1 b2 b3 b4 b5 b6 b7 b8 b9 z2 z6 z7 w0 w1
 have S4 : Hid (MlS W base g w gb (DC.mk (i : Int) t 5 b vt.p .empty) (((W2.setCell ⟨gb, 2, none⟩ (.int .u8 5)).setCell ⟨gb, 6, none⟩ (.int .i64 vt.p)).setCell ⟨gb, 7, none⟩ (.string ⟨#[]⟩)).drew) := h! (by
  have hm : Box W2 gb 51 #[.int .i64 (i : Int), .int .i64 t, .int .u8 k, .int .i64 0, .int .i64 0, .int .i64 b, .int .i64 p, .string v, .int .i64 0, .int .i64 0] := S1.out.2.1
  have hm2 := hm.stored 2 (.int .u8 5)
  have hm3 := hm2.stored 6 (.int .i64 vt.p)
  have hm4 := hm3.stored 7 (.string ⟨#[]⟩)
  refine S1.out.store _ ((((Below.refl _ _).setCell (p := ⟨gb, 2, none⟩) n! _).setCell (p := ⟨gb, 6, none⟩) n! _).setCell (p := ⟨gb, 7, none⟩) n! _).drew (fun S hS => ((Kept.set hm hS _).trans ((Kept.set hm2 hS _).trans (Kept.set hm3 hS _))).more ((Below.refl _ _).drew)) (fun q e cs hne hb => ((hb.far (p := ⟨gb, 2, none⟩) hne _).far (p := ⟨gb, 6, none⟩) hne _).far (p := ⟨gb, 7, none⟩) hne _) ?_
  have hm5 : Box (((W2.setCell ⟨gb, 2, none⟩ (.int .u8 5)).setCell ⟨gb, 6, none⟩ (.int .i64 vt.p)).setCell ⟨gb, 7, none⟩ (.string ⟨#[]⟩)).drew gb 51 #[.int .i64 (i : Int), .int .i64 t, .int .u8 5, .int .i64 0, .int .i64 0, .int .i64 b, .int .i64 vt.p, .string ⟨#[]⟩, .int .i64 0, .int .i64 0] := by simpa using hm4.drew
  exact hm5)
 clear S1
 generalize (((W2.setCell ⟨gb, 2, none⟩ (.int .u8 5)).setCell ⟨gb, 6, none⟩ (.int .i64 vt.p)).setCell ⟨gb, 7, none⟩ (.string ⟨#[]⟩)).drew = u4 at S4 ⊢
 have SX := h! S4.out.1
 have BX : Hid (Box u4 gb 51 #[.int .i64 (i : Int), .int .i64 t, .int .u8 5, .int .i64 0, .int .i64 0, .int .i64 b, .int .i64 vt.p, .string ⟨#[]⟩, .int .i64 0, .int .i64 0]) := h! S4.out.2.1
 have KX := h! S4.out.2.2.2.2.1
 have LX := h! S4.out.2.2.2.2.2
 obtain ⟨i0, hin, hz0, hz1, hz2⟩ := info_parts info_mail
 obtain ⟨A0, c0, A1, c1, A2, c2, A3, c3, A4, c4, xs, hgb, hx, o0, o1, o2, ht, o3, o4⟩ := SX.out
 try simp only at hx o0 o1 o2 ht o3 o4
 obtain ⟨ML, hML⟩ : ∃ ML, ML = w.ml.length := ⟨_, rfl⟩
 rw [← hML] at hx o3
 have hlm : ML ≤ 1900 := by rw [hML]; exact HL.out
 have HX := h! hx
 have Q0 := h! o0
 have Q1 := h! o1
 have Q2 := h! o2
 have Q3 := h! o3
 have Q4 := h! o4
 have QT := h! ht
 have QG := h! hgb
 have HML := h! hML
 clear hgb hx o0 o1 o2 ht o3 o4 hML
 have hal : Below u4.heap.size u4 (u4.alloc (.cells #[.int .i64 (i : Int), .int .i64 t, .int .u8 5, .int .i64 0, .int .i64 0, .int .i64 b, .int .i64 vt.p, .string ⟨#[]⟩, .int .i64 0, .int .i64 0] 51)) := b!
 have O3a := h! (own_below3 Q3.out hal)
 have HR2 := h! (rdG_box (s := 10) (n := 1) (Box.new u4 51 #[.int .i64 (i : Int), .int .i64 t, .int .u8 5, .int .i64 0, .int .i64 0, .int .i64 b, .int .i64 vt.p, .string ⟨#[]⟩, .int .i64 0, .int .i64 0]) rfl rfl)
 have hbc : base ≤ u4.heap.size := Nat.le_trans HBS.out LX.out.size
 have hbz : base ≤ (u4.alloc (.cells #[.int .i64 (i : Int), .int .i64 t, .int .u8 5, .int .i64 0, .int .i64 0, .int .i64 b, .int .i64 vt.p, .string ⟨#[]⟩, .int .i64 0, .int .i64 0] 51)).heap.size := Nat.le_trans hbc hal.size
 have XA := h! (HX.out.below hal HX.out.lt)
 obtain ⟨⟨g0, g1, g2, g3, g4⟩, _⟩ := HX.out.five
 obtain ⟨⟨y0, y1, y2, y3, y4⟩, _⟩ := XA.out.five
 obtain ⟨b0, b1, b2, b3, b4, b5, b6, b7, b8, b9⟩ := BX.out.ten
 have hbl2 := hal
 clear hal
 go_upto_region 8 with (fail)
 go_region_law_o (refine step_append_h rfl (.tmp 48) (.tmp 50) 25 rfl base 51 i0 _ 10 88 Tryz.underlying25 hin hz0 hz1 hz2 rfl (by omega) (.slice A3 ML c3) ML _ (by simp [Act.eval, Act.put]) O3a.out (some ⟨u4.heap.size, 0, none⟩) 1 1 _ (by simp [Act.eval, Act.put]) HR2.out (by intro x hx; simp at hx; rcases hx with rfl | rfl | rfl | rfl | rfl | rfl | rfl | rfl | rfl | rfl <;> rfl) (by unfold maxLen; omega) (by omega) hbz ?_; intro v9 w9 o9 g9 hob9; obtain ⟨A9, c9, rfl, _, _⟩ := own_form o9; obtain ⟨_, z0, z1, z2, z3, z4⟩ := (XA.out.drew.grown g9 (fun e => by obtain ⟨_, cur, hc⟩ := own_block O3a.out e.symm; have := XA.out; rw [Box] at this hc; rw [hc] at this; injection this with this; injection this with _ this; exact absurd this (by decide))).five)
 all_goals
  have hq := WdAt.addM (w := w) (c := DC.mk (i : Int) t 5 b vt.p .empty) HML.out.symm hbc QG.out HX.out Q0.out Q1.out Q2.out QT.out Q3.out Q4.out g9 o9
  have HF : Hid (VotPost base g w (votedF w i x y tv e t k b p v) W (.returned (.tuple #[])) (w9.setCell ⟨g, 3, none⟩ (.slice A9 (ML + 1) c9))) := h! ⟨rfl, by rw [HF0.out]; exact hq.1, KX.out.trans (hq.2.1.mono fun _ h => tk_of_wm h), below_more LX.out hq.2.2⟩
  clear o9 g9 hob9 hq
  clear g0 g1 g2 g3 g4 y0 y1 y2 y3 y4 b0 b1 b2 b3 b4 b5 b6 b7 b8 b9
  go_wp2_with fail
  go_end0
  exact HF.out
def TakPost (base g : Nat) (w : DC.Wd) (n k : Int) (p : AM.Pr) (W : World) (e : Ending) (W' : World) : Prop :=
 e = .returned (.tuple #[]) ∧ WdAt W' base g (DC.takes w n k p) ∧ Kept isTk W W' ∧ Below base W W'
theorem tells_set {w : DC.Wd} {i : Nat} {a : AM.At} : DC.tells ⟨w.ms, w.vs, w.ts.set i a, w.ml, w.ch⟩ (i : Int) a = DC.tells w (i : Int) a := by
 unfold DC.tells DC.tell2 DC.tell1 DC.getV
 simp only [Int.toNat_natCast, List.set_set]
set_option maxRecDepth 100000 in
set_option maxHeartbeats 8000000 in
theorem promised_any (base g i : Nat) (w : DC.Wd) (k : Int) (p : AM.Pr) (W : World) (H : WdAt W base g w) (h0 : DC.May0 w) (hi : i < 6) (FP : FitP p) (hbase : base ≤ W.heap.size) (hl : w.ml.length ≤ 1900) (hch : w.ch.length ≤ 1900) :
  Calls Tryz.prog 80 #[.pointer (some ⟨g, 0, none⟩), .int .i64 (i : Int), .int .i64 k, .agg #[.int .i64 p.n, .int .i64 p.b, .string p.v]] W (TakPost base g w (i : Int) k p W) := by
 have hn : DC.isNode (i : Int) := by unfold DC.isNode; omega
 have LT6 := h! h0.tl
 have hTt : w.ts[i]? = some (DC.getT w (i : Int)) := by have := DC.getT_at h0.tl hn; rwa [Int.toNat_natCast] at this
 have hmt := h0.try_ hn
 have F := fit_mayT hmt
 obtain ⟨tt, htt⟩ : ∃ tt, tt = DC.getT w (i : Int) := ⟨_, rfl⟩
 rw [← htt] at hTt F hmt
 obtain ⟨er, her⟩ : ∃ er, er = AM.errP tt k p := ⟨_, rfl⟩
 obtain ⟨a, ha⟩ : ∃ a, a = AM.prom tt k p := ⟨_, rfl⟩
 have hA : er ≠ 0 → DC.takes w (i : Int) k p = w := fun e => by unfold DC.takes; rw [← htt, if_neg (by rw [← her]; exact e)]
 have hB : er = 0 → a.ph ≠ 2 → DC.takes w (i : Int) k p = ⟨w.ms, w.vs, w.ts.set i a, w.ml, w.ch⟩ := fun e e2 => by unfold DC.takes; rw [← htt, if_pos (by rw [← her]; exact e), ← ha, if_neg e2, Int.toNat_natCast]
 have hC : er = 0 → a.ph = 2 → DC.takes w (i : Int) k p = DC.tells ⟨w.ms, w.vs, w.ts.set i a, w.ml, w.ch⟩ (i : Int) a := fun e e2 => by unfold DC.takes; rw [← htt, if_pos (by rw [← her]; exact e), ← ha, if_pos e2, tells_set]
 have hTA : er = 0 → DC.MayT w.ms (i : Int) a := fun e => by
  have hm := DC.prom_t hmt (by rw [← her]; exact e)
  rw [← ha] at hm
  exact hm
 have hTell : er = 0 → a.ph = 2 → DC.Tell w.ms (i : Int) a := fun e e2 => by
  have hm := hTA e
  refine ⟨hm.1, by omega, ?_, ?_⟩
  ·rcases hm.2 with h | h
   ·omega
   ·exact h.1
  ·rcases hm.2 with h | h
   ·omega
   ·exact h.2
 have HTL := h! (fun (e : er = 0) (e2 : a.ph = 2) (W' : World) (h : WdAt W' base g ⟨w.ms, w.vs, w.ts.set i a, w.ml, w.ch⟩) (hbz : base ≤ W'.heap.size) => tell_any base g i ⟨w.ms, w.vs, w.ts.set i a, w.ml, w.ch⟩ a W' h (by have := h0.setT hn (hTA e); rwa [Int.toNat_natCast] at this) hi (List.getElem?_set_self (by have := LT6.out; omega)) (hTell e e2) hbz hl hch)
 obtain ⟨q, c, x, y, z, hown, hcell⟩ := H.try_ hTt
 obtain ⟨W0, hW0⟩ : ∃ W0, W0 = W.alloc (.cells #[.int .i64 p.n, .int .i64 p.b, .string p.v] 86) := ⟨_, rfl⟩
 have hb0 : Below W.heap.size W W0 := by rw [hW0]; exact (Below.refl _ _).alloc n! _
 have XP : Box W0 W.heap.size 86 #[.int .i64 p.n, .int .i64 p.b, .string p.v] := by rw [hW0]; exact Box.new _ _ _
 have CC := h! (fun (w' : World) (hb : Below W0.heap.size W0 w') => (⟨(hcell w' (bmore hb0 hb n!)), (XP.below hb XP.lt).cell 0, (XP.below hb XP.lt).cell 1, (XP.below hb XP.lt).cell 2⟩ : (w'.cell? ⟨g, 2, none⟩ = some (.slice (some ⟨q, 0, none⟩) w.ts.length c) ∧ w'.cell? ⟨q, i * 7, none⟩ = some (.int .u8 tt.ph) ∧ w'.cell? ⟨q, i * 7 + 1, none⟩ = some (.int .i64 tt.ba) ∧ w'.cell? ⟨q, i * 7 + 2, none⟩ = some x ∧ w'.cell? ⟨q, i * 7 + 3, none⟩ = some (.string tt.wi) ∧ w'.cell? ⟨q, i * 7 + 4, none⟩ = some (.string tt.va) ∧ w'.cell? ⟨q, i * 7 + 5, none⟩ = some y ∧ w'.cell? ⟨q, i * 7 + 6, none⟩ = some z) ∧ w'.cell? ⟨W.heap.size, 0, none⟩ = some (.int .i64 p.n) ∧ w'.cell? ⟨W.heap.size, 1, none⟩ = some (.int .i64 p.b) ∧ w'.cell? ⟨W.heap.size, 2, none⟩ = some (.string p.v)))
 have HPR := h! (fun (W' : World) (hb : Below W0.heap.size W0 W') => prom_any _ tt k p W' (hown.below (bmore hb0 hb n!)).is F FP)
 rw [← her, ← ha] at HPR
 have BW := h! hb0
 have HWd := h! (H.below hb0)
 have HA := h! hA
 have HB := h! hB
 have HC := h! hC
 have HBS := h! hbase
 have HI := h! hi
 have hi0 : (0 : Int) ≤ (i : Int) := by omega
 have hi1 : (i : Int) < (w.ts.length : Int) := by have := LT6.out; omega
 have mixed : Tryz.prog.follows Departure.mixedOrders = true := by kernel_rfl
 have e0 : 0 ≤ tt.ph := F.p1
 clear hA hB hC hTA hTell hbase hn hmt F h0 hTt hcell hown hb0 XP her ha H hl hch hi htt
 go_enter Tryz.func80, Tryz.ntmps80
 go_upto_region 1 with (fail)
 rw [← hW0]
 clear hW0
 go_cut [8, 9] (fun u9 u10 wx => LoopMid W0 a er u9 u10 wx)
 case first =>
  have bb1 : Below W0.heap.size W0 W0.drew := (Below.refl _ _).drew
  have bb0 : ∀ ob : Obj, Below W0.heap.size W0 (W0.alloc ob).drew := fun ob => ((Below.refl _ _).alloc n! ob).drew
  refine wp_region_held_drew (S := fun w' => Below W0.heap.size W0 w') (by kernel_rfl) bb1 (fun hHeld => ?_)
  refine wpAnyH_take (i := 0) (v := ?_) rfl (by kernel_rfl) (by kernel_rfl) (by kernel_rfl) (fun _ _ _ h => h) (Or.inl ⟨by rfl, ?_⟩) (by assumption) ?_
  rotate_left
  ·intro w' hSw
   (try dsimp only at hSw)
   obtain ⟨⟨k0, k1, k2, k3, k4, k5, k6, k7⟩, k8, k9, k10⟩ := CC.out _ hSw
   go_simp
   all_goals (with_reducible rfl)
  try simp only [Act.put, qq]
  refine wpAnyH_take (i := 1) (v := ?_) rfl (by kernel_rfl) (by kernel_rfl) (by kernel_rfl) (fun _ _ _ h => h) (Or.inl ⟨by rfl, ?_⟩) (by assumption) ?_
  rotate_left
  ·intro w' hSw
   (try dsimp only at hSw)
   obtain ⟨⟨k0, k1, k2, k3, k4, k5, k6, k7⟩, k8, k9, k10⟩ := CC.out _ hSw
   go_simp
   all_goals (with_reducible rfl)
  try simp only [Act.put, qq]
  refine wpAnyH_take (i := 2) (v := ?_) rfl (by kernel_rfl) (by kernel_rfl) (by kernel_rfl) (fun _ _ _ h => h) (Or.inl ⟨by rfl, ?_⟩) (by assumption) ?_
  rotate_left
  ·intro w' hSw
   (try dsimp only at hSw)
   obtain ⟨⟨k0, k1, k2, k3, k4, k5, k6, k7⟩, k8, k9, k10⟩ := CC.out _ hSw
   go_simp
   all_goals (with_reducible rfl)
  try simp only [Act.put, qq]
  refine wpAnyH_take (i := 3) (v := ?_) rfl (by kernel_rfl) (by kernel_rfl) (by kernel_rfl) (fun _ _ _ h => h) (Or.inl ⟨by rfl, ?_⟩) (by assumption) ?_
  rotate_left
  ·intro w' hSw
   (try dsimp only at hSw)
   obtain ⟨⟨k0, k1, k2, k3, k4, k5, k6, k7⟩, k8, k9, k10⟩ := CC.out _ hSw
   go_simp
   all_goals (with_reducible rfl)
  try simp only [Act.put, qq]
  refine wpAnyH_take (i := 4) (v := ?_) rfl (by kernel_rfl) (by kernel_rfl) (by kernel_rfl) (fun _ _ _ h => h) (Or.inl ⟨by rfl, ?_⟩) (by assumption) ?_
  rotate_left
  ·intro w' hSw
   (try dsimp only at hSw)
   obtain ⟨⟨k0, k1, k2, k3, k4, k5, k6, k7⟩, k8, k9, k10⟩ := CC.out _ hSw
   go_simp
   all_goals (with_reducible rfl)
  try simp only [Act.put, qq]
  refine wpAnyH_take (i := 5) (v := ?_) rfl (by kernel_rfl) (by kernel_rfl) (by kernel_rfl) (fun _ _ _ h => h) (Or.inl ⟨by rfl, ?_⟩) (by assumption) ?_
  rotate_left
  ·intro w' hSw
   (try dsimp only at hSw)
   obtain ⟨⟨k0, k1, k2, k3, k4, k5, k6, k7⟩, k8, k9, k10⟩ := CC.out _ hSw
   go_simp
   all_goals (with_reducible rfl)
  try simp only [Act.put, qq]
  refine wpAnyH_take (i := 6) (v := ?_) rfl (by kernel_rfl) (by kernel_rfl) (by kernel_rfl) (fun _ _ _ h => h) (Or.inl ⟨by rfl, ?_⟩) (by assumption) ?_
  rotate_left
  ·intro w' hSw
   (try dsimp only at hSw)
   obtain ⟨⟨k0, k1, k2, k3, k4, k5, k6, k7⟩, k8, k9, k10⟩ := CC.out _ hSw
   go_simp
   all_goals (with_reducible rfl)
  try simp only [Act.put, qq]
  refine wpAnyH_take (i := 7) (v := ?_) rfl (by kernel_rfl) (by kernel_rfl) (by kernel_rfl) (fun _ _ _ h => h) (Or.inl ⟨by rfl, ?_⟩) (by assumption) ?_
  rotate_left
  ·intro w' hSw
   (try dsimp only at hSw)
   obtain ⟨⟨k0, k1, k2, k3, k4, k5, k6, k7⟩, k8, k9, k10⟩ := CC.out _ hSw
   go_simp
   all_goals (with_reducible rfl)
  try simp only [Act.put, qq]
  refine wpAnyH_take (i := 8) (v := ?_) rfl (by kernel_rfl) (by kernel_rfl) (by kernel_rfl) (fun _ _ _ h => h) (Or.inl ⟨by rfl, ?_⟩) (by assumption) ?_
  rotate_left
  ·intro w' hSw
   (try dsimp only at hSw)
   obtain ⟨⟨k0, k1, k2, k3, k4, k5, k6, k7⟩, k8, k9, k10⟩ := CC.out _ hSw
   go_simp
   all_goals (with_reducible rfl)
  try simp only [Act.put, qq]
  refine wpAnyH_ready (rs := [9, 13]) (by kernel_rfl) (by simp) ?_
  refine AllReadyH.cons rfl (fun K hK => ?_) (AllReadyH.cons rfl (fun K hK => ?_) AllReadyH.nil)
  ·go_simp
   refine (HPR.out _ bb1).mono ?_
   rintro e w4 ⟨v, rfl, own, hr⟩
   obtain ⟨A5, c5, D5, q5, C5, f5, rfl⟩ := own.form
   have hq := lm_1 (e := er) hr own
   have bb2 := hq.1
   have mid := h! hq.2
   clear hq hr own
   refine hK.out _ _ (bb2) (fun hHeld => ?_)
   clear hK
   try simp only [Act.put, qq]
   refine qT 10 ?_
   try simp only [Act.put, qq]
   refine qT 11 ?_
   try simp only [Act.put, qq]
   refine qT 12 ?_
   try simp only [Act.put, qq]
   refine qR 13 fun K hK => ?_
   go_simp
   refine hK.out _ _ (bb2.alloc bb2.size _) (fun hHeld => ?_)
   clear hK
   try simp only [Act.put, qq]
   refine qR 14 fun K hK => ?_
   go_simp
   refine hK.out _ _ (bb2.alloc bb2.size _) (fun hHeld => ?_)
   clear hK
   try simp only [Act.put, qq]
   refine qT 15 ?_
   try simp only [Act.put, qq]
   refine wpAnyH_done (by kernel_rfl) ?_ _
   go_wp2_with fail
   go_meet
   case rel => exact mid.out
  ·go_simp
   refine hK.out _ _ (bb0 _) (fun hHeld => ?_)
   clear hK
   try simp only [Act.put, qq]
   refine qR 9 fun K hK => ?_
   go_simp
   refine (HPR.out _ (bb0 _)).mono ?_
   rintro e w4 ⟨v, rfl, own, hr⟩
   obtain ⟨A5, c5, D5, q5, C5, f5, rfl⟩ := own.form
   have hq := lm_2 (e := er) hr own
   have bb2 := hq.1
   obtain ⟨⟨r0, r1, r2, r3, r4, r5, r6⟩, z0, z1, z2, z3, z4, z5, z6⟩ := hq.2.1.seven
   have mid := h! hq.2.2
   unfold put7 at mid
   have kk := below_put7 bb2 (g := W0.heap.size) n! (.int .u8 a.ph) (.int .i64 a.ba) (.slice A5 a.ms.length c5) (.string a.wi) (.string a.va) (.slice D5 a.ps.length q5) (.slice C5 a.ac.length f5)
   unfold put7 at kk
   clear hq hr own
   refine hK.out _ _ (bb2) (fun hHeld => ?_)
   clear hK
   try simp only [Act.put, qq]
   refine qT 10 ?_
   try simp only [Act.put, qq]
   refine qT 11 ?_
   try simp only [Act.put, qq]
   refine qT 12 ?_
   try simp only [Act.put, qq]
   refine qR 14 fun K hK => ?_
   go_simp
   refine hK.out _ _ (kk) (fun hHeld => ?_)
   clear hK
   try simp only [Act.put, qq]
   refine qT 15 ?_
   try simp only [Act.put, qq]
   refine wpAnyH_done (by kernel_rfl) ?_ _
   go_wp2_with fail
   go_meet
   case rel => exact mid.out
 case rest =>
  obtain ⟨gM, A5, c5, D5, q5, C5, f5, rfl, rfl, hmb, hmg, hmv, hmo⟩ := hcut
  clear CC HPR
  have S1 : Hid (TkS W base g w gM a A5 c5 D5 q5 C5 f5 wc) := h! ⟨HWd.out.below hmb, ⟨hmv, hmo.mono (show base ≤ W0.heap.size from Nat.le_trans HBS.out BW.out.size)⟩, (Kept.of_below (S := isTk) BW.out).more hmb, bmore (BW.out.mono HBS.out) hmb HBS.out⟩
  clear hmb hmv hmo HWd BW hmg
  by_cases he : er = 0
  rotate_left
  ·have e1 : (er != 0) = true := by simpa using he
   have HF : Hid (TakPost base g w (i : Int) k p W (.returned (.tuple #[])) wc) := h! ⟨rfl, by rw [HA.out he]; exact S1.out.1, S1.out.2.2.1, S1.out.2.2.2⟩
   clear he HA HB HC HTL
   go_wp2_with fail
   go_end0
   exact HF.out
  have HE := h! (HB.out he)
  have HE2 := h! (HC.out he)
  have HTL2 := h! (HTL.out he)
  subst he
  clear HA HB HC HTL
  go_upto_region 3 with (fail)
  obtain ⟨q2, c2, hq2, hq2l, d2, hthere, hst, hfar⟩ := (show WdAt wc.drew base g w from S1.out.1).storeT LT6.out HI.out
  obtain ⟨hs1, hs2, hs3, hs4⟩ := hst a _ _ _ _ _ _ _ S1.out.2.1.2
  have hxM := hfar gM _ (show Box wc.drew gM _ _ from S1.out.2.1.1) rfl (.int .u8 a.ph) (.int .i64 a.ba) (.slice A5 a.ms.length c5) (.string a.wi) (.string a.va) (.slice D5 a.ps.length q5) (.slice C5 a.ac.length f5)
  have NX : Hid (TkS W base g ⟨w.ms, w.vs, w.ts.set i a, w.ml, w.ch⟩ gM a A5 c5 D5 q5 C5 f5 (putAt7 wc.drew q2 (i * 7) (.int .u8 a.ph) (.int .i64 a.ba) (.slice A5 a.ms.length c5) (.string a.wi) (.string a.va) (.slice D5 a.ps.length q5) (.slice C5 a.ac.length f5))) :=
   h! ⟨hs1, ⟨hxM, (hs2.at_ (show AtOwn wc.drew base _ _ from S1.out.2.1.2) (by unfold isA; decide) (by unfold isA; decide))⟩, (S1.out.2.2.1.more ((Below.refl _ _).drew)).trans (hs2.mono fun _ h => tk_of_a h), below_more (bmore S1.out.2.2.2 ((Below.refl _ _).drew) HBS.out) hs3⟩
  obtain ⟨⟨s0, s1, s2, s3, s4, s5, s6⟩, _⟩ := (show Box wc.drew gM _ _ from S1.out.2.1.1).seven
  obtain ⟨⟨r0, r1, r2, r3, r4, r5, r6⟩, _⟩ := hxM.seven
  clear hst hfar hs1 hs2 hs3 hxM S1 hq2 hq2l
  go_cut [32] (fun _ wx => TkS W base g ⟨w.ms, w.vs, w.ts.set i a, w.ml, w.ch⟩ gM a A5 c5 D5 q5 C5 f5 wx)
  case first =>
   have hS0 : wc.drew.cell? ⟨g, 2, none⟩ = some (.slice (some ⟨q2, 0, none⟩) w.ts.length c2) ∧ wc.drew.cell? ⟨gM, 0, none⟩ = some (.int .u8 a.ph) ∧ wc.drew.cell? ⟨gM, 1, none⟩ = some (.int .i64 a.ba) ∧ wc.drew.cell? ⟨gM, 2, none⟩ = some (.slice A5 a.ms.length c5) ∧ wc.drew.cell? ⟨gM, 3, none⟩ = some (.string a.wi) ∧ wc.drew.cell? ⟨gM, 4, none⟩ = some (.string a.va) ∧ wc.drew.cell? ⟨gM, 5, none⟩ = some (.slice D5 a.ps.length q5) ∧ wc.drew.cell? ⟨gM, 6, none⟩ = some (.slice C5 a.ac.length f5) := ⟨d2, s0, s1, s2, s3, s4, s5, s6⟩
   have hS1 := And.intro hs4 (And.intro r0 (And.intro r1 (And.intro r2 (And.intro r3 (And.intro r4 (And.intro r5 r6))))))
   clear r0 r1 r2 r3 r4 r5 r6 s0 s1 s2 s3 s4 s5 s6 d2 hs4
   refine wp_region_held_drew (S := fun w' => w'.cell? ⟨g, 2, none⟩ = some (.slice (some ⟨q2, 0, none⟩) w.ts.length c2) ∧ w'.cell? ⟨gM, 0, none⟩ = some (.int .u8 a.ph) ∧ w'.cell? ⟨gM, 1, none⟩ = some (.int .i64 a.ba) ∧ w'.cell? ⟨gM, 2, none⟩ = some (.slice A5 a.ms.length c5) ∧ w'.cell? ⟨gM, 3, none⟩ = some (.string a.wi) ∧ w'.cell? ⟨gM, 4, none⟩ = some (.string a.va) ∧ w'.cell? ⟨gM, 5, none⟩ = some (.slice D5 a.ps.length q5) ∧ w'.cell? ⟨gM, 6, none⟩ = some (.slice C5 a.ac.length f5)) (by kernel_rfl) hS0 (fun hHeld => ?_)
   refine qT 0 ?_
   try simp only [Act.put, qq]
   refine qT 1 ?_
   try simp only [Act.put, qq]
   refine qT 2 ?_
   try simp only [Act.put, qq]
   refine qT 3 ?_
   try simp only [Act.put, qq]
   refine qT 4 ?_
   try simp only [Act.put, qq]
   refine qT 5 ?_
   try simp only [Act.put, qq]
   refine qT 6 ?_
   try simp only [Act.put, qq]
   refine qR 7 fun K hK => ?_
   refine step_store_mid rfl 57 _ _ rfl q2 (i * 7) #[.int .u8 a.ph, .int .i64 a.ba, .slice A5 a.ms.length c5, .string a.wi, .string a.va, .slice D5 a.ps.length q5, .slice C5 a.ac.length f5] (by simp [Act.eval, Act.put]) (by simp [Act.eval, Act.put]) hthere (by kernel_rfl) (by simp [Value.oneCell']) ?_
   refine hK.out _ _ (hS1) (fun hHeld => ?_)
   clear hK
   try simp only [Act.put, qq]
   refine wpAnyH_done (by kernel_rfl) ?_ _
   go_wp2_with fail
   go_meet
   case rel => exact NX.out
  case rest =>
   clear NX hthere r0 r1 r2 r3 r4 r5 r6 s0 s1 s2 s3 s4 s5 s6 d2 hs4
   have S2 := h! hcut
   clear hcut
   obtain ⟨⟨s0, s1, s2, s3, s4, s5, s6⟩, _⟩ := S2.out.2.1.1.seven
   clear s1 s2 s3 s4 s5 s6
   by_cases h2 : a.ph = 2
   rotate_left
   ·have e2 : (a.ph == 2) = false := by simpa using h2
    have HF := h! (show TakPost base g w (i : Int) k p W (.returned (.tuple #[])) _ from ⟨rfl, by rw [HE.out h2]; exact S2.out.1, S2.out.2.2.1, S2.out.2.2.2⟩)
    clear HE HE2 HTL2 h2
    go_wp2_with fail
    go_end0
    exact HF.out
   have e2 : (a.ph == 2) = true := by simpa using h2
   have HG := h! (HE2.out h2)
   have HTL3 := h! (HTL2.out h2)
   clear HE HE2 HTL2 h2
   go_wp2_with fail
   refine (HTL3.out _ S2.out.1 (Nat.le_trans HBS.out S2.out.2.2.2.size)).mono ?_
   rintro e wz ⟨rfl, hz1, hz2, hz3⟩
   have HF : Hid (TakPost base g w (i : Int) k p W (.returned (.tuple #[])) wz) := h! ⟨rfl, by rw [HG.out]; exact hz1, S2.out.2.2.1.trans hz2, below_more S2.out.2.2.2 hz3⟩
   clear hz1 hz2 hz3 s0 HTL3
   go_wp2_with fail
   go_end0
   exact HF.out
end Go.Proofs.YtiiobafcgdelmaaGreat.PD
