/- Contracts of functions of towncrier, layers 5 to 9, and of the document's own ones, part 42; each as its theorem says. -/
import Derived.Test.YtiiobafcgdelmaaGreatL01
import Derived.Test.YtiiobafcgdelmaaGreatL41
set_option linter.unusedVariables false
set_option linter.unusedSimpArgs false
namespace Go.Proofs.YtiiobafcgdelmaaGreat
open Go.RowKit Go.Shelf
def CmX (W : World) (base g : Nat) (w : DC.Wd) (gm gb gv : Nat) (cm cb : Array Value) (v : DC.Vt) (wx : World) : Prop :=
 CmS W base g w gm gb gv cm cb v wx ∧ base ≤ gb ∧ gm ≠ gb ∧ ∀ u, wx.cell? ⟨g, 3, none⟩ = some u → u.ownBlock ≠ some gb
section
variable {W wx wy : World} {base g gm gb gv : Nat} {w : DC.Wd} {cm cb : Array Value} {v : DC.Vt}
theorem CmX.below (h : CmX W base g w gm gb gv cm cb v wx) (hb : Below wx.heap.size wx wy) (hbase : base ≤ W.heap.size) : CmX W base g w gm gb gv cm cb v wy :=
 ⟨h.1.below hb hbase, h.2.1, h.2.2.1, fun u hu => h.2.2.2 u (by rwa [hb.cell (show (⟨g, 3, none⟩ : Addr).block < wx.heap.size from h.1.1.lt.2)] at hu)⟩
def isM (e : TypeId) : Prop := e = 51
theorem CmX.store (h : CmX W base g w gm gb gv cm cb v wx) (j : Nat) (u : Value) : CmX W base g w gm gb gv cm (cb.setIfInBounds j u) v (wx.setCell ⟨gb, j, none⟩ u) := by
 obtain ⟨⟨⟨A0, c0, A1, c1, A2, c2, A3, c3, A4, c4, xs, hgb, hx, o0, o1, o2, ht, o3, o4⟩, hm, hb, hv, hk, hbl⟩, h1, h2, hap⟩ := h
 have ks : Kept isM wx (wx.setCell ⟨gb, j, none⟩ u) := Kept.set hb (show isM 51 from rfl) _
 have nI : ¬ isM 3 := by unfold isM; decide
 have nP : ¬ isM 86 := by unfold isM; decide
 have hx' := ks.box _ _ _ (by unfold isM; decide) hx
 refine ⟨⟨⟨A0, c0, A1, c1, A2, c2, A3, c3, A4, c4, xs, hgb, hx', ks.own o0 nI, ks.own o1 (by unfold isM; decide), ks.own o2 (by unfold isM; decide), ht.kept ks nI nP, ownM_setCell_other o3 (p := ⟨gb, j, none⟩) (hap _ hx.five.1.2.2.2.1) u, ks.own o4 (by unfold isM; decide)⟩, hm.far (p := ⟨gb, j, none⟩) h2 u, hb.stored j u, ks.box _ _ _ (by unfold isM; decide) hv, hk.trans (ks.mono fun e he => .inr (.inl he)), hbl.setCell (p := ⟨gb, j, none⟩) h1 u⟩, h1, h2, fun u' hu' => hap u' ?_⟩
 rw [hx'.five.1.2.2.2.1] at hu'
 rw [hx.five.1.2.2.2.1]
 exact hu'
theorem CmX.storeV {gq : Nat} {cs : Array Value} (h : CmX W base g w gm gb gv cm cb v wx) (hq : Box wx gq 59 cs) (hbq : base ≤ gq) (hgq : gv ≠ gq) (hvs : ∀ u, wx.cell? ⟨g, 1, none⟩ = some u → u.ownBlock ≠ some gq) (j : Nat) (u : Value) : CmX W base g w gm gb gv cm cb v (wx.setCell ⟨gq, j, none⟩ u) ∧ ∀ u', (wx.setCell ⟨gq, j, none⟩ u).cell? ⟨g, 1, none⟩ = some u' → u'.ownBlock ≠ some gq := by
 obtain ⟨⟨⟨A0, c0, A1, c1, A2, c2, A3, c3, A4, c4, xs, hgb, hx, o0, o1, o2, ht, o3, o4⟩, hm, hb, hv, hk, hbl⟩, h1, h2, hap⟩ := h
 have ks : Kept isV wx (wx.setCell ⟨gq, j, none⟩ u) := Kept.set hq (show isV 59 from rfl) _
 have nI : ¬ isV 3 := by unfold isV; decide
 have nP : ¬ isV 86 := by unfold isV; decide
 have hx' := ks.box _ _ _ (by unfold isV; decide) hx
 refine ⟨⟨⟨⟨A0, c0, A1, c1, A2, c2, A3, c3, A4, c4, xs, hgb, hx', ks.own o0 nI, ownsRow_setCell_other o1 (a := ⟨gq, j, none⟩) (hvs _ hx.five.1.2.1) u, ks.own o2 (by unfold isV; decide), ht.kept ks nI nP, ks.ownM o3 (by unfold isV; decide), ks.own o4 (by unfold isV; decide)⟩, ks.box _ _ _ (by unfold isV; decide) hm, ks.box _ _ _ (by unfold isV; decide) hb, hv.far (p := ⟨gq, j, none⟩) hgq u, hk.trans (ks.mono fun e he => tk_of_v he), hbl.setCell (p := ⟨gq, j, none⟩) hbq u⟩, h1, h2, fun u' hu' => hap u' ?_⟩, fun u' hu' => hvs u' ?_⟩
 ·rw [hx'.five.1.2.2.2.1] at hu'
  rw [hx.five.1.2.2.2.1]
  exact hu'
 ·rw [hx'.five.1.2.1] at hu'
  rw [hx.five.1.2.1]
  exact hu'
end
theorem acc_old70 {p b : Int} {s : ByteArray} {k : Int} {v : ByteArray} {x y : Int} {t : ByteArray} {e : Int} (h : VM.AccIs p b s k v x y t e) (hm : VM.may p b s) (hk : BM.good k) (hv : v.size ≤ 1024) (hp : k < p) : e = 70 := by
 rcases h.1 with ⟨n, _⟩ | ⟨_, n, _⟩ | ⟨_, _, n, _⟩ | ⟨_, _, _, _, h⟩ | ⟨_, _, _, n, _⟩
 ·exact absurd hm n
 ·exact absurd hk n
 ·omega
 ·exact h
 ·omega
theorem back_next {u w9 : World} {base g ML : Nat} {w : DC.Wd} {m : DC.Ml} {A0 A1 A2 A3 A4 A9 : Option Addr} {c0 c1 c2 c3 c4 c9 : Nat} {xs : List Value}
  (hML : w.ml.length = ML) (hbase : base ≤ u.heap.size) (hg : base ≤ g)
  (hx : Box u g 28 #[.slice A0 w.ms.length c0, .slice A1 w.vs.length c1, .slice A2 w.ts.length c2, .slice A3 ML c3, .slice A4 w.ch.length c4])
  (o0 : u.ownsRow base 3 1 (.slice A0 w.ms.length c0) w.ms.length (ic w.ms)) (o1 : u.ownsRow base 59 3 (.slice A1 w.vs.length c1) w.vs.length (flat vcell w.vs))
  (o2 : u.ownsRow base 57 7 (.slice A2 w.ts.length c2) w.ts.length xs) (ht : TsRow u base xs w.ts) (o3 : OwnsM u base (.slice A3 ML c3) ML (flat mcell w.ml)) (o4 : u.ownsRow base 53 2 (.slice A4 w.ch.length c4) w.ch.length (flat ccell w.ch))
  (hg9 : (u.alloc (.cells (mcell m).toArray 51)).drew.grownBy w9 (Value.slice A3 ML c3).ownBlock) (o9 : w9.ownsRow base 51 10 (.slice A9 (ML + 1) c9) (ML + 1) (flat mcell w.ml ++ mcell m)) :
  WdAt (w9.setCell ⟨g, 3, none⟩ (.slice A9 (ML + 1) c9)) base g ⟨w.ms, w.vs, w.ts, w.ml ++ [m], w.ch⟩ ∧ Kept isWM u (w9.setCell ⟨g, 3, none⟩ (.slice A9 (ML + 1) c9)) ∧ Below base u (w9.setCell ⟨g, 3, none⟩ (.slice A9 (ML + 1) c9)) := by
 have hal : Below u.heap.size u (u.alloc (.cells (mcell m).toArray 51)).drew := ((Below.refl _ _).alloc n! _).drew
 have k1 : Kept isWM u (u.alloc (.cells (mcell m).toArray 51)).drew := Kept.of_below hal
 have q4 := o3.below hal
 have k2 : Kept isWM (u.alloc (.cells (mcell m).toArray 51)).drew w9 := Kept.grownM q4 (.inr rfl) hg9
 have hx9 : Box w9 g 28 _ := (hx.below hal hx.lt).grown hg9 (fun e => by
  obtain ⟨_, cur, hc⟩ := ownM_block q4 e.symm
  have := hx.below hal hx.lt
  rw [Box] at this hc
  rw [hc] at this
  injection this with this
  injection this with _ this
  exact absurd this (by decide))
 have k3 : Kept isWM w9 (w9.setCell ⟨g, 3, none⟩ (.slice A9 (ML + 1) c9)) := Kept.set hx9 (.inl rfl) _
 have kk := (k1.trans k2).trans k3
 have nI : ¬ isWM 3 := by unfold isWM; decide
 have nP : ¬ isWM 86 := by unfold isWM; decide
 have hlen : (w.ml ++ [m]).length = ML + 1 := by rw [List.length_append, hML]; rfl
 have hrow : flat mcell (w.ml ++ [m]) = flat mcell w.ml ++ mcell m := by rw [flat_append, flat_one]
 refine ⟨⟨A0, c0, A1, c1, A2, c2, A9, c9, A4, c4, xs, hg, ?_, kk.own o0 nI, kk.own o1 (by unfold isWM; decide), kk.own o2 (by unfold isWM; decide), ht.kept kk nI nP, ?_, kk.own o4 (by unfold isWM; decide)⟩, kk, ?_⟩
 ·show Box _ g 28 #[_, _, _, .slice A9 (w.ml ++ [m]).length c9, _]
  rw [hlen]
  simpa using hx9.stored 3 (.slice A9 (ML + 1) c9)
 ·show OwnsM _ base (.slice A9 (w.ml ++ [m]).length c9) (w.ml ++ [m]).length (flat mcell (w.ml ++ [m]))
  rw [hlen, hrow]
  exact .inl (own_setother o9 hx9 (by decide) _)
 ·have h1 : Below base u w9 := (hal.mono hbase).grown hg9 (Nat.le_trans hbase hal.size) (fun q hq => (ownM_block q4 hq).1)
  exact h1.setCell (p := ⟨g, 3, none⟩) hg _
theorem set_same {α : Type} {l : List α} {i : Nat} {a : α} (h : l[i]? = some a) : l.set i a = l := by
 apply List.ext_getElem?
 intro j
 by_cases hj : i = j
 ·subst hj
  rw [List.getElem?_set_self (List.getElem?_eq_some_iff.1 h).1, h]
 ·rw [List.getElem?_set_ne hj]
theorem hvs_ne {W : World} {base g gq : Nat} {w : DC.Wd} {cs : Array Value} (h : WdAt W base g w) (hn : w.vs.length = 6) (hq : Box W gq 59 cs) (hc : cs.size = 3) : ∀ u, W.cell? ⟨g, 1, none⟩ = some u → u.ownBlock ≠ some gq := by
 obtain ⟨A0, c0, A1, c1, A2, c2, A3, c3, A4, c4, xs, hgb, hx, o0, o1, o2, ht, o3, o4⟩ := h
 intro u hu e
 rw [hx.five.1.2.1] at hu
 injection hu with hu
 subst hu
 obtain ⟨q, rfl, _, _⟩ := own_some o1 (by omega)
 have hne := row_ne o1 (by omega) hq (by omega) hc
 exact hne (by injection e with e; exact e.symm)
set_option maxRecDepth 100000 in
set_option maxHeartbeats 8000000 in
theorem comes_1 (base g i : Nat) (w : DC.Wd) (f b p : Int) (v : ByteArray) (W : World) (H : WdAt W base g w) (h0 : DC.May0 w) (hi : i < 6) (hm : DC.MayM (DC.mk f (i : Int) 1 b p v)) (hbase : base ≤ W.heap.size) (hl : w.ml.length ≤ 1000) (hch : w.ch.length ≤ 1000) :
  Calls Tryz.prog 28 #[.pointer (some ⟨g, 0, none⟩), .agg #[.int .i64 f, .int .i64 (i : Int), .int .u8 1, .int .i64 0, .int .i64 0, .int .i64 b, .int .i64 p, .string v, .int .i64 0, .int .i64 0]] W (ComPost base g w (DC.mk f (i : Int) 1 b p v) W) := by
 have hn : DC.isNode (i : Int) := by unfold DC.isNode; omega
 have LT6 := h! h0.tl
 have LV6 := h! h0.vl
 have hVv : w.vs[i]? = some (DC.getV w (i : Int)) := by have := DC.getV_at h0.vl hn; rwa [Int.toNat_natCast] at this
 have hvm := h0.vote hn
 have H0 := h! h0
 have HM := h! hm
 have HBS := h! hbase
 have HWD := h! H
 have LEN := h! (And.intro hl hch)
 have hi0 : (0 : Int) ≤ (i : Int) := by omega
 have hi2 : (i : Int) < (w.vs.length : Int) := by have := LV6.out; omega
 obtain ⟨A0, c0, A1, c1, A2, c2, A3, c3, A4, c4, xs, hgb, hx, o0, o1, o2, ht, o3, o4⟩ := H
 obtain ⟨q1, rfl, hq1, v0, v1, v2⟩ := vote_cells o1 hVv rfl
 have hq1lt : q1 < W.heap.size := by obtain ⟨_, cur, hc⟩ := own_block o1 (show (Value.slice (some ⟨q1, 0, none⟩) w.vs.length c1).ownBlock = some q1 from rfl); exact hc.lt
 have hglt := hx.lt
 obtain ⟨vt, hvt⟩ : ∃ vt, vt = DC.getV w (i : Int) := ⟨_, rfl⟩
 rw [← hvt] at v0 v1 v2 hvm
 have HVT := h! hvt
 have HVM := h! hvm
 obtain ⟨W2, hW2⟩ : ∃ W2, W2 = (W.alloc (.cells #[.int .i64 f, .int .i64 (i : Int), .int .u8 1, .int .i64 0, .int .i64 0, .int .i64 b, .int .i64 p, .string v, .int .i64 0, .int .i64 0] 51)).alloc (.cells #[.int .i64 (i : Int), .int .i64 f, .int .u8 0, .int .i64 0, .int .i64 0, .int .i64 b, .int .i64 0, .string ⟨#[]⟩, .int .i64 0, .int .i64 0] 51) := ⟨_, rfl⟩
 have hb2 : Below W.heap.size W W2 := by rw [hW2]; exact ((Below.refl _ _).alloc n! _).alloc (by simp) _
 have hb3 : Below W.heap.size W (W2.alloc (.cells #[.int .i64 vt.p, .int .i64 vt.b, .string vt.v] 59)) := hb2.alloc hb2.size _
 have hs2 : W2.heap.size = W.heap.size + 1 + 1 := by rw [hW2]; simp
 have hap : ∀ u, (W2.alloc (.cells #[.int .i64 vt.p, .int .i64 vt.b, .string vt.v] 59)).cell? ⟨g, 3, none⟩ = some u → u.ownBlock ≠ some (W.heap.size + 1) := fun u hu e => by
  rw [hb3.cell (show (⟨g, 3, none⟩ : Addr).block < W.heap.size from hglt), hx.five.1.2.2.2.1] at hu
  injection hu with hu
  subst hu
  obtain ⟨_, cur, hc⟩ := ownM_block o3 e
  have := hc.lt
  omega
 have S1 : Hid (CmX W base g w W.heap.size (W.heap.size + 1) (W.heap.size + 1 + 1) #[.int .i64 f, .int .i64 (i : Int), .int .u8 1, .int .i64 0, .int .i64 0, .int .i64 b, .int .i64 p, .string v, .int .i64 0, .int .i64 0] #[.int .i64 (i : Int), .int .i64 f, .int .u8 0, .int .i64 0, .int .i64 0, .int .i64 b, .int .i64 0, .string ⟨#[]⟩, .int .i64 0, .int .i64 0] vt (W2.alloc (.cells #[.int .i64 vt.p, .int .i64 vt.b, .string vt.v] 59))) := h! ⟨⟨HWD.out.below hb3, (show Box W2 W.heap.size _ _ by rw [hW2]; exact (Box.new _ _ _).alloc _).alloc _, (show Box W2 (W.heap.size + 1) _ _ by rw [hW2]; exact Box.new_at _ (by simp)).alloc _, Box.new_at _ hs2, Kept.of_below hb3, hb3.mono HBS.out⟩, by have := HBS.out; omega, by omega, hap⟩
 clear hap
 have w0 := (hb2.cell (p := ⟨q1, i * 3, none⟩) hq1lt).trans v0
 have w1 := (hb2.cell (p := ⟨q1, i * 3 + 1, none⟩) hq1lt).trans v1
 have w2 := (hb2.cell (p := ⟨q1, i * 3 + 2, none⟩) hq1lt).trans v2
 obtain ⟨⟨g0, g1, g2, g3, g4⟩, _⟩ := (hx.below hb2 hglt).five
 have HS2 := h! hs2
 clear h0 hn hm hvm hVv hbase hl hch hq1 hgb hx o0 o1 o2 ht o3 o4 hvt v0 v1 v2 hb2 hb3 hq1lt hglt hs2
 have mixed : Tryz.prog.follows Departure.mixedOrders = true := by kernel_rfl
 go_enter Tryz.func28, Tryz.ntmps28
 go_upto_region 3 with (fail)
 rw [← hW2]
 clear hW2
 go_upto_region 4 with (fail)
 clear w0 w1 w2 g0 g1 g2 g3 g4
 rw [HS2.out]
 generalize W2.alloc (.cells #[.int .i64 vt.p, .int .i64 vt.b, .string vt.v] 59) = u1 at S1 ⊢
 have hne : W.heap.size + 1 ≠ W.heap.size + 1 + 1 := by omega
 have hne2 : W.heap.size + 1 + 1 ≠ W.heap.size + 1 := by omega
 generalize W.heap.size + 1 + 1 = gv at S1 hne hne2 ⊢
 generalize W.heap.size + 1 = gb at S1 hne hne2 ⊢
 generalize W.heap.size = gm at S1 ⊢
 obtain ⟨m0, m1, m2, m3, m4, m5, m6, m7, m8, m9⟩ := S1.out.1.2.1.ten
 obtain ⟨v0, v1, v2, _⟩ := S1.out.1.2.2.2.1.three
 obtain ⟨x, y, tv, ee, hprep⟩ := VM.prepIs_ex vt.p vt.b vt.v b
 have HPI := h! hprep
 have HPR := h! (VP.rPrep_any (s := vt.v) u1 (by have := HVM.out.2; unfold maxLen; rcases this with ⟨_, e⟩ | ⟨_, _, _, e⟩; (· rw [e]; decide); (· omega)) hprep)
 clear hprep
 go_wp2_with fail
 refine HPR.out.mono ?_
 rintro e w3 ⟨rfl, hb3⟩
 clear HPR
 clear m0 m1 m2 m3 m4 m5 m6 m7 m8 m9
 clear v0 v1 v2
 have hb4 : Below u1.heap.size u1 (w3.alloc (.cells #[.int .i64 x, .int .i64 y, .string tv] 59)) := hb3.alloc hb3.size _
 have S3 := h! (S1.out.below hb4 HBS.out)
 have X7 := h! (Box.new w3 59 #[.int .i64 x, .int .i64 y, .string tv])
 have hg7a : base ≤ w3.heap.size ∧ gv ≠ w3.heap.size := ⟨Nat.le_trans HBS.out (Nat.le_trans S1.out.1.2.2.2.2.2.size hb3.size), by have := S1.out.1.2.2.2.1.lt; have := hb3.size; omega⟩
 clear hb4 hb3 S1
 go_upto_region 8 with (fail)
 generalize w3.alloc (.cells #[.int .i64 x, .int .i64 y, .string tv] 59) = u3 at S3 X7 ⊢
 generalize w3.heap.size = g7 at X7 hg7a ⊢
 have HG7 := h! hg7a
 clear hg7a
 obtain ⟨v0, v1, v2, _⟩ := S3.out.1.2.2.2.1.three
 obtain ⟨b0, b1, b2, b3, b4, b5, b6, b7, b8, b9⟩ := S3.out.1.2.2.1.ten
 have z2 := S3.out.1.2.2.1.frozen 2
 have z6 := S3.out.1.2.2.1.frozen 6
 have z7 := S3.out.1.2.2.1.frozen 7
 go_region
 clear b0 b1 b2 b3 b4 b5 b6 b7 b8 b9 z2 z6 z7
 clear v0 v1 v2
 have S4 : Hid (CmX W base g w gm gb gv #[.int .i64 f, .int .i64 (i : Int), .int .u8 1, .int .i64 0, .int .i64 0, .int .i64 b, .int .i64 p, .string v, .int .i64 0, .int .i64 0] #[.int .i64 (i : Int), .int .i64 f, .int .u8 2, .int .i64 0, .int .i64 0, .int .i64 b, .int .i64 vt.b, .string vt.v, .int .i64 0, .int .i64 0] vt (((u3.setCell ⟨gb, 2, none⟩ (.int .u8 2)).setCell ⟨gb, 6, none⟩ (.int .i64 vt.b)).setCell ⟨gb, 7, none⟩ (.string vt.v)).drew) := h! (by
  have := (((S3.out.store 2 (.int .u8 2)).store 6 (.int .i64 vt.b)).store 7 (.string vt.v)).below ((Below.refl _ _).drew) HBS.out
  simpa using this)
 have X8 : Hid (Box (((u3.setCell ⟨gb, 2, none⟩ (.int .u8 2)).setCell ⟨gb, 6, none⟩ (.int .i64 vt.b)).setCell ⟨gb, 7, none⟩ (.string vt.v)).drew g7 59 #[.int .i64 x, .int .i64 y, .string tv]) := h! (by
  have hg : g7 ≠ gb := fun e => by
   have h1 := X7.out
   have h2 := S3.out.1.2.2.1
   rw [e] at h1
   rw [Box] at h1 h2
   rw [h1] at h2
   injection h2 with h2
   injection h2 with _ h2
   exact absurd h2 (by decide)
  exact ((X7.out.far (p := ⟨gb, 2, none⟩) hg _).far (p := ⟨gb, 6, none⟩) hg _).far (p := ⟨gb, 7, none⟩) hg _)
 clear S3 X7
 have X7 := X8
 clear X8
 generalize (((u3.setCell ⟨gb, 2, none⟩ (.int .u8 2)).setCell ⟨gb, 6, none⟩ (.int .i64 vt.b)).setCell ⟨gb, 7, none⟩ (.string vt.v)).drew = u4 at S4 X7 ⊢
 obtain ⟨m0, m1, m2, m3, m4, m5, m6, m7, m8, m9⟩ := S4.out.1.2.1.ten
 have hgood : BM.good b := HM.out.2.2.2.2.2.1
 by_cases hle : vt.p ≤ b
 ·obtain ⟨p1, p2, p3, p4⟩ := VM.prep_good HPI.out HVM.out hgood hle
  rw [p1, p2, p3] at X7
  have HDC : Hid (DC.comes w (DC.mk f (i : Int) 1 b p v) = ⟨w.ms, w.vs.set i ⟨b, vt.b, vt.v⟩, w.ts, w.ml ++ [DC.mk (i : Int) f 2 b vt.b vt.v], w.ch⟩) := h! (by
   unfold DC.comes
   rw [if_pos (show (DC.mk f (i : Int) 1 b p v).k = 1 from rfl)]
   show (if (DC.getV w (i : Int)).p ≤ b then _ else _) = _
   rw [← HVT.out, if_pos hle]
   show (⟨w.ms, w.vs.set (i : Int).toNat ⟨b, (DC.getV w (i : Int)).b, (DC.getV w (i : Int)).v⟩, w.ts, w.ml ++ [DC.mk (i : Int) f 2 b (DC.getV w (i : Int)).b (DC.getV w (i : Int)).v], w.ch⟩ : DC.Wd) = _
   rw [← HVT.out, Int.toNat_natCast])
  rw [p4]
  clear p1 p2 p3 p4 hle hgood HPI
  skip
  obtain ⟨A0, c0, A1, c1, A2, c2, A3, c3, A4, c4, xs, hgb, hx, o0, o1, o2, ht, o3, o4⟩ := S4.out.1.1
  obtain ⟨q3, rfl, hq3, _⟩ := own_some o1 (by have := LV6.out; omega)
  obtain ⟨x0, x1, x2, _⟩ := X7.out.three
  obtain ⟨⟨g0, g1, g2, g3, g4⟩, _⟩ := hx.five
  have hgq := row_ne o1 (by have := LV6.out; omega) X7.out (by omega) rfl
  have hthere := there_own (o := i * 3) (k := 3) o1 (by have := LV6.out; omega)
  have hst := wd_setV (W := u4.drew) (i := i) (v := ⟨b, vt.b, vt.v⟩) hgb hx o0 o1 o2 ht o3 o4 (by have := LV6.out; omega)
  have hnx : WdAt (putAt3 u4.drew q3 (i * 3) (.int .i64 b) (.int .i64 vt.b) (.string vt.v)) base g ⟨w.ms, w.vs.set i ⟨b, vt.b, vt.v⟩, w.ts, w.ml, w.ch⟩ ∧ Box (putAt3 u4.drew q3 (i * 3) (.int .i64 b) (.int .i64 vt.b) (.string vt.v)) gb 51 #[.int .i64 (i : Int), .int .i64 f, .int .u8 2, .int .i64 0, .int .i64 0, .int .i64 b, .int .i64 vt.b, .string vt.v, .int .i64 0, .int .i64 0] ∧ Kept isTk W (putAt3 u4.drew q3 (i * 3) (.int .i64 b) (.int .i64 vt.b) (.string vt.v)) ∧ Below base W (putAt3 u4.drew q3 (i * 3) (.int .i64 b) (.int .i64 vt.b) (.string vt.v)) :=
   ⟨hst.1, hst.2.1.box _ _ _ (by unfold isV; decide) (show Box u4.drew gb _ _ from S4.out.1.2.2.1), (S4.out.1.2.2.2.2.1.more ((Below.refl _ _).drew)).trans (hst.2.1.mono fun _ h => tk_of_v h), below_more (bmore S4.out.1.2.2.2.2.2 ((Below.refl _ _).drew) HBS.out) hst.2.2⟩
  have hks : (putAt3 u4.drew q3 (i * 3) (.int .i64 b) (.int .i64 vt.b) (.string vt.v)).cell? ⟨g, 1, none⟩ = some (.slice (some ⟨q3, 0, none⟩) w.vs.length c1) ∧ (putAt3 u4.drew q3 (i * 3) (.int .i64 b) (.int .i64 vt.b) (.string vt.v)).cell? ⟨g7, 0, none⟩ = some (.int .i64 b) ∧ (putAt3 u4.drew q3 (i * 3) (.int .i64 b) (.int .i64 vt.b) (.string vt.v)).cell? ⟨g7, 1, none⟩ = some (.int .i64 vt.b) ∧ (putAt3 u4.drew q3 (i * 3) (.int .i64 b) (.int .i64 vt.b) (.string vt.v)).cell? ⟨g7, 2, none⟩ = some (.string vt.v) := by
   have hgx := hst.2.1.box _ _ _ (show ¬ isV 28 by unfold isV; decide) (show Box u4.drew g _ _ from hx)
   have hmx := box_at3 (o := i * 3) (show Box u4.drew g7 _ _ from X7.out) hgq (.int .i64 b) (.int .i64 vt.b) (.string vt.v)
   exact ⟨hgx.cell 1, hmx.cell 0, hmx.cell 1, hmx.cell 2⟩
  have NX := h! hnx
  have KS := h! hks
  clear hks hst hnx hgq hgb hx o0 o1 o2 ht o3 o4 hq3
  go_upto_region 15 with (fail)
  go_cut [74] (fun _ wx => WdAt wx base g ⟨w.ms, w.vs.set i ⟨b, vt.b, vt.v⟩, w.ts, w.ml, w.ch⟩ ∧ Box wx gb 51 #[.int .i64 (i : Int), .int .i64 f, .int .u8 2, .int .i64 0, .int .i64 0, .int .i64 b, .int .i64 vt.b, .string vt.v, .int .i64 0, .int .i64 0] ∧ Kept isTk W wx ∧ Below base W wx)
  case first =>
   have hS0 : u4.drew.cell? ⟨g, 1, none⟩ = some (.slice (some ⟨q3, 0, none⟩) w.vs.length c1) ∧ u4.drew.cell? ⟨g7, 0, none⟩ = some (.int .i64 b) ∧ u4.drew.cell? ⟨g7, 1, none⟩ = some (.int .i64 vt.b) ∧ u4.drew.cell? ⟨g7, 2, none⟩ = some (.string vt.v) := ⟨g1, x0, x1, x2⟩
   have hS1 := KS.out
   refine wp_region_held_drew (S := fun w' => w'.cell? ⟨g, 1, none⟩ = some (.slice (some ⟨q3, 0, none⟩) w.vs.length c1) ∧ w'.cell? ⟨g7, 0, none⟩ = some (.int .i64 b) ∧ w'.cell? ⟨g7, 1, none⟩ = some (.int .i64 vt.b) ∧ w'.cell? ⟨g7, 2, none⟩ = some (.string vt.v)) (by kernel_rfl) hS0 (fun hHeld => ?_)
   refine qT 0 ?_
   try simp only [Act.put, qq]
   refine qT 1 ?_
   try simp only [Act.put, qq]
   refine qT 2 ?_
   try simp only [Act.put, qq]
   refine qT 3 ?_
   try simp only [Act.put, qq]
   refine qT 4 ?_
   try simp only [Act.put, qq]
   refine qT 5 ?_
   try simp only [Act.put, qq]
   refine qT 6 ?_
   try simp only [Act.put, qq]
   refine qR 7 fun K hK => ?_
   refine step_store_mid rfl 59 _ _ rfl q3 (i * 3) #[.int .i64 b, .int .i64 vt.b, .string vt.v] (by simp [Act.eval, Act.put]) (by simp [Act.eval, Act.put]) hthere (by kernel_rfl) (by simp [Value.oneCell']) ?_
   refine hK.out _ _ hS1 (fun hHeld => ?_)
   clear hK
   try simp only [Act.put, qq]
   refine wpAnyH_done (by kernel_rfl) ?_ _
   go_wp2_with fail
   go_meet
   case rel => exact NX.out
  case rest =>
   clear NX KS x0 x1 x2 g0 g1 g2 g3 g4 hthere S4 X7
   obtain ⟨hW7, hB7, hK7, hL7⟩ := hcut
   have K7 := h! hK7
   have L7 := h! hL7
   have B7 := h! hB7
   obtain ⟨A0, c0, A1, c1, A2, c2, A3, c3, A4, c4, xs, hgb, hx, o0, o1, o2, ht, o3, o4⟩ := hW7
   simp only at hx o0 o1 o2 ht o3 o4
   obtain ⟨ML, hML⟩ : ∃ ML, ML = w.ml.length := ⟨_, rfl⟩
   rw [← hML] at hx o3
   have hlm : ML ≤ 1000 := by rw [hML]; exact LEN.out.1
   have HX := h! hx
   have Q0 := h! o0
   have Q1 := h! o1
   have Q2 := h! o2
   have Q3 := h! o3
   have Q4 := h! o4
   have QT := h! ht
   have QG := h! hgb
   have HML := h! hML
   clear hgb hx o0 o1 o2 ht o3 o4 hK7 hL7 hB7 hML
   have hal : Below wc.heap.size wc (wc.alloc (.cells #[.int .i64 (i : Int), .int .i64 f, .int .u8 2, .int .i64 0, .int .i64 0, .int .i64 b, .int .i64 vt.b, .string vt.v, .int .i64 0, .int .i64 0] 51)) := b!
   have O3a := h! (Q3.out.below hal)
   have HR2 := h! (rdG_box (s := 10) (n := 1) (Box.new wc 51 #[.int .i64 (i : Int), .int .i64 f, .int .u8 2, .int .i64 0, .int .i64 0, .int .i64 b, .int .i64 vt.b, .string vt.v, .int .i64 0, .int .i64 0]) rfl rfl)
   have hbc : base ≤ wc.heap.size := Nat.le_trans HBS.out L7.out.size
   have hbz : base ≤ (wc.alloc (.cells #[.int .i64 (i : Int), .int .i64 f, .int .u8 2, .int .i64 0, .int .i64 0, .int .i64 b, .int .i64 vt.b, .string vt.v, .int .i64 0, .int .i64 0] 51)).heap.size := Nat.le_trans hbc hal.size
   have XA := h! (HX.out.below hal HX.out.lt)
   obtain ⟨⟨g0, g1, g2, g3, g4⟩, _⟩ := HX.out.five
   obtain ⟨⟨y0, y1, y2, y3, y4⟩, _⟩ := XA.out.five
   obtain ⟨b0, b1, b2, b3, b4, b5, b6, b7, b8, b9⟩ := B7.out.ten
   obtain ⟨i0, hin, hz0, hz1, hz2⟩ := info_parts info_mail
   clear hal
   go_upto_region 16 with (fail)
   go_region_law_o (refine step_append_m rfl (.tmp 80) (.tmp 82) 25 rfl base i0 _ 88 Tryz.underlying25 hin hz0 hz1 hz2 rfl (.slice A3 ML c3) ML _ (by simp [Act.eval, Act.put]) O3a.out (some ⟨wc.heap.size, 0, none⟩) 1 1 (by omega) _ (by simp [Act.eval, Act.put]) HR2.out (by intro x hx; simp at hx; rcases hx with rfl | rfl | rfl | rfl | rfl | rfl | rfl | rfl | rfl | rfl <;> rfl) (by unfold maxLen; omega) (by omega) hbz ?_; intro v9 w9 o9 g9 hob9; obtain ⟨A9, c9, rfl, _, _⟩ := own_form o9; obtain ⟨_, z0, z1, z2, z3, z4⟩ := (XA.out.drew.grown g9 (fun e => by obtain ⟨_, cur, hc⟩ := ownM_block O3a.out e.symm; have := XA.out; rw [Box] at this hc; rw [hc] at this; injection this with this; injection this with _ this; exact absurd this (by decide))).five)
   all_goals
    have hbn := back_next (w := ⟨w.ms, w.vs.set i ⟨b, vt.b, vt.v⟩, w.ts, w.ml, w.ch⟩) (m := DC.mk (i : Int) f 2 b vt.b vt.v) HML.out.symm hbc QG.out HX.out Q0.out Q1.out Q2.out QT.out Q3.out Q4.out g9 o9
    have HF9 : Hid (ComPost base g w (DC.mk f (i : Int) 1 b p v) W (.returned (.tuple #[])) (w9.setCell ⟨g, 3, none⟩ (.slice A9 (ML + 1) c9))) := h! ⟨rfl, by rw [HDC.out]; exact hbn.1, K7.out.trans (hbn.2.1.mono fun _ h => tk_of_wm h), below_more L7.out hbn.2.2⟩
    clear o9 g9 hob9 hbn
    clear g0 g1 g2 g3 g4 y0 y1 y2 y3 y4 b0 b1 b2 b3 b4 b5 b6 b7 b8 b9
    go_wp2_with fail
    go_end0
    exact HF9.out
 ·obtain ⟨p4, p1, p2, p3⟩ := VM.prep_old HPI.out HVM.out hgood (by omega)
  rw [p4]
  clear p1 p2 p3 p4 hgood HPI
  have HDC : Hid (DC.comes w (DC.mk f (i : Int) 1 b p v) = ⟨w.ms, w.vs.set i ⟨vt.p, vt.b, vt.v⟩, w.ts, w.ml ++ [DC.mk (i : Int) f 5 b vt.p .empty], w.ch⟩) := h! (by
   have hV : w.vs[i]? = some vt := by rw [HVT.out]; have := DC.getV_at H0.out.vl (n := (i : Int)) (by unfold DC.isNode; omega); rwa [Int.toNat_natCast] at this
   rw [set_same hV]
   unfold DC.comes
   rw [if_pos (show (DC.mk f (i : Int) 1 b p v).k = 1 from rfl)]
   show (if (DC.getV w (i : Int)).p ≤ b then _ else (⟨w.ms, w.vs, w.ts, w.ml ++ [DC.mk (i : Int) f 5 b (DC.getV w (i : Int)).p .empty], w.ch⟩ : DC.Wd)) = _
   rw [← HVT.out, if_neg hle])
  clear hle
  have e70 : ((70 : Int) == 70) = true := rfl
  go_upto_region 13 with (fail)
  clear m0 m1 m2 m3 m4 m5 m6 m7 m8 m9
  obtain ⟨v0, v1, v2, _⟩ := S4.out.1.2.2.2.1.three
  obtain ⟨b0, b1, b2, b3, b4, b5, b6, b7, b8, b9⟩ := S4.out.1.2.2.1.ten
  have z2 := S4.out.1.2.2.1.frozen 2
  have z6 := S4.out.1.2.2.1.frozen 6
  have z7 := S4.out.1.2.2.1.frozen 7
  go_region
  clear b0 b1 b2 b3 b4 b5 b6 b7 b8 b9 z2 z6 z7
  clear v0 v1 v2
  have S5 : Hid (CmX W base g w gm gb gv #[.int .i64 f, .int .i64 (i : Int), .int .u8 1, .int .i64 0, .int .i64 0, .int .i64 b, .int .i64 p, .string v, .int .i64 0, .int .i64 0] #[.int .i64 (i : Int), .int .i64 f, .int .u8 5, .int .i64 0, .int .i64 0, .int .i64 b, .int .i64 vt.p, .string ⟨#[]⟩, .int .i64 0, .int .i64 0] vt (((u4.setCell ⟨gb, 2, none⟩ (.int .u8 5)).setCell ⟨gb, 6, none⟩ (.int .i64 vt.p)).setCell ⟨gb, 7, none⟩ (.string ⟨#[]⟩)).drew) := h! (by
   have := (((S4.out.store 2 (.int .u8 5)).store 6 (.int .i64 vt.p)).store 7 (.string ⟨#[]⟩)).below ((Below.refl _ _).drew) HBS.out
   simpa using this)
  have X8 : Hid (Box (((u4.setCell ⟨gb, 2, none⟩ (.int .u8 5)).setCell ⟨gb, 6, none⟩ (.int .i64 vt.p)).setCell ⟨gb, 7, none⟩ (.string ⟨#[]⟩)).drew g7 59 #[.int .i64 x, .int .i64 y, .string tv]) := h! (by
   have hg : g7 ≠ gb := fun e => by
    have h1 := X7.out
    have h2 := S4.out.1.2.2.1
    rw [e] at h1
    rw [Box] at h1 h2
    rw [h1] at h2
    injection h2 with h2
    injection h2 with _ h2
    exact absurd h2 (by decide)
   exact ((X7.out.far (p := ⟨gb, 2, none⟩) hg _).far (p := ⟨gb, 6, none⟩) hg _).far (p := ⟨gb, 7, none⟩) hg _)
  clear S4 X7
  generalize (((u4.setCell ⟨gb, 2, none⟩ (.int .u8 5)).setCell ⟨gb, 6, none⟩ (.int .i64 vt.p)).setCell ⟨gb, 7, none⟩ (.string ⟨#[]⟩)).drew = u5 at S5 X8 ⊢
  have hv0 := hvs_ne S5.out.1.1 LV6.out X8.out rfl
  have st1 := S5.out.storeV X8.out HG7.out.1 HG7.out.2 hv0 0 (.int .i64 vt.p)
  have st2 := st1.1.storeV (X8.out.stored 0 (.int .i64 vt.p)) HG7.out.1 HG7.out.2 st1.2 1 (.int .i64 vt.b)
  have st3 := st2.1.storeV ((X8.out.stored 0 (.int .i64 vt.p)).stored 1 (.int .i64 vt.b)) HG7.out.1 HG7.out.2 st2.2 2 (.string vt.v)
  have S6 := h! st3.1
  have X7 := h! (X8.out.put3 (.int .i64 vt.p) (.int .i64 vt.b) (.string vt.v))
  obtain ⟨r0, r1, r2, rz0, rz1, rz2⟩ := X8.out.three
  obtain ⟨v0, v1, v2, _⟩ := S5.out.1.2.2.2.1.three
  clear st1 st2 st3 hv0 S5 X8
  go_upto_region 15 with (fail)
  clear r0 r1 r2 rz0 rz1 rz2
  clear v0 v1 v2
  generalize ((u5.setCell ⟨g7, 0, none⟩ (.int .i64 vt.p)).setCell ⟨g7, 1, none⟩ (.int .i64 vt.b)).setCell ⟨g7, 2, none⟩ (.string vt.v) = u6 at S6 X7 ⊢
  obtain ⟨A0, c0, A1, c1, A2, c2, A3, c3, A4, c4, xs, hgb, hx, o0, o1, o2, ht, o3, o4⟩ := S6.out.1.1
  obtain ⟨q3, rfl, hq3, _⟩ := own_some o1 (by have := LV6.out; omega)
  obtain ⟨x0, x1, x2, _⟩ := X7.out.three
  obtain ⟨⟨g0, g1, g2, g3, g4⟩, _⟩ := hx.five
  have hgq := row_ne o1 (by have := LV6.out; omega) X7.out (by omega) rfl
  have hthere := there_own (o := i * 3) (k := 3) o1 (by have := LV6.out; omega)
  have hst := wd_setV (W := u6.drew) (i := i) (v := ⟨vt.p, vt.b, vt.v⟩) hgb hx o0 o1 o2 ht o3 o4 (by have := LV6.out; omega)
  have hnx : WdAt (putAt3 u6.drew q3 (i * 3) (.int .i64 vt.p) (.int .i64 vt.b) (.string vt.v)) base g ⟨w.ms, w.vs.set i ⟨vt.p, vt.b, vt.v⟩, w.ts, w.ml, w.ch⟩ ∧ Box (putAt3 u6.drew q3 (i * 3) (.int .i64 vt.p) (.int .i64 vt.b) (.string vt.v)) gb 51 #[.int .i64 (i : Int), .int .i64 f, .int .u8 5, .int .i64 0, .int .i64 0, .int .i64 b, .int .i64 vt.p, .string ⟨#[]⟩, .int .i64 0, .int .i64 0] ∧ Kept isTk W (putAt3 u6.drew q3 (i * 3) (.int .i64 vt.p) (.int .i64 vt.b) (.string vt.v)) ∧ Below base W (putAt3 u6.drew q3 (i * 3) (.int .i64 vt.p) (.int .i64 vt.b) (.string vt.v)) :=
   ⟨hst.1, hst.2.1.box _ _ _ (by unfold isV; decide) (show Box u6.drew gb _ _ from S6.out.1.2.2.1), (S6.out.1.2.2.2.2.1.more ((Below.refl _ _).drew)).trans (hst.2.1.mono fun _ h => tk_of_v h), below_more (bmore S6.out.1.2.2.2.2.2 ((Below.refl _ _).drew) HBS.out) hst.2.2⟩
  have hks : (putAt3 u6.drew q3 (i * 3) (.int .i64 vt.p) (.int .i64 vt.b) (.string vt.v)).cell? ⟨g, 1, none⟩ = some (.slice (some ⟨q3, 0, none⟩) w.vs.length c1) ∧ (putAt3 u6.drew q3 (i * 3) (.int .i64 vt.p) (.int .i64 vt.b) (.string vt.v)).cell? ⟨g7, 0, none⟩ = some (.int .i64 vt.p) ∧ (putAt3 u6.drew q3 (i * 3) (.int .i64 vt.p) (.int .i64 vt.b) (.string vt.v)).cell? ⟨g7, 1, none⟩ = some (.int .i64 vt.b) ∧ (putAt3 u6.drew q3 (i * 3) (.int .i64 vt.p) (.int .i64 vt.b) (.string vt.v)).cell? ⟨g7, 2, none⟩ = some (.string vt.v) := by
   have hgx := hst.2.1.box _ _ _ (show ¬ isV 28 by unfold isV; decide) (show Box u6.drew g _ _ from hx)
   have hmx := box_at3 (o := i * 3) (show Box u6.drew g7 _ _ from X7.out) hgq (.int .i64 vt.p) (.int .i64 vt.b) (.string vt.v)
   exact ⟨hgx.cell 1, hmx.cell 0, hmx.cell 1, hmx.cell 2⟩
  have NX := h! hnx
  have KS := h! hks
  clear hks hst hnx hgq hgb hx o0 o1 o2 ht o3 o4 hq3
  go_cut [74] (fun _ wx => WdAt wx base g ⟨w.ms, w.vs.set i ⟨vt.p, vt.b, vt.v⟩, w.ts, w.ml, w.ch⟩ ∧ Box wx gb 51 #[.int .i64 (i : Int), .int .i64 f, .int .u8 5, .int .i64 0, .int .i64 0, .int .i64 b, .int .i64 vt.p, .string ⟨#[]⟩, .int .i64 0, .int .i64 0] ∧ Kept isTk W wx ∧ Below base W wx)
  case first =>
   have hS0 : u6.drew.cell? ⟨g, 1, none⟩ = some (.slice (some ⟨q3, 0, none⟩) w.vs.length c1) ∧ u6.drew.cell? ⟨g7, 0, none⟩ = some (.int .i64 vt.p) ∧ u6.drew.cell? ⟨g7, 1, none⟩ = some (.int .i64 vt.b) ∧ u6.drew.cell? ⟨g7, 2, none⟩ = some (.string vt.v) := ⟨g1, x0, x1, x2⟩
   have hS1 := KS.out
   refine wp_region_held_drew (S := fun w' => w'.cell? ⟨g, 1, none⟩ = some (.slice (some ⟨q3, 0, none⟩) w.vs.length c1) ∧ w'.cell? ⟨g7, 0, none⟩ = some (.int .i64 vt.p) ∧ w'.cell? ⟨g7, 1, none⟩ = some (.int .i64 vt.b) ∧ w'.cell? ⟨g7, 2, none⟩ = some (.string vt.v)) (by kernel_rfl) hS0 (fun hHeld => ?_)
   refine qT 0 ?_
   try simp only [Act.put, qq]
   refine qT 1 ?_
   try simp only [Act.put, qq]
   refine qT 2 ?_
   try simp only [Act.put, qq]
   refine qT 3 ?_
   try simp only [Act.put, qq]
   refine qT 4 ?_
   try simp only [Act.put, qq]
   refine qT 5 ?_
   try simp only [Act.put, qq]
   refine qT 6 ?_
   try simp only [Act.put, qq]
   refine qR 7 fun K hK => ?_
   refine step_store_mid rfl 59 _ _ rfl q3 (i * 3) #[.int .i64 vt.p, .int .i64 vt.b, .string vt.v] (by simp [Act.eval, Act.put]) (by simp [Act.eval, Act.put]) hthere (by kernel_rfl) (by simp [Value.oneCell']) ?_
   refine hK.out _ _ hS1 (fun hHeld => ?_)
   clear hK
   try simp only [Act.put, qq]
   refine wpAnyH_done (by kernel_rfl) ?_ _
   go_wp2_with fail
   go_meet
   case rel => exact NX.out
  case rest =>
   clear NX KS x0 x1 x2 g0 g1 g2 g3 g4 hthere S6 X7
   obtain ⟨hW7, hB7, hK7, hL7⟩ := hcut
   have K7 := h! hK7
   have L7 := h! hL7
   have B7 := h! hB7
   obtain ⟨A0, c0, A1, c1, A2, c2, A3, c3, A4, c4, xs, hgb, hx, o0, o1, o2, ht, o3, o4⟩ := hW7
   simp only at hx o0 o1 o2 ht o3 o4
   obtain ⟨ML, hML⟩ : ∃ ML, ML = w.ml.length := ⟨_, rfl⟩
   rw [← hML] at hx o3
   have hlm : ML ≤ 1000 := by rw [hML]; exact LEN.out.1
   have HX := h! hx
   have Q0 := h! o0
   have Q1 := h! o1
   have Q2 := h! o2
   have Q3 := h! o3
   have Q4 := h! o4
   have QT := h! ht
   have QG := h! hgb
   have HML := h! hML
   clear hgb hx o0 o1 o2 ht o3 o4 hK7 hL7 hB7 hML
   have hal : Below wc.heap.size wc (wc.alloc (.cells #[.int .i64 (i : Int), .int .i64 f, .int .u8 5, .int .i64 0, .int .i64 0, .int .i64 b, .int .i64 vt.p, .string ⟨#[]⟩, .int .i64 0, .int .i64 0] 51)) := b!
   have O3a := h! (Q3.out.below hal)
   have HR2 := h! (rdG_box (s := 10) (n := 1) (Box.new wc 51 #[.int .i64 (i : Int), .int .i64 f, .int .u8 5, .int .i64 0, .int .i64 0, .int .i64 b, .int .i64 vt.p, .string ⟨#[]⟩, .int .i64 0, .int .i64 0]) rfl rfl)
   have hbc : base ≤ wc.heap.size := Nat.le_trans HBS.out L7.out.size
   have hbz : base ≤ (wc.alloc (.cells #[.int .i64 (i : Int), .int .i64 f, .int .u8 5, .int .i64 0, .int .i64 0, .int .i64 b, .int .i64 vt.p, .string ⟨#[]⟩, .int .i64 0, .int .i64 0] 51)).heap.size := Nat.le_trans hbc hal.size
   have XA := h! (HX.out.below hal HX.out.lt)
   obtain ⟨⟨g0, g1, g2, g3, g4⟩, _⟩ := HX.out.five
   obtain ⟨⟨y0, y1, y2, y3, y4⟩, _⟩ := XA.out.five
   obtain ⟨b0, b1, b2, b3, b4, b5, b6, b7, b8, b9⟩ := B7.out.ten
   obtain ⟨i0, hin, hz0, hz1, hz2⟩ := info_parts info_mail
   clear hal
   go_upto_region 16 with (fail)
   go_region_law_o (refine step_append_m rfl (.tmp 80) (.tmp 82) 25 rfl base i0 _ 88 Tryz.underlying25 hin hz0 hz1 hz2 rfl (.slice A3 ML c3) ML _ (by simp [Act.eval, Act.put]) O3a.out (some ⟨wc.heap.size, 0, none⟩) 1 1 (by omega) _ (by simp [Act.eval, Act.put]) HR2.out (by intro x hx; simp at hx; rcases hx with rfl | rfl | rfl | rfl | rfl | rfl | rfl | rfl | rfl | rfl <;> rfl) (by unfold maxLen; omega) (by omega) hbz ?_; intro v9 w9 o9 g9 hob9; obtain ⟨A9, c9, rfl, _, _⟩ := own_form o9; obtain ⟨_, z0, z1, z2, z3, z4⟩ := (XA.out.drew.grown g9 (fun e => by obtain ⟨_, cur, hc⟩ := ownM_block O3a.out e.symm; have := XA.out; rw [Box] at this hc; rw [hc] at this; injection this with this; injection this with _ this; exact absurd this (by decide))).five)
   all_goals
    have hbn := back_next (w := ⟨w.ms, w.vs.set i ⟨vt.p, vt.b, vt.v⟩, w.ts, w.ml, w.ch⟩) (m := DC.mk (i : Int) f 5 b vt.p .empty) HML.out.symm hbc QG.out HX.out Q0.out Q1.out Q2.out QT.out Q3.out Q4.out g9 o9
    have HF9 : Hid (ComPost base g w (DC.mk f (i : Int) 1 b p v) W (.returned (.tuple #[])) (w9.setCell ⟨g, 3, none⟩ (.slice A9 (ML + 1) c9))) := h! ⟨rfl, by rw [HDC.out]; exact hbn.1, K7.out.trans (hbn.2.1.mono fun _ h => tk_of_wm h), below_more L7.out hbn.2.2⟩
    clear o9 g9 hob9 hbn
    clear g0 g1 g2 g3 g4 y0 y1 y2 y3 y4 b0 b1 b2 b3 b4 b5 b6 b7 b8 b9
    go_wp2_with fail
    go_end0
    exact HF9.out
end Go.Proofs.YtiiobafcgdelmaaGreat
