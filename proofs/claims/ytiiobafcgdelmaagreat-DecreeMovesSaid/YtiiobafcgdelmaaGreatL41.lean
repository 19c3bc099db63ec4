/- Contracts of functions of towncrier, layers 5 to 9, and of the document's own ones, part 41; each as its theorem says. -/
import Derived.Test.YtiiobafcgdelmaaGreatL01
import Derived.Test.YtiiobafcgdelmaaGreatL40
set_option linter.unusedVariables false
set_option linter.unusedSimpArgs false
namespace Go.Proofs.YtiiobafcgdelmaaGreat
open Go.RowKit Go.Shelf
def ComPost (base g : Nat) (w : DC.Wd) (m : DC.Ml) (W : World) (e : Ending) (W' : World) : Prop :=
 e = .returned (.tuple #[]) ∧ WdAt W' base g (DC.comes w m) ∧ Kept isTk W W' ∧ Below base W W'
def CmS (W : World) (base g : Nat) (w : DC.Wd) (gm gb gv : Nat) (cm cb : Array Value) (v : DC.Vt) (wx : World) : Prop :=
 WdAt wx base g w ∧ Box wx gm 51 cm ∧ Box wx gb 51 cb ∧ Box wx gv 59 #[.int .i64 v.p, .int .i64 v.b, .string v.v] ∧ Kept isTk W wx ∧ Below base W wx
theorem CmS.below {W wx wy : World} {base g gm gb gv : Nat} {w : DC.Wd} {cm cb : Array Value} {v : DC.Vt} (h : CmS W base g w gm gb gv cm cb v wx) (hb : Below wx.heap.size wx wy) (hbase : base ≤ W.heap.size) : CmS W base g w gm gb gv cm cb v wy :=
 ⟨h.1.below hb, h.2.1.below hb h.2.1.lt, h.2.2.1.below hb h.2.2.1.lt, h.2.2.2.1.below hb h.2.2.2.1.lt, h.2.2.2.2.1.more hb, bmore h.2.2.2.2.2 hb hbase⟩
set_option maxRecDepth 100000 in
set_option maxHeartbeats 8000000 in
theorem comes_2 (base g i : Nat) (w : DC.Wd) (f b p : Int) (v : ByteArray) (W : World) (H : WdAt W base g w) (h0 : DC.May0 w) (hi : i < 6) (hm : DC.MayM (DC.mk f (i : Int) 2 b p v)) (hbase : base ≤ W.heap.size) (hl : w.ml.length ≤ 1000) (hch : w.ch.length ≤ 1000) (hp63 : p ≤ 9223372036854775807) :
  Calls Tryz.prog 28 #[.pointer (some ⟨g, 0, none⟩), .agg #[.int .i64 f, .int .i64 (i : Int), .int .u8 2, .int .i64 0, .int .i64 0, .int .i64 b, .int .i64 p, .string v, .int .i64 0, .int .i64 0]] W (ComPost base g w (DC.mk f (i : Int) 2 b p v) W) := by
 have hn : DC.isNode (i : Int) := by unfold DC.isNode; omega
 have LT6 := h! h0.tl
 have LV6 := h! h0.vl
 have hVv : w.vs[i]? = some (DC.getV w (i : Int)) := by have := DC.getV_at h0.vl hn; rwa [Int.toNat_natCast] at this
 have hvm := h0.vote hn
 have H0 := h! h0
 have HM := h! hm
 have HBS := h! hbase
 have HWD := h! H
 have LEN := h! (And.intro hl hch)
 have hi0 : (0 : Int) ≤ (i : Int) := by omega
 have hi2 : (i : Int) < (w.vs.length : Int) := by have := LV6.out; omega
 obtain ⟨A0, c0, A1, c1, A2, c2, A3, c3, A4, c4, xs, hgb, hx, o0, o1, o2, ht, o3, o4⟩ := H
 obtain ⟨q1, rfl, hq1, v0, v1, v2⟩ := vote_cells o1 hVv rfl
 have hq1lt : q1 < W.heap.size := by obtain ⟨_, cur, hc⟩ := own_block o1 (show (Value.slice (some ⟨q1, 0, none⟩) w.vs.length c1).ownBlock = some q1 from rfl); exact hc.lt
 have hglt := hx.lt
 obtain ⟨vt, hvt⟩ : ∃ vt, vt = DC.getV w (i : Int) := ⟨_, rfl⟩
 rw [← hvt] at v0 v1 v2 hvm
 have HVT := h! hvt
 have HVM := h! hvm
 obtain ⟨W2, hW2⟩ : ∃ W2, W2 = (W.alloc (.cells #[.int .i64 f, .int .i64 (i : Int), .int .u8 2, .int .i64 0, .int .i64 0, .int .i64 b, .int .i64 p, .string v, .int .i64 0, .int .i64 0] 51)).alloc (.cells #[.int .i64 (i : Int), .int .i64 f, .int .u8 0, .int .i64 0, .int .i64 0, .int .i64 b, .int .i64 0, .string ⟨#[]⟩, .int .i64 0, .int .i64 0] 51) := ⟨_, rfl⟩
 have hb2 : Below W.heap.size W W2 := by rw [hW2]; exact ((Below.refl _ _).alloc n! _).alloc (by simp) _
 have hb3 : Below W.heap.size W (W2.alloc (.cells #[.int .i64 vt.p, .int .i64 vt.b, .string vt.v] 59)) := hb2.alloc hb2.size _
 have hs2 : W2.heap.size = W.heap.size + 1 + 1 := by rw [hW2]; simp
 have S1 : Hid (CmS W base g w W.heap.size (W.heap.size + 1) (W.heap.size + 1 + 1) #[.int .i64 f, .int .i64 (i : Int), .int .u8 2, .int .i64 0, .int .i64 0, .int .i64 b, .int .i64 p, .string v, .int .i64 0, .int .i64 0] #[.int .i64 (i : Int), .int .i64 f, .int .u8 0, .int .i64 0, .int .i64 0, .int .i64 b, .int .i64 0, .string ⟨#[]⟩, .int .i64 0, .int .i64 0] vt (W2.alloc (.cells #[.int .i64 vt.p, .int .i64 vt.b, .string vt.v] 59))) := h! ⟨HWD.out.below hb3, (show Box W2 W.heap.size _ _ by rw [hW2]; exact (Box.new _ _ _).alloc _).alloc _, (show Box W2 (W.heap.size + 1) _ _ by rw [hW2]; exact Box.new_at _ (by simp)).alloc _, Box.new_at _ hs2, Kept.of_below hb3, hb3.mono HBS.out⟩
 have w0 := (hb2.cell (p := ⟨q1, i * 3, none⟩) hq1lt).trans v0
 have w1 := (hb2.cell (p := ⟨q1, i * 3 + 1, none⟩) hq1lt).trans v1
 have w2 := (hb2.cell (p := ⟨q1, i * 3 + 2, none⟩) hq1lt).trans v2
 obtain ⟨⟨g0, g1, g2, g3, g4⟩, _⟩ := (hx.below hb2 hglt).five
 have HS2 := h! hs2
 clear h0 hn hm hvm hVv hbase hl hch hq1 hgb hx o0 o1 o2 ht o3 o4 hvt v0 v1 v2 hb2 hb3 hq1lt hglt hs2
 have mixed : Tryz.prog.follows Departure.mixedOrders = true := by kernel_rfl
 go_enter Tryz.func28, Tryz.ntmps28
 go_upto_region 3 with (fail)
 rw [← hW2]
 clear hW2
 go_upto_region 4 with (fail)
 clear w0 w1 w2 g0 g1 g2 g3 g4
 rw [HS2.out]
 generalize W2.alloc (.cells #[.int .i64 vt.p, .int .i64 vt.b, .string vt.v] 59) = u1 at S1 ⊢
 have hne : W.heap.size + 1 ≠ W.heap.size + 1 + 1 := by omega
 have hne2 : W.heap.size + 1 + 1 ≠ W.heap.size + 1 := by omega
 generalize W.heap.size + 1 + 1 = gv at S1 hne hne2 ⊢
 generalize W.heap.size + 1 = gb at S1 hne hne2 ⊢
 generalize W.heap.size = gm at S1 ⊢
 obtain ⟨m0, m1, m2, m3, m4, m5, m6, m7, m8, m9⟩ := S1.out.2.1.ten
 obtain ⟨ll, lc⟩ := LEN.out
 have HTK := h! (takes_any base g i w b ⟨f, p, v⟩ u1 S1.out.1 H0.out hi (by
  obtain ⟨_, _, _, _, _, _, h7, h8⟩ := HM.out
  exact ⟨by show _ ≤ p; have : (0 : Int) ≤ p := h7; omega, hp63, by have : v.size ≤ 1024 := h8; show v.size ≤ _; unfold maxLen; omega⟩) (Nat.le_trans HBS.out S1.out.2.2.2.2.2.size) (by omega) (by omega))
 have HFIN : Hid (∀ wy, TakPost base g w (i : Int) b ⟨f, p, v⟩ u1 (.returned (.tuple #[])) wy → ComPost base g w (DC.mk f (i : Int) 2 b p v) W (.returned (.tuple #[])) wy) := h! fun wy h => ⟨rfl, by
  have h2 := h.2.1
  unfold DC.comes
  rw [if_neg (show ¬ (DC.mk f (i : Int) 2 b p v).k = 1 from (by decide : ¬ (2 : Int) = 1)), if_neg (show ¬ (DC.mk f (i : Int) 2 b p v).k = 3 from (by decide : ¬ (2 : Int) = 3)), if_pos (show (DC.mk f (i : Int) 2 b p v).k = 2 from rfl)]
  exact h2, S1.out.2.2.2.2.1.trans h.2.2.1, below_more S1.out.2.2.2.2.2 h.2.2.2⟩
 clear ll lc
 go_wp2_with fail
 refine HTK.out.mono ?_
 rintro e wz hz
 obtain ⟨rfl, hz2⟩ := hz
 have HZ := h! (HFIN.out wz ⟨rfl, hz2⟩)
 clear hz2 m0 m1 m2 m3 m4 m5 m6 m7 m8 m9 HTK HFIN
 go_wp2_with fail
 go_end0
 exact HZ.out
set_option maxRecDepth 100000 in
set_option maxHeartbeats 8000000 in
theorem comes_5 (base g i : Nat) (w : DC.Wd) (f b p : Int) (v : ByteArray) (W : World) (H : WdAt W base g w) (h0 : DC.May0 w) (hi : i < 6) (hm : DC.MayM (DC.mk f (i : Int) 5 b p v)) (hbase : base ≤ W.heap.size) (hl : w.ml.length ≤ 1000) (hch : w.ch.length ≤ 1000) :
  Calls Tryz.prog 28 #[.pointer (some ⟨g, 0, none⟩), .agg #[.int .i64 f, .int .i64 (i : Int), .int .u8 5, .int .i64 0, .int .i64 0, .int .i64 b, .int .i64 p, .string v, .int .i64 0, .int .i64 0]] W (ComPost base g w (DC.mk f (i : Int) 5 b p v) W) := by
 have hn : DC.isNode (i : Int) := by unfold DC.isNode; omega
 have LT6 := h! h0.tl
 have LV6 := h! h0.vl
 have hVv : w.vs[i]? = some (DC.getV w (i : Int)) := by have := DC.getV_at h0.vl hn; rwa [Int.toNat_natCast] at this
 have hvm := h0.vote hn
 have H0 := h! h0
 have HM := h! hm
 have HBS := h! hbase
 have HWD := h! H
 have LEN := h! (And.intro hl hch)
 have hi0 : (0 : Int) ≤ (i : Int) := by omega
 have hi2 : (i : Int) < (w.vs.length : Int) := by have := LV6.out; omega
 obtain ⟨A0, c0, A1, c1, A2, c2, A3, c3, A4, c4, xs, hgb, hx, o0, o1, o2, ht, o3, o4⟩ := H
 obtain ⟨q1, rfl, hq1, v0, v1, v2⟩ := vote_cells o1 hVv rfl
 have hq1lt : q1 < W.heap.size := by obtain ⟨_, cur, hc⟩ := own_block o1 (show (Value.slice (some ⟨q1, 0, none⟩) w.vs.length c1).ownBlock = some q1 from rfl); exact hc.lt
 have hglt := hx.lt
 obtain ⟨vt, hvt⟩ : ∃ vt, vt = DC.getV w (i : Int) := ⟨_, rfl⟩
 rw [← hvt] at v0 v1 v2 hvm
 have HVT := h! hvt
 have HVM := h! hvm
 obtain ⟨W2, hW2⟩ : ∃ W2, W2 = (W.alloc (.cells #[.int .i64 f, .int .i64 (i : Int), .int .u8 5, .int .i64 0, .int .i64 0, .int .i64 b, .int .i64 p, .string v, .int .i64 0, .int .i64 0] 51)).alloc (.cells #[.int .i64 (i : Int), .int .i64 f, .int .u8 0, .int .i64 0, .int .i64 0, .int .i64 b, .int .i64 0, .string ⟨#[]⟩, .int .i64 0, .int .i64 0] 51) := ⟨_, rfl⟩
 have hb2 : Below W.heap.size W W2 := by rw [hW2]; exact ((Below.refl _ _).alloc n! _).alloc (by simp) _
 have hb3 : Below W.heap.size W (W2.alloc (.cells #[.int .i64 vt.p, .int .i64 vt.b, .string vt.v] 59)) := hb2.alloc hb2.size _
 have hs2 : W2.heap.size = W.heap.size + 1 + 1 := by rw [hW2]; simp
 have S1 : Hid (CmS W base g w W.heap.size (W.heap.size + 1) (W.heap.size + 1 + 1) #[.int .i64 f, .int .i64 (i : Int), .int .u8 5, .int .i64 0, .int .i64 0, .int .i64 b, .int .i64 p, .string v, .int .i64 0, .int .i64 0] #[.int .i64 (i : Int), .int .i64 f, .int .u8 0, .int .i64 0, .int .i64 0, .int .i64 b, .int .i64 0, .string ⟨#[]⟩, .int .i64 0, .int .i64 0] vt (W2.alloc (.cells #[.int .i64 vt.p, .int .i64 vt.b, .string vt.v] 59))) := h! ⟨HWD.out.below hb3, (show Box W2 W.heap.size _ _ by rw [hW2]; exact (Box.new _ _ _).alloc _).alloc _, (show Box W2 (W.heap.size + 1) _ _ by rw [hW2]; exact Box.new_at _ (by simp)).alloc _, Box.new_at _ hs2, Kept.of_below hb3, hb3.mono HBS.out⟩
 have w0 := (hb2.cell (p := ⟨q1, i * 3, none⟩) hq1lt).trans v0
 have w1 := (hb2.cell (p := ⟨q1, i * 3 + 1, none⟩) hq1lt).trans v1
 have w2 := (hb2.cell (p := ⟨q1, i * 3 + 2, none⟩) hq1lt).trans v2
 obtain ⟨⟨g0, g1, g2, g3, g4⟩, _⟩ := (hx.below hb2 hglt).five
 have HS2 := h! hs2
 clear h0 hn hm hvm hVv hbase hl hch hq1 hgb hx o0 o1 o2 ht o3 o4 hvt v0 v1 v2 hb2 hb3 hq1lt hglt hs2
 have mixed : Tryz.prog.follows Departure.mixedOrders = true := by kernel_rfl
 go_enter Tryz.func28, Tryz.ntmps28
 go_upto_region 3 with (fail)
 rw [← hW2]
 clear hW2
 go_upto_region 4 with (fail)
 clear w0 w1 w2 g0 g1 g2 g3 g4
 rw [HS2.out]
 generalize W2.alloc (.cells #[.int .i64 vt.p, .int .i64 vt.b, .string vt.v] 59) = u1 at S1 ⊢
 have hne : W.heap.size + 1 ≠ W.heap.size + 1 + 1 := by omega
 have hne2 : W.heap.size + 1 + 1 ≠ W.heap.size + 1 := by omega
 generalize W.heap.size + 1 + 1 = gv at S1 hne hne2 ⊢
 generalize W.heap.size + 1 = gb at S1 hne hne2 ⊢
 generalize W.heap.size = gm at S1 ⊢
 obtain ⟨m0, m1, m2, m3, m4, m5, m6, m7, m8, m9⟩ := S1.out.2.1.ten
 have HZ : Hid (ComPost base g w (DC.mk f (i : Int) 5 b p v) W (.returned (.tuple #[])) u1) := h! ⟨rfl, by
  unfold DC.comes
  rw [if_neg (show ¬ (DC.mk f (i : Int) 5 b p v).k = 1 from (by decide : ¬ (5 : Int) = 1)), if_neg (show ¬ (DC.mk f (i : Int) 5 b p v).k = 3 from (by decide : ¬ (5 : Int) = 3)), if_neg (show ¬ (DC.mk f (i : Int) 5 b p v).k = 2 from (by decide : ¬ (5 : Int) = 2)), if_neg (show ¬ (DC.mk f (i : Int) 5 b p v).k = 4 from (by decide : ¬ (5 : Int) = 4))]
  exact S1.out.1, S1.out.2.2.2.2.1, S1.out.2.2.2.2.2⟩
 go_wp2_with fail
 go_end0
 exact HZ.out
end Go.Proofs.YtiiobafcgdelmaaGreat
