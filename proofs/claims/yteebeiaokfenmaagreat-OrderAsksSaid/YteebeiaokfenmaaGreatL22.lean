/- Contracts of functions, L22: each as its theorem says. -/
import Derived.Test.YteebeiaokfenmaaGreatL21
set_option linter.unusedVariables false
set_option linter.unusedSimpArgs false
set_option maxRecDepth 100000
set_option maxHeartbeats 16000000
namespace Go.Proofs.YteebeiaokfenmaaGreat
namespace KP
open Go.RowKit CP TP
open CM (Mg Cm)
open TM (Sp)
open KM (Wt Sk)
def MinIs (A : Option Addr) (l : List Wt) (w : World) (e : Ending) (w' : World) : Prop :=
 ∃ bl o B d x, A = some ⟨bl, o, none⟩ ∧ l[KM.lst l]? = some x ∧ At7 w bl (o + KM.lst l * 7) B d x ∧ e = .returned (vwt B d x) ∧ Below w.heap.size w w'
def MinR (w : World) (bl o p4 p5 : Nat) (l : List Wt) (k : Nat) (wr : World) : Prop :=
 w.heap.size ≤ p4 ∧ w.heap.size ≤ p5 ∧ p4 ≠ p5 ∧ Below w.heap.size w wr ∧ Box wr p4 78 #[.int .i64 0, .slice none 0 0, .int .i64 0, .string ⟨#[]⟩, .string ⟨#[]⟩, .int .i64 0, .bool false] ∧
  ∃ p B d x, l[p]? = some x ∧ Upto l k p ∧ At7 w bl (o + p * 7) B d x ∧ Box wr p5 78 (wcs B d x)
theorem minR_put {w w5 : World} {bl o p4 p5 : Nat} {l : List Wt} {k : Nat} {b0 b1 b2 b3 b4 b5 b6 : Value} {Q : Option Addr} {q : Nat} {y : Wt} (hk : l[k]? = some y) (hu : Upto l (k + 1) k) (hat : At7 w bl (o + k * 7) Q q y)
  (h1 : w.heap.size ≤ p4 ∧ w.heap.size ≤ p5 ∧ p4 ≠ p5) (h2 : Below w.heap.size w w5) (h3 : Box w5 p4 78 #[.int .i64 0, .slice none 0 0, .int .i64 0, .string ⟨#[]⟩, .string ⟨#[]⟩, .int .i64 0, .bool false]) (h4 : Box w5 p5 78 #[b0, b1, b2, b3, b4, b5, b6]) :
  MinR w bl o p4 p5 l (k + 1) (pt7 w5 p5 (.int .i64 y.m.id) (.slice Q y.m.gs.length q) (.int .i64 y.m.tp) (.string y.m.key) (.string y.m.body) (.int .i64 y.t) (.bool y.f)) :=
 ⟨h1.1, h1.2.1, h1.2.2, pt7_below h2 h1.2.1 _ _ _ _ _ _ _, pt7_far h3 h1.2.2 _ _ _ _ _ _ _, k, Q, q, y, hk, hu, hat, pt7_box h4 _ _ _ _ _ _ _⟩
theorem pmin_any (A : Option Addr) (n c : Nat) (l : List Wt) (w : World) (h : KR KW w A n c l) (hne : l ≠ []) : Calls Tryz.prog 107 #[.slice A n c, .func (.func 108) #[] #[]] w (MinIs A l w) := by
 have HL := h! h.len
 have hn63 := h.small
 have hn0 : 0 < n := by
  have := HL.out
  rcases l with _ | ⟨x, r⟩
  ·exact absurd rfl hne
  ·rw [List.length_cons] at this; omega
 obtain ⟨x0, hx0⟩ : ∃ x0, l[0]? = some x0 := ⟨_, List.getElem?_eq_getElem (by have := HL.out; omega)⟩
 obtain ⟨bl, o, B0, d0, rfl, _, hbl, hat0, _⟩ := wts_at h hx0
 have H := h! (show ∀ k y, l[k]? = some y → ∃ Q q, k < n ∧ At7 w bl (o + k * 7) Q q y from fun k y hy => by
  obtain ⟨bl', o', Q, q, e, h1, h2, h3, _⟩ := wts_at h hy
  injection e with e
  injection e with e1 e2
  subst e1 e2
  exact ⟨Q, q, h1, h3⟩)
 have HBL := h! hbl
 have H1 := h! (upto_one hne)
 have HX0 := h! hx0
 have HA0 := h! hat0
 have HRES := h! (fun e w' => show (∃ p B d x, l[p]? = some x ∧ KM.lst l = p ∧ At7 w bl (o + p * 7) B d x ∧ e = .returned (vwt B d x) ∧ Below w.heap.size w w') → MinIs (some ⟨bl, o, none⟩) l w e w' from fun ⟨p, B, d, x, g1, g2, g3, g4, g5⟩ => ⟨bl, o, B, d, x, rfl, by rw [g2]; exact g1, by rw [g2]; exact g3, g4, g5⟩)
 have HB := h! (show Below w.heap.size w (w.alloc (.cells #[.int .i64 0, .slice none 0 0, .int .i64 0, .string ⟨#[]⟩, .string ⟨#[]⟩, .int .i64 0, .bool false] 78)) from (Below.refl _ _).alloc n! _)
 have Y := h! (Box.new w 78 #[.int .i64 0, .slice none 0 0, .int .i64 0, .string ⟨#[]⟩, .string ⟨#[]⟩, .int .i64 0, .bool false])
 have HS := h! (show w.heap.size < (w.alloc (.cells #[.int .i64 0, .slice none 0 0, .int .i64 0, .string ⟨#[]⟩, .string ⟨#[]⟩, .int .i64 0, .bool false] 78)).heap.size by simp)
 clear h hne hx0 hbl hat0
 go_enter Tryz.func107, Tryz.ntmps107
 go_upto_region 1 with (fail)
 generalize w.alloc (.cells #[.int .i64 0, .slice none 0 0, .int .i64 0, .string ⟨#[]⟩, .string ⟨#[]⟩, .int .i64 0, .bool false] 78) = w1 at HB Y HS ⊢
 obtain ⟨p4, hp4⟩ : ∃ p4, w.heap.size = p4 := ⟨_, rfl⟩
 rw [hp4] at Y
 simp only [hp4]
 have HP4 := h! hp4
 clear hp4
 have hn1 : ¬ ((n : Int) < 1) := by omega
 have hn2 : (0 : Int) < (n : Int) := by omega
 obtain ⟨a0, a1, a2, a3, a4, a5, a6⟩ := HA0.out.below HBL.out HB.out
 obtain ⟨⟨xi, xg, xt, xk, xb⟩, xm, xf⟩ := x0
 simp only at a0 a1 a2 a3 a4 a5 a6
 simp only [Nat.zero_mul, Nat.add_zero] at a0 a1 a2 a3 a4 a5 a6
 go_upto_region 4 with (fail)
 have hst : MinR w bl o p4 w1.heap.size l 1 (w1.alloc (.cells #[.int .i64 xi, .slice B0 xg.length d0, .int .i64 xt, .string xk, .string xb, .int .i64 xm, .bool xf] 78)) := by
  have h1 := HS.out
  have h2 := HP4.out
  exact ⟨by omega, by omega, by omega, bmore HB.out ((Below.refl _ _).alloc n! _) n!, Y.out.alloc _, 0, B0, d0, _, HX0.out, H1.out, HA0.out, Box.new _ _ _⟩
 have HT := h! hst
 clear hst a0 a1 a2 a3 a4 a5 a6 HB Y HS H1 HA0 HX0
 generalize w1.alloc (.cells #[.int .i64 xi, .slice B0 xg.length d0, .int .i64 xt, .string xk, .string xb, .int .i64 xm, .bool xf] 78) = w2 at HT ⊢
 generalize w1.heap.size = p5 at HT ⊢
 go_wp2_with fail
 go_loopw [6] (fun i wr => ∃ k : Nat, k ≤ n ∧ i = .int .i64 k ∧ Hid (MinR w bl o p4 p5 l k wr)) (fun i _ => n - (intOf i).toNat)
 case atStart => exact ⟨1, by omega, rfl, HT⟩
 case round =>
  clear HT
  obtain ⟨k, hk, rfl, HT⟩ := hrel
  by_cases hlt : k < n
  ·obtain ⟨y, hy⟩ : ∃ y, l[k]? = some y := ⟨_, List.getElem?_eq_getElem (by have := HL.out; omega)⟩
   have HY := h! hy
   obtain ⟨hp1, hp2, hp3, hb, hx4, p, B, d, x, hx, hu, hat, hx5⟩ := HT.out
   obtain ⟨Q, q, _, haty⟩ := H.out k y hy
   have HPP := h! (And.intro hp1 (And.intro hp2 hp3))
   have HB := h! hb
   have X4 := h! hx4
   have X5 := h! hx5
   have HX := h! hx
   have HU := h! hu
   have HAX := h! hat
   have HAY := h! haty
   obtain ⟨b0, b1, b2, b3, b4, b5, b6⟩ := haty.below HBL.out hb
   obtain ⟨a0, a1, a2, a3, a4, a5, a6⟩ := box_wt hx5
   clear hy hp1 hp2 hp3 hb hx4 hx hu hat hx5 haty HT
   have hk0 : (0 : Int) ≤ (k : Int) := by omega
   have hkn : (k : Int) < (n : Int) := by omega
   obtain ⟨z, hz⟩ : ∃ z, z = ordS (KM.stp y) (KM.stp x) := ⟨_, rfl⟩
   have HZ := h! (show z < 0 ↔ TM.less (KM.stp y) (KM.stp x) = true by rw [hz]; exact ordS_neg)
   have C1 := h! (fun w => pinOrder_any Q B q d y x w)
   rw [← hz] at C1
   clear hz
   have HYE := h! (fun (W : World) (g : Nat) => show pt7 W g (.int .i64 y.m.id) (.slice Q y.m.gs.length q) (.int .i64 y.m.tp) (.string y.m.key) (.string y.m.body) (.int .i64 y.t) (.bool y.f) = pt7 W g (.int .i64 y.m.id) (.slice Q y.m.gs.length q) (.int .i64 y.m.tp) (.string y.m.key) (.string y.m.body) (.int .i64 y.t) (.bool y.f) from rfl)
   obtain ⟨⟨yi, yg, yt, yk, yb⟩, ym, yf⟩ := y
   obtain ⟨⟨xi, xg, xt, xk, xb⟩, xm, xf⟩ := x
   unfold vwt at C1
   unfold wcs at X5
   simp only at a0 a1 a2 a3 a4 a5 a6 b0 b1 b2 b3 b4 b5 b6 C1 X5
   have HSS := h! (fun (w' : World) (h : Below wr.heap.size wr w') => show w'.cell? ⟨bl, o + k * 7, none⟩ = some (.int .i64 yi) ∧ w'.cell? ⟨bl, o + k * 7 + 1, none⟩ = some (.slice Q yg.length q) ∧ w'.cell? ⟨bl, o + k * 7 + 2, none⟩ = some (.int .i64 yt) ∧ w'.cell? ⟨bl, o + k * 7 + 3, none⟩ = some (.string yk) ∧ w'.cell? ⟨bl, o + k * 7 + 4, none⟩ = some (.string yb) ∧ w'.cell? ⟨bl, o + k * 7 + 5, none⟩ = some (.int .i64 ym) ∧ w'.cell? ⟨bl, o + k * 7 + 6, none⟩ = some (.bool yf) ∧ w'.cell? ⟨p5, 0, none⟩ = some (.int .i64 xi) ∧ w'.cell? ⟨p5, 1, none⟩ = some (.slice B xg.length d) ∧ w'.cell? ⟨p5, 2, none⟩ = some (.int .i64 xt) ∧ w'.cell? ⟨p5, 3, none⟩ = some (.string xk) ∧ w'.cell? ⟨p5, 4, none⟩ = some (.string xb) ∧ w'.cell? ⟨p5, 5, none⟩ = some (.int .i64 xm) ∧ w'.cell? ⟨p5, 6, none⟩ = some (.bool xf) from
    ⟨(h.cell (cell_block b0)).trans b0, (h.cell (cell_block b1)).trans b1, (h.cell (cell_block b2)).trans b2, (h.cell (cell_block b3)).trans b3, (h.cell (cell_block b4)).trans b4, (h.cell (cell_block b5)).trans b5, (h.cell (cell_block b6)).trans b6, (h.cell (cell_block a0)).trans a0, (h.cell (cell_block a1)).trans a1, (h.cell (cell_block a2)).trans a2, (h.cell (cell_block a3)).trans a3, (h.cell (cell_block a4)).trans a4, (h.cell (cell_block a5)).trans a5, (h.cell (cell_block a6)).trans a6⟩)
   have bb1 : Below wr.heap.size wr wr.drew := (Below.refl _ _).drew
   go_wp2_with fail
   obtain ⟨ud, hud⟩ : ∃ ud, ud = wr.drew := ⟨_, rfl⟩
   refine wp_region_held_drew (S := fun w' => w'.cell? ⟨bl, o + k * 7, none⟩ = some (.int .i64 yi) ∧ w'.cell? ⟨bl, o + k * 7 + 1, none⟩ = some (.slice Q yg.length q) ∧ w'.cell? ⟨bl, o + k * 7 + 2, none⟩ = some (.int .i64 yt) ∧ w'.cell? ⟨bl, o + k * 7 + 3, none⟩ = some (.string yk) ∧ w'.cell? ⟨bl, o + k * 7 + 4, none⟩ = some (.string yb) ∧ w'.cell? ⟨bl, o + k * 7 + 5, none⟩ = some (.int .i64 ym) ∧ w'.cell? ⟨bl, o + k * 7 + 6, none⟩ = some (.bool yf) ∧ w'.cell? ⟨p5, 0, none⟩ = some (.int .i64 xi) ∧ w'.cell? ⟨p5, 1, none⟩ = some (.slice B xg.length d) ∧ w'.cell? ⟨p5, 2, none⟩ = some (.int .i64 xt) ∧ w'.cell? ⟨p5, 3, none⟩ = some (.string xk) ∧ w'.cell? ⟨p5, 4, none⟩ = some (.string xb) ∧ w'.cell? ⟨p5, 5, none⟩ = some (.int .i64 xm) ∧ w'.cell? ⟨p5, 6, none⟩ = some (.bool xf)) (by kernel_rfl) (HSS.out _ bb1) (fun hHeld => ?_)
   rw [← hud] at bb1 hHeld ⊢
   clear hud
   refine qT 0 ?_; try simp only [Act.put, qq]
   refine qT 1 ?_; try simp only [Act.put, qq]
   refine qT 2 ?_; try simp only [Act.put, qq]
   refine qT 3 ?_; try simp only [Act.put, qq]
   refine qT 4 ?_; try simp only [Act.put, qq]
   refine qT 5 ?_; try simp only [Act.put, qq]
   refine qR 6 fun K hK => ?_
   go_simp
   refine (C1.out _).mono ?_
   rintro e w5 ⟨rfl, hb⟩
   have bb2 := bmore bb1 hb n!
   clear hb
   refine hK.out _ _ (HSS.out _ bb2) (fun hHeld => ?_)
   clear hK
   try simp only [Act.put, qq]
   refine qT 7 ?_; try simp only [Act.put, qq]
   refine wpAnyH_done (by kernel_rfl) ?_ _
   clear hHeld HSS
   have HN := h! (bmore HB.out bb2 n!)
   have X4n := h! (X4.out.below bb2 X4.out.lt)
   have X5n := h! (X5.out.below bb2 X5.out.lt)
   clear C1 b0 b1 b2 b3 b4 b5 b6 a0 a1 a2 a3 a4 a5 a6
   by_cases hz0 : z < 0
   ·have HF := h! (HU.out.turn HX.out HY.out (HZ.out.1 hz0))
    have NX := h! (minR_put HY.out HF.out HAY.out HPP.out HN.out X4n.out X5n.out)
    obtain ⟨b0, b1, b2, b3, b4, b5, b6⟩ := HAY.out.below HBL.out HN.out
    obtain ⟨⟨c0, c1, c2, c3, c4, c5, c6⟩, f0, f1, f2, f3, f4, f5, f6⟩ := box_wtf X5n.out
    simp only at b0 b1 b2 b3 b4 b5 b6
    go_wp2_with fail
    go_roundw
    case rel => exact ⟨k + 1, by omega, by go_num, NX⟩
    case measure => simp [intOf]; omega
   ·have HF := h! (HU.out.keep HX.out HY.out (by
     cases hl : TM.less (KM.stp ⟨⟨yi, yg, yt, yk, yb⟩, ym, yf⟩) (KM.stp ⟨⟨xi, xg, xt, xk, xb⟩, xm, xf⟩)
     ·rfl
     ·exact absurd (HZ.out.2 hl) hz0))
    have NX := h! (show MinR w bl o p4 p5 l (k + 1) w5 from ⟨HPP.out.1, HPP.out.2.1, HPP.out.2.2, HN.out, X4n.out, p, B, d, _, HX.out, HF.out, HAX.out, X5n.out⟩)
    go_wp2_with fail
    go_roundw
    case rel => exact ⟨k + 1, by omega, by go_num, NX⟩
    case measure => simp [intOf]; omega
  ·obtain ⟨hp1, hp2, hp3, hb, hx4, p, B, d, x, hx, hu, hat, hx5⟩ := HT.out
   have HF := h! (hu.all (by have := HL.out; omega))
   have HB := h! hb
   have HX := h! hx
   have HAX := h! hat
   have HQ := h! hp1
   obtain ⟨a0, a1, a2, a3, a4, a5, a6⟩ := box_wt hx5
   obtain ⟨⟨c0, c1, c2, c3, c4, c5, c6⟩, f0, f1, f2, f3, f4, f5, f6⟩ := box_wtf hx4
   have Z4 := h! (pt7_box hx4 (.int .i64 x.m.id) (.slice B x.m.gs.length d) (.int .i64 x.m.tp) (.string x.m.key) (.string x.m.body) (.int .i64 x.t) (.bool x.f))
   have ZB := h! (pt7_below hb hp1 (.int .i64 x.m.id) (.slice B x.m.gs.length d) (.int .i64 x.m.tp) (.string x.m.key) (.string x.m.body) (.int .i64 x.t) (.bool x.f))
   unfold pt7 at Z4 ZB
   clear hp1 hp2 hp3 hb hx4 hx hu hat hx5 HT
   go_wp2_with fail
   obtain ⟨u0, u1, u2, u3, u4, u5, u6⟩ := box_wt Z4.out
   exact bodyPost_ret (v := .agg #[.int .i64 x.m.id, .slice B x.m.gs.length d, .int .i64 x.m.tp, .string x.m.key, .string x.m.body, .int .i64 x.t, .bool x.f]) (by simp [results, Tryz.results107, go_sem, u0, u1, u2, u3, u4, u5, u6]; try rfl) rfl (HRES.out _ _ ⟨p, B, d, x, HX.out, HF.out, HAX.out, rfl, ZB.out⟩)
end KP
namespace CP
open Go.RowKit
open CM (Mg Cm)
def BsIs (w : World) (b : Nat) (v : Value) (l : List UInt8) : Prop := ∃ A c, v = .slice A l.length c ∧ Rd w A l.length (bc l) ∧ l.length ≤ c ∧ c ≤ maxLen ∧ ∀ ad, A = some ad → 0 < l.length → ad.block < b
theorem BsIs.below {w w' : World} {b : Nat} {v : Value} {l : List UInt8} (h : BsIs w b v l) (hb : Below w.heap.size w w') : BsIs w' b v l := by
 obtain ⟨A, c, e, h1, h2⟩ := h
 exact ⟨A, c, e, h1.below hb, h2⟩
theorem BsIs.set {w : World} {b : Nat} {v : Value} {l : List UInt8} (h : BsIs w b v l) {g i : Nat} (hg : b ≤ g) (u : Value) : BsIs (w.setCell ⟨g, i, none⟩ u) b v l := by
 obtain ⟨A, c, e, h1, h2, h3, h4⟩ := h
 refine ⟨A, c, e, ⟨h1.1, fun hn => ?_⟩, h2, h3, h4⟩
 obtain ⟨ad, e2, hB, hc⟩ := h1.2 hn
 have hb := h4 ad e2 hn
 refine ⟨ad, e2, by simpa using hB, fun j x hx => ?_⟩
 exact (World.cell?_of_block (Below.heap_setCell w ⟨g, i, none⟩ u (ad.add j).block (by rw [block_of_add]; show ad.block ≠ g; omega))).trans (hc j x hx)
def ListIs (o : Option (List Nat × List UInt8)) (b : Nat) (w : World) (e : Ending) (w' : World) : Prop :=
 Below w.heap.size w w' ∧ ((o = none ∧ e = .returned (.tuple #[.slice none 0 0, .slice none 0 0, .bool false])) ∨
  ∃ xs r B d v, o = some (xs, r) ∧ e = .returned (.tuple #[.slice B xs.length d, v, .bool true]) ∧ RowGe w' w.heap.size B d (CM.zs xs) ∧ BsIs w' b v r)
theorem zs_len (l : List Nat) : (CM.zs l).length = l.length := by simp [CM.zs]
theorem bs_rest {w : World} {A : Option Addr} {c k : Nat} {l : List UInt8} {b : Nat} (h : Rd w A l.length (bc l)) (hk : k ≤ l.length) (hc : l.length ≤ c) (hm : c ≤ maxLen) (hloc : ∀ ad, A = some ad → 0 < l.length → ad.block < b) : BsIs w b (.slice (Option.map (fun x => x.add k) A) (l.length - k) (c - k)) (l.drop k) :=
 ⟨_, _, by rw [List.length_drop], by rw [List.length_drop, ← bc_drop]; exact h.cutm hk, by rw [List.length_drop]; omega, by omega, fun ad e hn => by
  rw [List.length_drop] at hn
  rcases A with _ | a
  ·cases e
  ·simp at e
   subst e
   rw [block_of_add]
   exact hloc a rfl (by omega)⟩
theorem bs_end {w : World} {A : Option Addr} {k : Nat} {l : List UInt8} {b : Nat} (hk : l.length ≤ k) : BsIs w b (.slice A 0 0) (l.drop k) := by
 refine ⟨A, 0, by rw [List.length_drop, show l.length - k = 0 by omega], ?_, ?_, by unfold maxLen; omega, fun ad _ hn => by rw [List.length_drop] at hn; omega⟩
 ·rw [List.length_drop, List.drop_of_length_le hk, show l.length - k = 0 by omega]
  exact ⟨rfl, fun h => absurd h (Nat.lt_irrefl 0)⟩
 ·rw [List.length_drop]; omega
theorem list12_any (v : Value) (most : Nat) (l : List UInt8) (w : World) (b : Nat) (h : BsIs w b v l) (hmost : most ≤ 4096) :
  Calls Tryz.prog 142 #[v, .int .i64 most] w (ListIs (CM.lst most l) b w) := by
 obtain ⟨A, c, rfl, hr, hc, hm, hloc⟩ := h
 have HLoc := h! hloc
 clear hloc
 have G := h! (refGetInts_any A l.length c most l w hr hc hm hmost)
 have HR := h! hr
 unfold maxLen at hm
 clear hr
 rcases ho : NM.getInts l most with _ | ⟨xs, k⟩
 ·have HO := h! (show CM.lst most l = none by unfold CM.lst; rw [ho])
  rw [ho] at G
  clear ho
  go_enter Tryz.func142, Tryz.ntmps142
  go_wp2_with fail
  refine (G.out).mono ?_
  rintro e w1 ⟨hb, ⟨_, rfl⟩ | ⟨_, _, _, h, _⟩⟩
  ·go_wp2_with fail
   go_ret3
   exact ⟨hb, .inl ⟨HO.out, rfl⟩⟩
  ·cases h
 ·have hk := (NM.ints_getInts l most xs k ho).2.2.1
  have HO := h! (show CM.lst most l = some (xs, l.drop k) by unfold CM.lst; rw [ho])
  rw [ho] at G
  clear ho
  have k0 : (0 : Int) ≤ (k : Int) := by omega
  have k1 : (k : Int) ≤ (l.length : Int) := by omega
  have k2 : (k : Int) ≤ (c : Int) := by omega
  have DR := h! (show (l.drop k).length = l.length - k from List.length_drop)
  go_enter Tryz.func142, Tryz.ntmps142
  go_wp2_with fail
  refine (G.out).mono ?_
  rintro e w1 ⟨hb, ⟨h, _⟩ | ⟨xs', k', u, h, rfl, ho⟩⟩
  ·cases h
  ·injection h with h
   injection h with h1 h2
   subst h1 h2
   obtain ⟨B, d, rfl, hd1, hd2⟩ := own_slice ho
   have HW := h! (rowGe_own (l := CM.zs xs) ho (by rw [zs_len]) (by rw [zs_len]; exact hd1) hd2)
   have HB := h! hb
   clear ho hb hd1 hd2
   by_cases hck : c = k
   ·subst hck
    have HE : Hid (∀ W, BsIs W b (.slice A 0 0) (l.drop c)) := h! (fun W => bs_end (by omega))
    go_wp2_with fail
    go_quiet (fail)
    go_wp2_with fail
    go_ret3
    exact ⟨below_drewN HB.out _, .inr ⟨xs, _, B, d, _, HO.out, rfl, HW.out.below (below_drewN (Below.refl _ _) _), HE.out _⟩⟩
   ·have HE : Hid (∀ W, Below w.heap.size w W → BsIs W b (.slice (Option.map (fun x => x.add k) A) (l.length - k) (c - k)) (l.drop k)) := h! (fun W hb => bs_rest (HR.out.below hb) hk hc (by unfold maxLen; omega) HLoc.out)
    go_wp2_with fail
    go_quiet (fail)
    go_wp2_with fail
    go_ret3
    exact ⟨below_drewN HB.out _, .inr ⟨xs, _, B, d, _, HO.out, rfl, HW.out.below (below_drewN (Below.refl _ _) _), HE.out _ (below_drewN HB.out _)⟩⟩
def nums : Nat → List UInt8 → Option (List Nat × List UInt8)
 | 0, l => some ([], l)
 | m + 1, l => (CM.nm l).bind fun a => (nums m a.2).bind fun r => some (a.1 :: r.1, r.2)
theorem nm_none {l : List UInt8} (h : NM.dec l = none) : CM.nm l = none := by unfold CM.nm RM.num; rw [h]
theorem nm_some {l : List UInt8} {x k : Nat} (h : NM.dec l = some (x, k)) : CM.nm l = some (x, l.drop k) := by
 have := (NM.dec_bound l x k h).1
 unfold CM.nm RM.num
 rw [h]
 simp only
 rw [if_pos this]
def Left (many : Nat) (l : List UInt8) (xs : List Nat) (rest : List UInt8) : Prop := xs.length ≤ many ∧ nums many l = (nums (many - xs.length) rest).bind fun r => some (xs ++ r.1, r.2)
theorem left_start (many : Nat) (l : List UInt8) : Left many l [] l := by
 refine ⟨Nat.zero_le _, ?_⟩
 show nums many l = (nums many l).bind fun r => some (r.1, r.2)
 cases nums many l <;> rfl
theorem left_next {many : Nat} {l rest r2 : List UInt8} {xs : List Nat} {x : Nat} (h : Left many l xs rest) (hl : xs.length < many) (hn : CM.nm rest = some (x, r2)) : Left many l (xs ++ [x]) r2 := by
 refine ⟨by rw [List.length_append]; simp; omega, ?_⟩
 rw [h.2, show many - xs.length = (many - (xs ++ [x]).length) + 1 by rw [List.length_append]; simp; omega]
 show (Option.bind (Option.bind (CM.nm rest) _) _) = _
 rw [hn, Option.bind_some]
 cases nums (many - (xs ++ [x]).length) r2 <;> simp
theorem left_none {many : Nat} {l rest : List UInt8} {xs : List Nat} (h : Left many l xs rest) (hl : xs.length < many) (hn : CM.nm rest = none) : nums many l = none := by
 rw [h.2, show many - xs.length = (many - xs.length - 1) + 1 by omega]
 show (Option.bind (Option.bind (CM.nm rest) _) _) = _
 rw [hn]
 rfl
theorem left_end {many : Nat} {l rest : List UInt8} {xs : List Nat} (h : Left many l xs rest) (hl : xs.length = many) : nums many l = some (xs, rest) := by
 rw [h.2, hl, Nat.sub_self]
 simp [nums]
theorem zs_snoc (xs : List Nat) (x : Nat) : ic (CM.zs (xs ++ [x])) = ic (CM.zs xs) ++ [.int .i64 (x : Int)] := by simp [ic, CM.zs]
theorem info_num12 : (Tryz.prog.info? 3).map (fun i => (i.zero, i.size, i.bytes)) = some (some (.int .i64 0), 1, 8) := by kernel_rfl
def NuRel (w : World) (b : Nat) (many : Nat) (l : List UInt8) (j : Nat) (A : Option Addr) (n c : Nat) (u : Value) (wr : World) : Prop :=
 ∃ xs rest, xs.length = j ∧ Left many l xs rest ∧ Src wr b A n c rest ∧ wr.ownsRow w.heap.size 3 1 u j (ic (CM.zs xs)) ∧ Below w.heap.size w wr
theorem nuRel_next {w wr w2 : World} {many j x : Nat} {l r2 : List UInt8} {xs : List Nat} {A2 : Option Addr} {n2 c2 : Nat} {u v y : Value} {b : Nat} (hbw : b ≤ w.heap.size) (hl : xs.length = j) (hL : Left many l (xs ++ [x]) r2)
  (hS : Src wr b A2 n2 c2 r2) (ho : wr.ownsRow w.heap.size 3 1 u j (ic (CM.zs xs))) (hb : Below w.heap.size w wr)
  (h2 : w2.ownsRow w.heap.size 3 1 v (j + 1) (ic (CM.zs xs) ++ [.int .i64 (x : Int)])) (hg : (wr.alloc (.cells #[y] 3)).grownBy w2 u.ownBlock) : NuRel w b many l (j + 1) A2 n2 c2 v w2 := by
 have hB : Below w.heap.size w w2 := by
  refine (hb.alloc hb.size _).grown hg (by have := hb.size; simp; omega) fun g hgu => ?_
  rcases ho.2 with ⟨rfl, _⟩ | ⟨g', cap, cur, rfl, hb, _⟩
  ·simp [Value.ownBlock] at hgu
  ·simp [Value.ownBlock] at hgu; omega
 have hW : Below w.heap.size wr w2 := by
  refine ((Below.refl w.heap.size wr).alloc hb.size _).grown hg (by have := hb.size; simp; omega) fun g hgu => ?_
  rcases ho.2 with ⟨rfl, _⟩ | ⟨g', cap, cur, rfl, hb, _⟩
  ·simp [Value.ownBlock] at hgu
  ·simp [Value.ownBlock] at hgu; omega
 exact ⟨xs ++ [x], r2, by rw [List.length_append, hl]; rfl, hL, hS.below (hW.mono hbw), by rw [zs_snoc]; exact h2, hB⟩
def RowN (w : World) (b bl : Nat) (xs : List Nat) : Prop := b ≤ bl ∧ bl < w.heap.size ∧ ∀ j u, (ic (CM.zs xs))[j]? = some u → w.cell? ⟨bl, j, none⟩ = some u
theorem RowN.set {w : World} {b bl g i : Nat} {xs : List Nat} (h : RowN w b bl xs) (hg : g < b) (v : Value) : RowN (w.setCell ⟨g, i, none⟩ v) b bl xs :=
 ⟨h.1, by have := h.2.1; simpa using this, fun j u hu => (World.cell?_of_block (Below.heap_setCell w ⟨g, i, none⟩ v bl (by have := h.1; show bl ≠ g; omega))).trans (h.2.2 j u hu)⟩
theorem rowN_own {w : World} {b n : Nat} {v : Value} {xs : List Nat} (h : w.ownsRow b 3 1 v n (ic (CM.zs xs))) (hn : 0 < n) (hx : xs.length = n) : ∃ bl d, v = .slice (some ⟨bl, 0, none⟩) n d ∧ RowN w b bl xs := by
 obtain ⟨A, d, rfl, h1, h2⟩ := own_slice h
 have hr := Rd.of_own h
 rcases h.2 with ⟨hv, _⟩ | ⟨g', cap, cur, hv, hb, _⟩
 ·injection hv with _ hv _
  omega
 ·injection hv with hv _ _
  subst hv
  obtain ⟨ad, e, hB, hc⟩ := hr.2 hn
  injection e with e
  subst e
  refine ⟨g', d, rfl, hb, hB, fun j u hu => ?_⟩
  have := hc j u hu
  have e2 : (⟨g', 0, none⟩ : Addr).add j = ⟨g', j, none⟩ := by unfold Addr.add; split <;> simp_all
  rwa [e2] at this
def NumsIs (o : Option (List Nat × List UInt8)) (b : Nat) (w : World) (e : Ending) (w' : World) : Prop :=
 Below w.heap.size w w' ∧ ((o = none ∧ e = .returned (.tuple #[.slice none 0 0, .slice none 0 0, .bool false])) ∨
  ∃ xs r bl d v, o = some (xs, r) ∧ e = .returned (.tuple #[.slice (some ⟨bl, 0, none⟩) xs.length d, v, .bool true]) ∧ RowN w' w.heap.size bl xs ∧ BsIs w' b v r)
theorem numbers12_any (v : Value) (many : Nat) (l : List UInt8) (w : World) (b : Nat) (hbw : b ≤ w.heap.size) (h : BsIs w b v l) (hmany : many ≤ 4) (hmany1 : 1 ≤ many) :
  Calls Tryz.prog 141 #[v, .int .i64 many] w (NumsIs (nums many l) b w) := by
 obtain ⟨i0, hi, hz0, hz1, hz2⟩ := info_parts info_num12
 obtain ⟨A, c, rfl, hr, hc, hm, hloc⟩ := h
 have HBW := h! hbw
 have HS := h! (show NuRel w b many l 0 A l.length c (.slice none 0 0) w from ⟨[], l, rfl, left_start _ _, ⟨hr, hc, hm, hloc⟩, World.ownsRow_nil _ _ _ _, Below.refl _ _⟩)
 clear hr hc hm hloc hbw
 generalize l.length = n at HS ⊢
 go_enter Tryz.func141, Tryz.ntmps141
 go_wp2_with fail
 go_loopw [0, 7, 8] (fun y u i wr => ∃ (j : Nat) (A : Option Addr) (n c : Nat), j ≤ many ∧ y = .slice A n c ∧ i = .int .i64 j ∧ NuRel w b many l j A n c u wr) (fun _ _ i _ => many - (intOf i).toNat)
 case atStart => exact ⟨0, A, n, c, by omega, rfl, rfl, HS.out⟩
 case round =>
  clear HS
  obtain ⟨j, A, n, c, hj, rfl, rfl, xs, rest, hxs, hL, hS, hown, hB⟩ := hrel
  by_cases hlt : j < many
  ·have hn := hS.2.1
   have hc := hS.2.2.1
   have hln := src_len hS
   unfold maxLen at hc
   have G := h! (refGet_any A n c rest wr hS.1 (by unfold maxLen; omega))
   rcases hd : NM.dec rest with _ | ⟨x, k⟩
   ·rw [hd] at G
    have HF := h! (left_none hL (by omega) (nm_none hd))
    have HB := h! hB
    clear hL hS hown hB hd hln hxs
    go_wp2_with fail
    refine (G.out).mono ?_
    rintro e w1 ⟨rfl, rfl⟩
    unfold getRes
    go_wp2_with fail
    go_ret3
    exact ⟨HB.out, .inl ⟨HF.out, rfl⟩⟩
   ·have hk := (NM.dec_bound rest x k hd).2.2.1
    rw [hln] at hk
    rw [hd] at G
    have HX := h! hxs
    have HL2 := h! (left_next hL (by omega) (nm_some hd))
    have S := h! (hS.cut hk)
    have HO := h! hown
    have hown0 := hown
    have HB := h! hB
    have hbs := hB.size
    clear hL hS hown hB hd hln hxs
    by_cases hck : c = k
    ·rw [if_pos hck] at S
     subst hck
     rw [Nat.sub_self, show n - c = 0 by omega] at S
     go_wp2_with fail
     refine (G.out).mono ?_
     rintro e w1 ⟨rfl, rfl⟩
     unfold getRes
     go_wp2_with (at_builtin; refine wpList_append_rd _ rfl _ _ 31 rfl w.heap.size 3 i0 (.int .i64 0) 8 Tryz.underlying31 hi hz0 hz1 hz2 rfl _ _ _ rfl (hown0.alloc _) (some ⟨wr.heap.size, 0, none⟩) 1 1 [.int .i64 (x : Int)] rfl (rd_new _ _ _) (by intro u hu; simp at hu; subst hu; rfl) (by unfold maxLen; omega) (by omega) (by simp; omega) ?_; intro v2 w2 hown2 hg2 hob2)
     have hnext := nuRel_next HBW.out HX.out HL2.out S.out HO.out HB.out hown2 hg2
     clear hown2 hg2 hob2
     go_roundw
     case rel => exact ⟨j + 1, _, _, _, by omega, rfl, by go_num, hnext⟩
     case measure => simp [intOf]; omega
    ·rw [if_neg hck] at S
     go_wp2_with fail
     refine (G.out).mono ?_
     rintro e w1 ⟨rfl, rfl⟩
     unfold getRes
     go_wp2_with (at_builtin; refine wpList_append_rd _ rfl _ _ 31 rfl w.heap.size 3 i0 (.int .i64 0) 8 Tryz.underlying31 hi hz0 hz1 hz2 rfl _ _ _ rfl (hown0.alloc _) (some ⟨wr.heap.size, 0, none⟩) 1 1 [.int .i64 (x : Int)] rfl (rd_new _ _ _) (by intro u hu; simp at hu; subst hu; rfl) (by unfold maxLen; omega) (by omega) (by simp; omega) ?_; intro v2 w2 hown2 hg2 hob2)
     have hnext := nuRel_next HBW.out HX.out HL2.out S.out HO.out HB.out hown2 hg2
     clear hown2 hg2 hob2
     go_roundw
     case rel => exact ⟨j + 1, _, _, _, by omega, rfl, by go_num, hnext⟩
     case measure => simp [intOf]; omega
  ·obtain rfl : j = many := by omega
   have HF := h! (left_end hL hxs)
   obtain ⟨bl, d, rfl, hrow⟩ := rowN_own hown (by omega) hxs
   have HW := h! hrow
   have HV := h! (show BsIs wr b (.slice A n c) rest from ⟨A, c, by rw [src_len hS], by rw [src_len hS]; exact hS.1, by rw [src_len hS]; exact hS.2.1, hS.2.2.1, by rw [src_len hS]; exact hS.2.2.2⟩)
   have HB := h! hB
   have HX := h! hxs
   clear hL hS hown hB hxs hrow
   go_wp2
   go_ret3
   exact ⟨HB.out, .inr ⟨xs, rest, bl, d, _, HF.out, by rw [HX.out]; rfl, HW.out, HV.out⟩⟩
theorem results_tmp4 {fn : Func} {t u v x : Tmp} (h : fn.results = #[.tmp t, .tmp u, .tmp v, .tmp x]) (tmps : Array Value) (P : Program) (w : World) :
  (results fn tmps).run P w = .ok (.tuple #[tmps.getD t undef, tmps.getD u undef, tmps.getD v undef, tmps.getD x undef]) w := by
 simp [results, h]
def tx2 (l : List UInt8) : Option ((List UInt8 × List UInt8) × List UInt8) := (CM.tx l).bind fun s => (CM.tx s.2).bind fun t => some ((s.1, t.1), t.2)
def TextsIs (o : Option ((List UInt8 × List UInt8) × List UInt8)) (b : Nat) (w : World) (e : Ending) (w' : World) : Prop :=
 Below w.heap.size w w' ∧ ((o = none ∧ e = .returned (.tuple #[.string .empty, .string .empty, .slice none 0 0, .bool false])) ∨
  ∃ s t r v, o = some ((s, t), r) ∧ e = .returned (.tuple #[.string ⟨s.toArray⟩, .string ⟨t.toArray⟩, v, .bool true]) ∧ BsIs w' b v r)
theorem tx_none {l : List UInt8} (h : NM.getText l = none) : CM.tx l = none := by unfold CM.tx RM.txt; rw [h]
theorem tx_some {l s : List UInt8} {k : Nat} (h : NM.getText l = some (s, k)) : CM.tx l = some (s, l.drop k) := by
 have := (NM.text_getText l s k h).1
 unfold CM.tx RM.txt
 rw [h]
 simp only
 rw [if_pos this]
theorem texts12_at (A : Option Addr) (n c : Nat) (l : List UInt8) (w : World) (b : Nat) (hr : Rd w A n (bc l)) (hnc : n ≤ c) (hm : c ≤ maxLen) (hloc : ∀ ad, A = some ad → 0 < n → ad.block < b) :
  Calls Tryz.prog 143 #[.slice A n c] w (TextsIs (tx2 l) b w) := by
 have HLoc := h! hloc
 clear hloc
 have G := h! (refGetText_any A n c l w hr hnc hm)
 have hm0 := h! hm
 have hl : l.length = n := by have := hr.1; rwa [bc_length] at this
 have HL := h! hl
 have HR := h! hr
 clear hr
 unfold maxLen at hm
 rcases ho : NM.getText l with _ | ⟨s, k⟩
 ·have HO := h! (show tx2 l = none by unfold tx2; rw [tx_none ho]; rfl)
  rw [ho] at G
  clear ho hl
  go_enter Tryz.func143, Tryz.ntmps143
  go_wp2_with fail
  refine (G.out).mono ?_
  rintro e w1 ⟨rfl, rfl⟩
  unfold textRes
  go_wp2_with fail
  refine bodyPost_ret (results_tmp4 rfl _ _ _) rfl ?_
  exact ⟨Below.refl _ _, .inl ⟨HO.out, rfl⟩⟩
 have hk := (NM.text_getText l s k ho).2.1
 rw [hl] at hk
 have T1 := h! (tx_some ho)
 rw [ho] at G
 clear ho hl
 have HLk : Hid ((l.drop k).length = n - k) := h! (by rw [List.length_drop, HL.out])
 by_cases hck : c = k
 ·subst hck
  have hd0 : l.drop c = [] := List.drop_of_length_le (by rw [HL.out]; omega)
  have hn : NM.getText (l.drop c) = none := by rw [hd0]; rfl
  have HO := h! (show tx2 l = none by unfold tx2; rw [T1.out, Option.bind_some, tx_none hn]; rfl)
  obtain rfl : n = c := by omega
  have G2 := h! (refGetText_any A 0 0 [] w ⟨rfl, fun h => absurd h (Nat.lt_irrefl 0)⟩ n! (by unfold maxLen; omega))
  clear hd0 hn T1 HLk HL HR hm0
  go_enter Tryz.func143, Tryz.ntmps143
  go_wp2_with fail
  refine (G.out).mono ?_
  rintro e w1 ⟨rfl, rfl⟩
  unfold textRes
  go_wp2_with fail
  refine (G2.out).mono ?_
  rintro e w1 ⟨rfl, rfl⟩
  rw [show NM.getText [] = none from rfl]
  unfold textRes
  go_wp2_with fail
  refine bodyPost_ret (results_tmp4 rfl _ _ _) rfl ?_
  exact ⟨Below.refl _ _, .inl ⟨HO.out, rfl⟩⟩
 have hr2 : Rd w (Option.map (fun x => x.add k) A) (n - k) (bc (l.drop k)) := by rw [← bc_drop]; exact HR.out.cutm hk
 have G2 := h! (refGetText_any (Option.map (fun x => x.add k) A) (n - k) (c - k) (l.drop k) w hr2 (by omega) (by unfold maxLen; omega))
 clear hr2
 rcases ho : NM.getText (l.drop k) with _ | ⟨t, j⟩
 ·have HO := h! (show tx2 l = none by unfold tx2; rw [T1.out, Option.bind_some, tx_none ho]; rfl)
  rw [ho] at G2
  clear ho T1 HLk HL HR hm0
  go_enter Tryz.func143, Tryz.ntmps143
  go_wp2_with fail
  refine (G.out).mono ?_
  rintro e w1 ⟨rfl, rfl⟩
  unfold textRes
  go_wp2_with fail
  refine (G2.out).mono ?_
  rintro e w1 ⟨rfl, rfl⟩
  unfold textRes
  go_wp2_with fail
  refine bodyPost_ret (results_tmp4 rfl _ _ _) rfl ?_
  exact ⟨Below.refl _ _, .inl ⟨HO.out, rfl⟩⟩
 have hj := (NM.text_getText _ t j ho).2.1
 rw [HLk.out] at hj
 have HO := h! (show tx2 l = some ((s, t), l.drop (k + j)) by unfold tx2; rw [T1.out, Option.bind_some, tx_some ho, Option.bind_some, List.drop_drop])
 rw [ho] at G2
 have HE1 : Hid (c = k + j → ∀ W, BsIs W b (.slice A (n - (k + j)) 0) (l.drop (k + j))) := h! (fun hc W => by rw [show n - (k + j) = 0 by omega]; exact bs_end (by rw [HL.out]; omega))
 have HE2 : Hid (∀ W, Below w.heap.size w W → BsIs W b (.slice (Option.map (fun x => x.add (k + j)) A) (n - (k + j)) (c - (k + j))) (l.drop (k + j))) :=
  h! (fun W hb => by have := bs_rest (k := k + j) (by rw [HL.out]; exact HR.out.below hb) (by rw [HL.out]; omega) (by rw [HL.out]; exact hnc) hm0.out (by rw [HL.out]; exact HLoc.out); rwa [HL.out] at this)
 clear ho T1 HLk HL HR hm0
 have j0 : (0 : Int) ≤ (k : Int) + (j : Int) := by omega
 have j1 : (k : Int) + (j : Int) ≤ (n : Int) := by omega
 have j2 : (k : Int) + (j : Int) ≤ (c : Int) := by omega
 have jw : IntKind.i64.wrap ((k : Int) + (j : Int)) = (k : Int) + (j : Int) := IntWalk.i64_in _ ⟨by omega, by omega⟩
 have jn : ((k : Int) + (j : Int)).toNat = k + j := by omega
 replace j0 := h! j0
 replace j1 := h! j1
 replace j2 := h! j2
 replace jw := h! jw
 replace jn := h! jn
 go_enter Tryz.func143, Tryz.ntmps143
 go_wp2_with fail
 refine (G.out).mono ?_
 rintro e w1 ⟨rfl, rfl⟩
 unfold textRes
 go_wp2_with fail
 refine (G2.out).mono ?_
 rintro e w1 ⟨rfl, rfl⟩
 unfold textRes
 replace j0 := j0.out
 replace j1 := j1.out
 replace j2 := j2.out
 replace jw := jw.out
 replace jn := jn.out
 by_cases hcj : c = k + j
 ·have HE := h! (HE1.out hcj)
  clear HE1 HE2
  go_wp2_with fail
  go_quiet (fail)
  go_wp2_with fail
  refine bodyPost_ret (results_tmp4 rfl _ _ _) rfl ?_
  exact ⟨below_drewN (Below.refl _ _) _, .inr ⟨s, t, _, _, HO.out, rfl, HE.out _⟩⟩
 ·go_wp2_with fail
  go_quiet (fail)
  go_wp2_with fail
  refine bodyPost_ret (results_tmp4 rfl _ _ _) rfl ?_
  exact ⟨below_drewN (Below.refl _ _) _, .inr ⟨s, t, _, _, HO.out, rfl, HE2.out _ (below_drewN (Below.refl _ _) _)⟩⟩
theorem texts12_any (v : Value) (l : List UInt8) (w : World) (b : Nat) (h : BsIs w b v l) :
  Calls Tryz.prog 143 #[v] w (TextsIs (tx2 l) b w) := by
 obtain ⟨A, c, rfl, hr, hc, hm, hloc⟩ := h
 exact texts12_at A l.length c l w b hr hc hm hloc
end CP
end Go.Proofs.YteebeiaokfenmaaGreat
