/- Contracts of functions of towncrier, layers 5 to 9, and of the document's own ones, part 14; each as its theorem says. -/
import Derived.Test.YtiiobafcgdelmaaGreatL01
import Derived.Test.YtiiobafcgdelmaaGreatL13
set_option linter.unusedVariables false
set_option linter.unusedSimpArgs false
namespace Go.Proofs.YtiiobafcgdelmaaGreat.PD
open Go.RowKit Go.Shelf
def WdAt (W : World) (base g : Nat) (w : DC.Wd) : Prop :=
 ∃ A0 c0 A1 c1 A2 c2 A3 c3 A4 c4 xs, base ≤ g ∧ Box W g 62 #[.slice A0 w.ms.length c0, .slice A1 w.vs.length c1, .slice A2 w.ts.length c2, .slice A3 w.ml.length c3, .slice A4 w.ch.length c4] ∧
  W.ownsRow base 3 1 (.slice A0 w.ms.length c0) w.ms.length (ic w.ms) ∧
  W.ownsRow base 59 3 (.slice A1 w.vs.length c1) w.vs.length (flat vcell w.vs) ∧
  W.ownsRow base 57 7 (.slice A2 w.ts.length c2) w.ts.length xs ∧ TsRow W base xs w.ts ∧
  W.ownsRow base 51 10 (.slice A3 w.ml.length c3) w.ml.length (flat mcell w.ml) ∧
  W.ownsRow base 53 2 (.slice A4 w.ch.length c4) w.ch.length (flat ccell w.ch)
theorem WdAt.below {W W' : World} {base g : Nat} {w : DC.Wd} (h : WdAt W base g w) (hb : Below W.heap.size W W') : WdAt W' base g w := by
 obtain ⟨A0, c0, A1, c1, A2, c2, A3, c3, A4, c4, xs, hg, hx, o0, o1, o2, ht, o3, o4⟩ := h
 exact ⟨A0, c0, A1, c1, A2, c2, A3, c3, A4, c4, xs, hg, hx.below hb hx.lt, own_below3 o0 hb, own_below3 o1 hb, own_below3 o2 hb, ht.kept (S := fun _ => False) (Kept.of_below hb) id id, own_below3 o3 hb, own_below3 o4 hb⟩
theorem WdAt.lt {W : World} {base g : Nat} {w : DC.Wd} (h : WdAt W base g w) : base ≤ g ∧ g < W.heap.size := by
 obtain ⟨A0, c0, A1, c1, A2, c2, A3, c3, A4, c4, xs, hg, hx, _⟩ := h
 exact ⟨hg, hx.lt⟩
def isWM (e : TypeId) : Prop := e = 62 ∨ e = 51
def isWC (e : TypeId) : Prop := e = 62 ∨ e = 53
def OthRel (W : World) (base g : Nat) (w : DC.Wd) (m : DC.Ml) (j : Nat) (wr : World) : Prop :=
 (∃ tt, Box wr W.heap.size 51 (mcell { m with t := tt }).toArray) ∧ WdAt wr base g ⟨w.ms, w.vs, w.ts, w.ml ++ DC.others (w.ms.take j) m, w.ch⟩ ∧
 (∀ v, wr.cell? ⟨g, 3, none⟩ = some v → v.ownBlock ≠ some W.heap.size) ∧ Kept isWM W wr ∧ Below base W wr
theorem oth_next {W u w9 : World} {base g j ML : Nat} {w : DC.Wd} {m : DC.Ml} {l : List DC.Ml} {y : Int} {A0 A1 A2 A3 A4 A9 : Option Addr} {c0 c1 c2 c3 c4 c9 : Nat} {xs : List Value}
  (hy : w.ms[j]? = some y) (hyf : y ≠ m.f) (hl : l = w.ml ++ DC.others (w.ms.take j) m) (hML : l.length = ML) (hbase : base ≤ W.heap.size) (hg : base ≤ g) (hgN : g < W.heap.size)
  (hN : Box u W.heap.size 51 (mcell { m with t := y }).toArray) (hx : Box u g 62 #[.slice A0 w.ms.length c0, .slice A1 w.vs.length c1, .slice A2 w.ts.length c2, .slice A3 ML c3, .slice A4 w.ch.length c4])
  (o0 : u.ownsRow base 3 1 (.slice A0 w.ms.length c0) w.ms.length (ic w.ms)) (o1 : u.ownsRow base 59 3 (.slice A1 w.vs.length c1) w.vs.length (flat vcell w.vs))
  (o2 : u.ownsRow base 57 7 (.slice A2 w.ts.length c2) w.ts.length xs) (ht : TsRow u base xs w.ts) (o3 : u.ownsRow base 51 10 (.slice A3 ML c3) ML (flat mcell l)) (o4 : u.ownsRow base 53 2 (.slice A4 w.ch.length c4) w.ch.length (flat ccell w.ch))
  (hap : (Value.slice A3 ML c3).ownBlock ≠ some W.heap.size) (hk : Kept isWM W u) (hb : Below base W u)
  (hg9 : (u.drew.alloc (.cells (mcell { m with t := y }).toArray 51)).grownBy w9 (Value.slice A3 ML c3).ownBlock) (o9 : w9.ownsRow base 51 10 (.slice A9 (ML + 1) c9) (ML + 1) (flat mcell l ++ mcell { m with t := y }))
  (hob : (Value.slice A9 (ML + 1) c9).ownBlock = (Value.slice A3 ML c3).ownBlock ∨ (Value.slice A9 (ML + 1) c9).ownBlock = some (u.drew.alloc (.cells (mcell { m with t := y }).toArray 51)).heap.size) :
  OthRel W base g w m (j + 1) (w9.setCell ⟨g, 3, none⟩ (.slice A9 (ML + 1) c9)) := by
 have hal : Below u.heap.size u (u.drew.alloc (.cells (mcell { m with t := y }).toArray 51)) := (Below.refl _ _).drew.alloc n! _
 have k1 : Kept isWM u (u.drew.alloc (.cells (mcell { m with t := y }).toArray 51)) := Kept.of_below hal
 have q3 := own_below3 o3 hal
 have k2 : Kept isWM (u.drew.alloc (.cells (mcell { m with t := y }).toArray 51)) w9 := Kept.grown q3 (.inr rfl) hg9
 have hx9 : Box w9 g 62 _ := (hx.below hal hx.lt).grown hg9 (fun e => by
  obtain ⟨_, cur, hc⟩ := own_block q3 e.symm
  have := hx.below hal hx.lt
  rw [Box] at this hc
  rw [hc] at this
  injection this with this
  injection this with _ this
  exact absurd this (by decide))
 have k3 : Kept isWM w9 (w9.setCell ⟨g, 3, none⟩ (.slice A9 (ML + 1) c9)) := Kept.set hx9 (.inl rfl) _
 have kk := (k1.trans k2).trans k3
 have hNs := hN.lt
 have hN9 : Box w9 W.heap.size 51 _ := (hN.below hal hN.lt).grown hg9 (fun e => hap e.symm)
 have nI : ¬ isWM 3 := by unfold isWM; decide
 have nP : ¬ isWM 86 := by unfold isWM; decide
 have nV : ¬ isWM 59 := by unfold isWM; decide
 have nA : ¬ isWM 57 := by unfold isWM; decide
 have nC : ¬ isWM 53 := by unfold isWM; decide
 have hlen : (w.ml ++ DC.others (w.ms.take (j + 1)) m).length = ML + 1 := by
  rw [others_snoc _ _ hy, if_neg hyf, ← List.append_assoc, ← hl, List.length_append, hML]
  rfl
 have hrow : flat mcell (w.ml ++ DC.others (w.ms.take (j + 1)) m) = flat mcell l ++ mcell { m with t := y } := by
  rw [others_snoc _ _ hy, if_neg hyf, ← List.append_assoc, ← hl, flat_append, flat_one]
 refine ⟨⟨y, hN9.far (p := ⟨g, 3, none⟩) (by show W.heap.size ≠ g; omega) _⟩, ⟨A0, c0, A1, c1, A2, c2, A9, c9, A4, c4, xs, hg, ?_, kk.own o0 nI, kk.own o1 nV, kk.own o2 nA, ht.kept kk nI nP, ?_, kk.own o4 nC⟩, fun v hv => ?_, hk.trans kk, ?_⟩
 ·show Box _ g 62 #[_, _, _, .slice A9 (w.ml ++ DC.others (w.ms.take (j + 1)) m).length c9, _]
  rw [hlen]
  simpa using hx9.stored 3 (.slice A9 (ML + 1) c9)
 ·show World.ownsRow _ base _ 10 (.slice A9 (w.ml ++ DC.others (w.ms.take (j + 1)) m).length c9) (w.ml ++ DC.others (w.ms.take (j + 1)) m).length (flat mcell (w.ml ++ DC.others (w.ms.take (j + 1)) m))
  rw [hlen, hrow]
  exact own_setother o9 hx9 (by decide) _
 ·have hs := (hx9.stored 3 (.slice A9 (ML + 1) c9)).cell 3
  simp at hs
  rw [hs] at hv
  injection hv with hv
  subst hv
  rcases hob with e | e
  ·rw [e]; exact hap
  ·rw [e]
   intro e2
   injection e2 with e2
   have hsz := hal.size
   have h1 : (u.drew.alloc (.cells (mcell { m with t := y }).toArray 51)).heap.size = u.heap.size + 1 := by simp
   omega
 ·have h1 : Below base W w9 := (bmore hb hal hbase).grown hg9 (Nat.le_trans hbase (Nat.le_trans hb.size hal.size)) (fun q hq => (own_block q3 hq).1)
  exact h1.setCell (p := ⟨g, 3, none⟩) hg _
def OthPost (base g : Nat) (w : DC.Wd) (m : DC.Ml) (W : World) (e : Ending) (W' : World) : Prop :=
 e = .returned (.tuple #[]) ∧ WdAt W' base g ⟨w.ms, w.vs, w.ts, w.ml ++ DC.others w.ms m, w.ch⟩ ∧ Kept isWM W W' ∧ Below base W W'
set_option maxRecDepth 100000 in
set_option maxHeartbeats 4000000 in
theorem sendAll_any (base g : Nat) (w : DC.Wd) (m : DC.Ml) (W : World) (H : WdAt W base g w) (hbase : base ≤ W.heap.size) (hn : w.ms.length ≤ 2000) (hl : w.ml.length ≤ 2000) :
  Calls Tryz.prog 78 #[.pointer (some ⟨g, 0, none⟩), .agg #[.int .i64 m.f, .int .i64 m.t, .int .u8 m.k, .int .i64 m.g, .int .i64 m.s, .int .i64 m.b, .int .i64 m.p, .string m.v, .int .i64 m.i, .int .i64 m.m]] W (OthPost base g w m W) := by
 obtain ⟨i0, hi, hz0, hz1, hz2⟩ := info_parts info_mail
 have hlt := H.lt
 have hgg := h! hlt.1
 have hgN := h! hlt.2
 have hst : OthRel W base g w m 0 (W.alloc (.cells #[.int .i64 m.f, .int .i64 m.t, .int .u8 m.k, .int .i64 m.g, .int .i64 m.s, .int .i64 m.b, .int .i64 m.p, .string m.v, .int .i64 m.i, .int .i64 m.m] 51)) := by
  have hal : Below W.heap.size W (W.alloc (.cells #[.int .i64 m.f, .int .i64 m.t, .int .u8 m.k, .int .i64 m.g, .int .i64 m.s, .int .i64 m.b, .int .i64 m.p, .string m.v, .int .i64 m.i, .int .i64 m.m] 51)) := b!
  refine ⟨⟨m.t, Box.new _ _ _⟩, ?_, fun v hv => ?_, Kept.of_below hal, (Below.refl _ _).alloc hbase _⟩
  ·have := H.below hal
   simpa [DC.others] using this
  ·rw [hal.cell (show (⟨g, 3, none⟩ : Addr).block < W.heap.size from hlt.2)] at hv
   obtain ⟨A0, c0, A1, c1, A2, c2, A3, c3, A4, c4, xs, _, hx, _, _, _, _, o3, _⟩ := H
   have := hx.five.1.2.2.2.1
   rw [this] at hv
   injection hv with hv
   subst hv
   intro e
   obtain ⟨_, cur, hc⟩ := own_block o3 e
   have := hc.lt
   omega
 have HS := h! hst
 have HBS := h! hbase
 have HLM : Hid (∀ j, (w.ml ++ DC.others (w.ms.take j) m).length ≤ 4000) := h! fun j => by
  have := DC.others_len (w.ms.take j) m
  rw [List.length_append]
  have h2 : (w.ms.take j).length ≤ w.ms.length := by rw [List.length_take]; omega
  omega
 obtain ⟨B0, d0, B1, d1, B2, d2, B3, d3, B4, d4, ys, _, hxi, oi, _⟩ := H
 have OI := h! oi
 have nI0 : ¬ isWM 3 := by unfold isWM; decide
 obtain ⟨⟨z0, _⟩, _⟩ := (hxi.below ((Below.refl W.heap.size W).alloc n! (.cells #[.int .i64 m.f, .int .i64 m.t, .int .u8 m.k, .int .i64 m.g, .int .i64 m.s, .int .i64 m.b, .int .i64 m.p, .string m.v, .int .i64 m.i, .int .i64 m.m] 51)) hxi.lt).five
 clear hst hlt hbase hl hxi oi
 go_enter Tryz.func78, Tryz.ntmps78
 go_wp2_with fail
 generalize W.alloc (.cells #[.int .i64 m.f, .int .i64 m.t, .int .u8 m.k, .int .i64 m.g, .int .i64 m.s, .int .i64 m.b, .int .i64 m.p, .string m.v, .int .i64 m.i, .int .i64 m.m] 51) = W1 at HS ⊢
 go_loopw [11] (fun i wr => ∃ j : Nat, j ≤ w.ms.length ∧ i = .int .i64 j ∧ Hid (OthRel W base g w m j wr)) (fun i _ => w.ms.length - (intOf i).toNat)
 case atStart => exact ⟨0, by omega, rfl, HS⟩
 case round =>
  clear HS z0
  obtain ⟨j, hj, rfl, HT⟩ := hrel
  obtain ⟨⟨tt, hN⟩, ⟨A0, c0, A1, c1, A2, c2, A3, c3, A4, c4, xs, _, hx, o0, o1, o2, ht, o3, o4⟩, hap, hk, hbl⟩ := HT.out
  simp only at hx o0 o1 o2 ht o3 o4
  obtain ⟨ML, hML⟩ : ∃ ML, ML = (w.ml ++ DC.others (w.ms.take j) m).length := ⟨_, rfl⟩
  rw [← hML] at hx o3
  have hap3 := hap _ hx.five.1.2.2.2.1
  have hlm := HLM.out j
  rw [← hML] at hlm
  have HX := h! hx
  have HN := h! hN
  have H0 := h! o0
  have H1 := h! o1
  have H2 := h! o2
  have H3 := h! o3
  have H4 := h! o4
  have HTS := h! ht
  have HAP := h! hap3
  have HK := h! hk
  have HB := h! hbl
  have HML := h! hML
  clear hx hN o0 o1 o2 o3 o4 ht hap hap3 hk hbl hML
  obtain ⟨⟨g0, g1, g2, g3, g4⟩, _⟩ := HX.out.five
  by_cases hlt : j < w.ms.length
  ·obtain ⟨ad, u1, e0, _, hu1, hc1⟩ := (Rd.of_own (HK.out.own OI.out nI0)).at_ hlt
   subst e0
   obtain ⟨y, hy, rfl⟩ := ic_at hu1
   have i0' : (0 : Int) ≤ (j : Int) := by omega
   have i1' : (j : Int) < (w.ms.length : Int) := by omega
   have HY := h! hy
   obtain ⟨n0, n1, n2, n3, n4, n5, n6, n7, n8, n9⟩ := (show Box wr W.heap.size 51 #[.int .i64 m.f, .int .i64 tt, .int .u8 m.k, .int .i64 m.g, .int .i64 m.s, .int .i64 m.b, .int .i64 m.p, .string m.v, .int .i64 m.i, .int .i64 m.m] from HN.out).ten
   clear hu1 hy
   by_cases hyf : y = m.f
   ·have e1 : (y != m.f) = false := by simpa using hyf
    have HF := h! hyf
    clear hyf
    go_wp2_with fail
    go_roundw
    case rel => exact ⟨j + 1, by omega, by go_num, h! (by
     obtain ⟨r1, r2, r3, r4, r5⟩ := HT.out
     refine ⟨r1, ?_, r3, r4, r5⟩
     rw [others_snoc _ _ HY.out, if_pos HF.out, List.append_nil]
     exact r2)⟩
    case measure => simp [intOf]; omega
   ·have e1 : (y != m.f) = true := by simpa using hyf
    have HF := h! hyf
    clear hyf
    have nf1 := HN.out.frozen 1
    go_upto_region 6 with (fail)
    clear g0 g1 g2 g3 g4 n0 n1 n2 n3 n4 n5 n6 n7 n8 n9 nf1 hc1
    have hbd : Below wr.heap.size wr wr := Below.refl _ _
    have hNd : Box wr W.heap.size 51 (mcell { (⟨m.f, m.t, m.k, m.g, m.s, m.b, m.p, m.v, m.i, m.m⟩ : DC.Ml) with t := tt }).toArray := HN.out
    have ks : Kept isWM wr (wr.setCell ⟨W.heap.size, 1, none⟩ (.int .i64 y)) := Kept.set hNd (.inr rfl) _
    have NU := h! (show Box (wr.setCell ⟨W.heap.size, 1, none⟩ (.int .i64 y)) W.heap.size 51 (mcell { m with t := y }).toArray by simpa [mcell] using hNd.stored 1 (.int .i64 y))
    have XU := h! ((show Box wr g 62 _ from HX.out).far (p := ⟨W.heap.size, 1, none⟩) (by have := hgN.out; show g ≠ W.heap.size; omega) (.int .i64 y))
    have nI : ¬ isWM 3 := by unfold isWM; decide
    have nP : ¬ isWM 86 := by unfold isWM; decide
    have U0 := h! (ks.own (own_below3 H0.out hbd) nI)
    have U1 := h! (ks.own (own_below3 H1.out hbd) (by unfold isWM; decide))
    have U2 := h! (ks.own (own_below3 H2.out hbd) (by unfold isWM; decide))
    have U4 := h! (ks.own (own_below3 H4.out hbd) (by unfold isWM; decide))
    have U3 := h! (ownsRow_setCell_other (own_below3 H3.out hbd) (a := ⟨W.heap.size, 1, none⟩) HAP.out (.int .i64 y))
    have UT := h! ((HTS.out.kept (S := isWM) (Kept.of_below hbd) nI nP).kept ks nI nP)
    have UK := h! ((HK.out.more hbd).trans ks)
    have UB := h! ((bmore HB.out hbd HBS.out).setCell (p := ⟨W.heap.size, 1, none⟩) HBS.out (.int .i64 y))
    clear hNd ks hbd HX HN H0 H1 H2 H3 H4 HTS HK HB HT
    generalize wr.setCell ⟨W.heap.size, 1, none⟩ (.int .i64 y) = u at NU XU U0 U1 U2 U3 U4 UT UK UB ⊢
    have hroom := UB.out.size
    have hal : Below u.heap.size u (u.alloc (.cells #[.int .i64 m.f, .int .i64 y, .int .u8 m.k, .int .i64 m.g, .int .i64 m.s, .int .i64 m.b, .int .i64 m.p, .string m.v, .int .i64 m.i, .int .i64 m.m] 51)) := b!
    have O3a := h! (own_below3 U3.out hal)
    have HR2 := h! (rdG_box (s := 10) (n := 1) (Box.new u 51 #[.int .i64 m.f, .int .i64 y, .int .u8 m.k, .int .i64 m.g, .int .i64 m.s, .int .i64 m.b, .int .i64 m.p, .string m.v, .int .i64 m.i, .int .i64 m.m]) rfl rfl)
    have hbz : base ≤ (u.alloc (.cells #[.int .i64 m.f, .int .i64 y, .int .u8 m.k, .int .i64 m.g, .int .i64 m.s, .int .i64 m.b, .int .i64 m.p, .string m.v, .int .i64 m.i, .int .i64 m.m] 51)).heap.size := by have := HBS.out; have := UB.out.size; have := hal.size; omega
    have mixed : Tryz.prog.follows Departure.mixedOrders = true := by kernel_rfl
    have XA := h! (XU.out.below hal XU.out.lt)
    obtain ⟨⟨g0, g1, g2, g3, g4⟩, _⟩ := XU.out.five
    obtain ⟨⟨y0, y1, y2, y3, y4⟩, _⟩ := XA.out.five
    obtain ⟨n0, n1, n2, n3, n4, n5, n6, n7, n8, n9⟩ := (show Box u W.heap.size 51 #[.int .i64 m.f, .int .i64 y, .int .u8 m.k, .int .i64 m.g, .int .i64 m.s, .int .i64 m.b, .int .i64 m.p, .string m.v, .int .i64 m.i, .int .i64 m.m] from NU.out).ten
    go_region_law_o (refine step_append_h rfl (.tmp 25) (.tmp 27) 25 rfl base 51 i0 _ 10 88 Tryz.underlying25 hi hz0 hz1 hz2 rfl (by omega) (.slice A3 ML c3) ML _ (by simp [Act.eval, Act.put]) O3a.out (some ⟨u.heap.size, 0, none⟩) 1 1 _ (by simp [Act.eval, Act.put]) HR2.out (by intro x hx; simp at hx; rcases hx with rfl | rfl | rfl | rfl | rfl | rfl | rfl | rfl | rfl | rfl <;> rfl) (by unfold maxLen; omega) (by omega) hbz ?_; intro v9 w9 o9 g9 hob9; obtain ⟨A9, c9, rfl, _, _⟩ := own_form o9; obtain ⟨_, z0, z1, z2, z3, z4⟩ := (XA.out.drew.grown g9 (fun e => by obtain ⟨_, cur, hc⟩ := own_block O3a.out e.symm; have := XA.out; rw [Box] at this hc; rw [hc] at this; injection this with this; injection this with _ this; exact absurd this (by decide))).five)
    all_goals
     have HF9 := h! (oth_next HY.out HF.out rfl HML.out.symm HBS.out hgg.out hgN.out NU.out XU.out U0.out U1.out U2.out UT.out U3.out U4.out HAP.out UK.out UB.out g9 o9 hob9)
     clear o9 g9 hob9
     clear g0 g1 g2 g3 g4 y0 y1 y2 y3 y4 n0 n1 n2 n3 n4 n5 n6 n7 n8 n9
     go_wp2_with fail
     go_roundw
     case rel => exact ⟨j + 1, by omega, by go_num, HF9⟩
     case measure => simp [intOf]; omega
  ·obtain rfl : w.ms.length = j := by omega
   have HF : Hid (OthPost base g w m W (.returned (.tuple #[])) wr) := h! (by
    obtain ⟨_, r2, _, r4, r5⟩ := HT.out
    rw [List.take_length] at r2
    exact ⟨rfl, r2, r4, r5⟩)
   go_wp2_with fail
   go_end0
   exact HF.out
end Go.Proofs.YtiiobafcgdelmaaGreat.PD
namespace Go.Proofs.YtiiobafcgdelmaaGreat.PD
open Go.RowKit
def isTk (e : TypeId) : Prop := e = 62 ∨ e = 51 ∨ e = 53 ∨ e = 57 ∨ e = 59
section
variable {W : World} {base g i q : Nat} {w : DC.Wd} {A0 A1 A2 A3 A4 : Option Addr} {c0 c1 c2 c3 c4 : Nat} {xs : List Value}
theorem wd_setT {t : AM.At} {x0 x1 x2 x3 x4 x5 x6 : Value} (hg : base ≤ g) (hx : Box W g 62 #[.slice A0 w.ms.length c0, .slice A1 w.vs.length c1, .slice (some ⟨q, 0, none⟩) w.ts.length c2, .slice A3 w.ml.length c3, .slice A4 w.ch.length c4])
  (o0 : W.ownsRow base 3 1 (.slice A0 w.ms.length c0) w.ms.length (ic w.ms)) (o1 : W.ownsRow base 59 3 (.slice A1 w.vs.length c1) w.vs.length (flat vcell w.vs))
  (o2 : W.ownsRow base 57 7 (.slice (some ⟨q, 0, none⟩) w.ts.length c2) w.ts.length xs) (ht : TsRow W base xs w.ts) (o3 : W.ownsRow base 51 10 (.slice A3 w.ml.length c3) w.ml.length (flat mcell w.ml)) (o4 : W.ownsRow base 53 2 (.slice A4 w.ch.length c4) w.ch.length (flat ccell w.ch))
  (hi : i < w.ts.length) (ho : AtOwn W base (.agg #[x0, x1, x2, x3, x4, x5, x6]) t) :
  WdAt (putAt7 W q (i * 7) x0 x1 x2 x3 x4 x5 x6) base g ⟨w.ms, w.vs, w.ts.set i t, w.ml, w.ch⟩ ∧ Kept isA W (putAt7 W q (i * 7) x0 x1 x2 x3 x4 x5 x6) ∧ Below base W (putAt7 W q (i * 7) x0 x1 x2 x3 x4 x5 x6) := by
 have hqb := (own_block o2 (show (Value.slice (some ⟨q, 0, none⟩) w.ts.length c2).ownBlock = some q from rfl)).1
 obtain ⟨o2', kk⟩ := own_at7 (o := i * 7) (S := isA) o2 (by omega) rfl x0 x1 x2 x3 x4 x5 x6
 have nI : ¬ isA 3 := by unfold isA; decide
 have nP : ¬ isA 86 := by unfold isA; decide
 have ht' := (ht.set hi ho).kept kk nI nP
 refine ⟨⟨A0, c0, A1, c1, some ⟨q, 0, none⟩, c2, A3, c3, A4, c4, _, hg, ?_, kk.own o0 nI, kk.own o1 (by unfold isA; decide), ?_, ht', kk.own o3 (by unfold isA; decide), kk.own o4 (by unfold isA; decide)⟩, kk, below_at7 ⟨rfl, rfl, rfl, Nat.le_refl _, fun _ _ => rfl⟩ hqb ..⟩
 ·have := kk.box _ _ _ (by unfold isA; decide) hx
  simpa using this
 ·show World.ownsRow _ base _ 7 (.slice (some ⟨q, 0, none⟩) (w.ts.set i t).length c2) (w.ts.set i t).length _
  rw [List.length_set]
  exact o2'
theorem wd_setV {v : DC.Vt} (hg : base ≤ g) (hx : Box W g 62 #[.slice A0 w.ms.length c0, .slice (some ⟨q, 0, none⟩) w.vs.length c1, .slice A2 w.ts.length c2, .slice A3 w.ml.length c3, .slice A4 w.ch.length c4])
  (o0 : W.ownsRow base 3 1 (.slice A0 w.ms.length c0) w.ms.length (ic w.ms)) (o1 : W.ownsRow base 59 3 (.slice (some ⟨q, 0, none⟩) w.vs.length c1) w.vs.length (flat vcell w.vs))
  (o2 : W.ownsRow base 57 7 (.slice A2 w.ts.length c2) w.ts.length xs) (ht : TsRow W base xs w.ts) (o3 : W.ownsRow base 51 10 (.slice A3 w.ml.length c3) w.ml.length (flat mcell w.ml)) (o4 : W.ownsRow base 53 2 (.slice A4 w.ch.length c4) w.ch.length (flat ccell w.ch))
  (hi : i < w.vs.length) :
  WdAt (putAt3 W q (i * 3) (.int .i64 v.p) (.int .i64 v.b) (.string v.v)) base g ⟨w.ms, w.vs.set i v, w.ts, w.ml, w.ch⟩ ∧ Kept isV W (putAt3 W q (i * 3) (.int .i64 v.p) (.int .i64 v.b) (.string v.v)) ∧ Below base W (putAt3 W q (i * 3) (.int .i64 v.p) (.int .i64 v.b) (.string v.v)) := by
 have hqb := (own_block o1 (show (Value.slice (some ⟨q, 0, none⟩) w.vs.length c1).ownBlock = some q from rfl)).1
 obtain ⟨o1', kk⟩ := own_at3 (o := i * 3) (S := isV) o1 (by omega) rfl (.int .i64 v.p) (.int .i64 v.b) (.string v.v)
 have nI : ¬ isV 3 := by unfold isV; decide
 have nP : ¬ isV 86 := by unfold isV; decide
 refine ⟨⟨A0, c0, some ⟨q, 0, none⟩, c1, A2, c2, A3, c3, A4, c4, xs, hg, ?_, kk.own o0 nI, ?_, kk.own o2 (by unfold isV; decide), ht.kept kk nI nP, kk.own o3 (by unfold isV; decide), kk.own o4 (by unfold isV; decide)⟩, kk, below_at3 ⟨rfl, rfl, rfl, Nat.le_refl _, fun _ _ => rfl⟩ hqb ..⟩
 ·have := kk.box _ _ _ (by unfold isV; decide) hx
  simpa using this
 ·show World.ownsRow _ base _ 3 (.slice (some ⟨q, 0, none⟩) (w.vs.set i v).length c1) (w.vs.set i v).length (flat vcell (w.vs.set i v))
  rw [List.length_set, flat_set (s := 3) (fun _ _ => rfl) rfl hi]
  exact o1'
end
theorem tk_of_wm {e : TypeId} (h : isWM e) : isTk e := by rcases h with h | h; (· exact .inl h); (· exact .inr (.inl h))
theorem tk_of_wc {e : TypeId} (h : isWC e) : isTk e := by rcases h with h | h; (· exact .inl h); (· exact .inr (.inr (.inl h)))
theorem tk_of_a {e : TypeId} (h : isA e) : isTk e := .inr (.inr (.inr (.inl h)))
theorem tk_of_v {e : TypeId} (h : isV e) : isTk e := .inr (.inr (.inr (.inr h)))
def TkS (W : World) (base g : Nat) (w : DC.Wd) (gM : Nat) (a : AM.At) (A : Option Addr) (c : Nat) (D : Option Addr) (q : Nat) (C : Option Addr) (f : Nat) (wx : World) : Prop :=
 WdAt wx base g w ∧ TryVar wx base gM a A c D q C f ∧ Kept isTk W wx ∧ Below base W wx
section
variable {W wx wy : World} {base g : Nat} {w : DC.Wd} {gM : Nat} {a : AM.At} {A D C : Option Addr} {c q f : Nat}
theorem TkS.below (h : TkS W base g w gM a A c D q C f wx) (hb : Below wx.heap.size wx wy) (hbase : base ≤ W.heap.size) : TkS W base g w gM a A c D q C f wy :=
 ⟨h.1.below hb, ⟨h.2.1.1.below hb h.2.1.1.lt, h.2.1.2.below hb⟩, h.2.2.1.more hb, bmore h.2.2.2 hb hbase⟩
end
theorem WdAt.storeV {U : World} {base g i : Nat} {w : DC.Wd} (h : WdAt U base g w) (hl : w.vs.length = 6) (hi : i < 6) :
  ∃ q1 c1, base ≤ q1 ∧ q1 < U.heap.size ∧ U.cell? ⟨g, 1, none⟩ = some (.slice (some ⟨q1, 0, none⟩) w.vs.length c1) ∧ U.there q1 (i * 3) 3 ∧
   (∀ v : DC.Vt, WdAt (putAt3 U q1 (i * 3) (.int .i64 v.p) (.int .i64 v.b) (.string v.v)) base g ⟨w.ms, w.vs.set i v, w.ts, w.ml, w.ch⟩ ∧ Kept isV U (putAt3 U q1 (i * 3) (.int .i64 v.p) (.int .i64 v.b) (.string v.v)) ∧
    Below base U (putAt3 U q1 (i * 3) (.int .i64 v.p) (.int .i64 v.b) (.string v.v)) ∧ (putAt3 U q1 (i * 3) (.int .i64 v.p) (.int .i64 v.b) (.string v.v)).cell? ⟨g, 1, none⟩ = some (.slice (some ⟨q1, 0, none⟩) w.vs.length c1)) ∧
   (∀ gv (cs : Array Value), Box U gv 59 cs → cs.size = 3 → ∀ x y z, Box (putAt3 U q1 (i * 3) x y z) gv 59 cs) := by
 obtain ⟨A0, c0, A1, c1, A2, c2, A3, c3, A4, c4, xs, hgb, hx, o0, o1, o2, ht, o3, o4⟩ := h
 obtain ⟨q3, rfl, hq3, _⟩ := own_some o1 (by omega)
 have hlt : q3 < U.heap.size := by obtain ⟨_, cur, hc⟩ := own_block o1 (show (Value.slice (some ⟨q3, 0, none⟩) w.vs.length c1).ownBlock = some q3 from rfl); exact hc.lt
 refine ⟨q3, c1, hq3, hlt, hx.five.1.2.1, there_own (o := i * 3) (k := 3) o1 (by omega), fun v => ?_, fun gv cs hb hc x y z => box_at3 hb (row_ne o1 (by omega) hb (by omega) hc) x y z⟩
 have hst := wd_setV (i := i) (v := v) hgb hx o0 o1 o2 ht o3 o4 (by omega)
 exact ⟨hst.1, hst.2.1, hst.2.2, (hst.2.1.box _ _ _ (by unfold isV; decide) hx).five.1.2.1⟩
theorem WdAt.storeT {U : World} {base g i : Nat} {w : DC.Wd} (h : WdAt U base g w) (hl : w.ts.length = 6) (hi : i < 6) :
  ∃ q2 c2, base ≤ q2 ∧ q2 < U.heap.size ∧ U.cell? ⟨g, 2, none⟩ = some (.slice (some ⟨q2, 0, none⟩) w.ts.length c2) ∧ U.there q2 (i * 7) 7 ∧
   (∀ (a : AM.At) (x0 x1 x2 x3 x4 x5 x6 : Value), AtOwn U base (.agg #[x0, x1, x2, x3, x4, x5, x6]) a → WdAt (putAt7 U q2 (i * 7) x0 x1 x2 x3 x4 x5 x6) base g ⟨w.ms, w.vs, w.ts.set i a, w.ml, w.ch⟩ ∧ Kept isA U (putAt7 U q2 (i * 7) x0 x1 x2 x3 x4 x5 x6) ∧
    Below base U (putAt7 U q2 (i * 7) x0 x1 x2 x3 x4 x5 x6) ∧ (putAt7 U q2 (i * 7) x0 x1 x2 x3 x4 x5 x6).cell? ⟨g, 2, none⟩ = some (.slice (some ⟨q2, 0, none⟩) w.ts.length c2)) ∧
   (∀ gM (cs : Array Value), Box U gM 57 cs → cs.size = 7 → ∀ x0 x1 x2 x3 x4 x5 x6, Box (putAt7 U q2 (i * 7) x0 x1 x2 x3 x4 x5 x6) gM 57 cs) := by
 obtain ⟨A0, c0, A1, c1, A2, c2, A3, c3, A4, c4, xs, hgb, hx, o0, o1, o2, ht, o3, o4⟩ := h
 obtain ⟨q3, rfl, hq3, _⟩ := own_some o2 (by omega)
 have hlt : q3 < U.heap.size := by obtain ⟨_, cur, hc⟩ := own_block o2 (show (Value.slice (some ⟨q3, 0, none⟩) w.ts.length c2).ownBlock = some q3 from rfl); exact hc.lt
 refine ⟨q3, c2, hq3, hlt, hx.five.1.2.2.1, there_own (o := i * 7) (k := 7) o2 (by omega), fun a x0 x1 x2 x3 x4 x5 x6 ho => ?_, fun gv cs hb hc x0 x1 x2 x3 x4 x5 x6 => box_at7 hb (row_ne o2 (by omega) hb (by omega) hc) x0 x1 x2 x3 x4 x5 x6⟩
 have hst := wd_setT (i := i) (t := a) hgb hx o0 o1 o2 ht o3 o4 (by omega) ho
 exact ⟨hst.1, hst.2.1, hst.2.2, (hst.2.1.box _ _ _ (by unfold isA; decide) hx).five.1.2.2.1⟩
theorem WdAt.try_ {U : World} {base g i : Nat} {w : DC.Wd} {t : AM.At} (h : WdAt U base g w) (hi : w.ts[i]? = some t) :
  ∃ q c x y z, AtOwn U base (.agg #[.int .u8 t.ph, .int .i64 t.ba, x, .string t.wi, .string t.va, y, z]) t ∧ ∀ w', Below U.heap.size U w' →
   (w'.cell? ⟨g, 2, none⟩ = some (.slice (some ⟨q, 0, none⟩) w.ts.length c) ∧ w'.cell? ⟨q, i * 7, none⟩ = some (.int .u8 t.ph) ∧ w'.cell? ⟨q, i * 7 + 1, none⟩ = some (.int .i64 t.ba) ∧ w'.cell? ⟨q, i * 7 + 2, none⟩ = some x ∧ w'.cell? ⟨q, i * 7 + 3, none⟩ = some (.string t.wi) ∧
    w'.cell? ⟨q, i * 7 + 4, none⟩ = some (.string t.va) ∧ w'.cell? ⟨q, i * 7 + 5, none⟩ = some y ∧ w'.cell? ⟨q, i * 7 + 6, none⟩ = some z) := by
 obtain ⟨A0, c0, A1, c1, A2, c2, A3, c3, A4, c4, xs, hgb, hx, o0, o1, o2, ht, o3, o4⟩ := h
 obtain ⟨q, x, y, z, rfl, hqb, hown, t0, t1, t2, t3, t4, t5, t6⟩ := try_cells o2 ht hi rfl
 have hblt : q < U.heap.size := by obtain ⟨_, cur, hc⟩ := own_block o2 (show (Value.slice (some ⟨q, 0, none⟩) w.ts.length c2).ownBlock = some q from rfl); exact hc.lt
 exact ⟨q, c2, x, y, z, hown, fun w' hb => ⟨(hx.below hb hx.lt).cell 2, (hb.cell hblt).trans t0, (hb.cell hblt).trans t1, (hb.cell hblt).trans t2, (hb.cell hblt).trans t3, (hb.cell hblt).trans t4, (hb.cell hblt).trans t5, (hb.cell hblt).trans t6⟩⟩
theorem WdAt.vote {U : World} {base g i : Nat} {w : DC.Wd} {v : DC.Vt} (h : WdAt U base g w) (hi : w.vs[i]? = some v) :
  ∃ q c, ∀ w', Below U.heap.size U w' → (w'.cell? ⟨g, 1, none⟩ = some (.slice (some ⟨q, 0, none⟩) w.vs.length c) ∧ w'.cell? ⟨q, i * 3, none⟩ = some (.int .i64 v.p) ∧ w'.cell? ⟨q, i * 3 + 1, none⟩ = some (.int .i64 v.b) ∧ w'.cell? ⟨q, i * 3 + 2, none⟩ = some (.string v.v)) := by
 obtain ⟨A0, c0, A1, c1, A2, c2, A3, c3, A4, c4, xs, hgb, hx, o0, o1, o2, ht, o3, o4⟩ := h
 obtain ⟨q1, rfl, hq1, v0, v1, v2⟩ := vote_cells o1 hi rfl
 have hblt : q1 < U.heap.size := by obtain ⟨_, cur, hc⟩ := own_block o1 (show (Value.slice (some ⟨q1, 0, none⟩) w.vs.length c1).ownBlock = some q1 from rfl); exact hc.lt
 exact ⟨q1, c1, fun w' hb => ⟨(hx.below hb hx.lt).cell 1, (hb.cell hblt).trans v0, (hb.cell hblt).trans v1, (hb.cell hblt).trans v2⟩⟩
theorem WdAt.mems {U : World} {base g : Nat} {w : DC.Wd} (h : WdAt U base g w) :
  ∃ A c, U.cell? ⟨g, 0, none⟩ = some (.slice A w.ms.length c) ∧ Rd U A w.ms.length (ic w.ms) := by
 obtain ⟨A0, c0, A1, c1, A2, c2, A3, c3, A4, c4, xs, hgb, hx, o0, o1, o2, ht, o3, o4⟩ := h
 exact ⟨A0, c0, hx.five.1.1, Rd.of_own o0⟩
theorem WdAt.addC {u w9 : World} {base g ML : Nat} {w : DC.Wd} {c : DC.Ch} {A0 A1 A2 A3 A4 A9 : Option Addr} {c0 c1 c2 c3 c4 c9 : Nat} {xs : List Value}
  (hML : w.ch.length = ML) (hbase : base ≤ u.heap.size) (hg : base ≤ g)
  (hx : Box u g 62 #[.slice A0 w.ms.length c0, .slice A1 w.vs.length c1, .slice A2 w.ts.length c2, .slice A3 w.ml.length c3, .slice A4 ML c4])
  (o0 : u.ownsRow base 3 1 (.slice A0 w.ms.length c0) w.ms.length (ic w.ms)) (o1 : u.ownsRow base 59 3 (.slice A1 w.vs.length c1) w.vs.length (flat vcell w.vs))
  (o2 : u.ownsRow base 57 7 (.slice A2 w.ts.length c2) w.ts.length xs) (ht : TsRow u base xs w.ts) (o3 : u.ownsRow base 51 10 (.slice A3 w.ml.length c3) w.ml.length (flat mcell w.ml)) (o4 : u.ownsRow base 53 2 (.slice A4 ML c4) ML (flat ccell w.ch))
  (hg9 : (u.alloc (.cells (ccell c).toArray 53)).drew.grownBy w9 (Value.slice A4 ML c4).ownBlock) (o9 : w9.ownsRow base 53 2 (.slice A9 (ML + 1) c9) (ML + 1) (flat ccell w.ch ++ ccell c)) :
  WdAt (w9.setCell ⟨g, 4, none⟩ (.slice A9 (ML + 1) c9)) base g ⟨w.ms, w.vs, w.ts, w.ml, w.ch ++ [c]⟩ ∧ Kept isWC u (w9.setCell ⟨g, 4, none⟩ (.slice A9 (ML + 1) c9)) ∧ Below base u (w9.setCell ⟨g, 4, none⟩ (.slice A9 (ML + 1) c9)) := by
 have hal : Below u.heap.size u (u.alloc (.cells (ccell c).toArray 53)).drew := ((Below.refl _ _).alloc n! _).drew
 have k1 : Kept isWC u (u.alloc (.cells (ccell c).toArray 53)).drew := Kept.of_below hal
 have q4 := own_below3 o4 hal
 have k2 : Kept isWC (u.alloc (.cells (ccell c).toArray 53)).drew w9 := Kept.grown q4 (.inr rfl) hg9
 have hx9 : Box w9 g 62 _ := (hx.below hal hx.lt).grown hg9 (fun e => by
  obtain ⟨_, cur, hc⟩ := own_block q4 e.symm
  have := hx.below hal hx.lt
  rw [Box] at this hc
  rw [hc] at this
  injection this with this
  injection this with _ this
  exact absurd this (by decide))
 have k3 : Kept isWC w9 (w9.setCell ⟨g, 4, none⟩ (.slice A9 (ML + 1) c9)) := Kept.set hx9 (.inl rfl) _
 have kk := (k1.trans k2).trans k3
 have nI : ¬ isWC 3 := by unfold isWC; decide
 have nP : ¬ isWC 86 := by unfold isWC; decide
 have hlen : (w.ch ++ [c]).length = ML + 1 := by rw [List.length_append, hML]; rfl
 have hrow : flat ccell (w.ch ++ [c]) = flat ccell w.ch ++ ccell c := by rw [flat_append, flat_one]
 refine ⟨⟨A0, c0, A1, c1, A2, c2, A3, c3, A9, c9, xs, hg, ?_, kk.own o0 nI, kk.own o1 (by unfold isWC; decide), kk.own o2 (by unfold isWC; decide), ht.kept kk nI nP, kk.own o3 (by unfold isWC; decide), ?_⟩, kk, ?_⟩
 ·show Box _ g 62 #[_, _, _, _, .slice A9 (w.ch ++ [c]).length c9]
  rw [hlen]
  simpa using hx9.stored 4 (.slice A9 (ML + 1) c9)
 ·show World.ownsRow _ base _ 2 (.slice A9 (w.ch ++ [c]).length c9) (w.ch ++ [c]).length (flat ccell (w.ch ++ [c]))
  rw [hlen, hrow]
  exact own_setother o9 hx9 (by decide) _
 ·have h1 : Below base u w9 := (hal.mono hbase).grown hg9 (Nat.le_trans hbase hal.size) (fun q hq => (own_block q4 hq).1)
  exact h1.setCell (p := ⟨g, 4, none⟩) hg _
theorem WdAt.addM {u w9 : World} {base g ML : Nat} {w : DC.Wd} {c : DC.Ml} {A0 A1 A2 A3 A4 A9 : Option Addr} {c0 c1 c2 c3 c4 c9 : Nat} {xs : List Value}
  (hML : w.ml.length = ML) (hbase : base ≤ u.heap.size) (hg : base ≤ g)
  (hx : Box u g 62 #[.slice A0 w.ms.length c0, .slice A1 w.vs.length c1, .slice A2 w.ts.length c2, .slice A3 ML c3, .slice A4 w.ch.length c4])
  (o0 : u.ownsRow base 3 1 (.slice A0 w.ms.length c0) w.ms.length (ic w.ms)) (o1 : u.ownsRow base 59 3 (.slice A1 w.vs.length c1) w.vs.length (flat vcell w.vs))
  (o2 : u.ownsRow base 57 7 (.slice A2 w.ts.length c2) w.ts.length xs) (ht : TsRow u base xs w.ts) (o3 : u.ownsRow base 51 10 (.slice A3 ML c3) ML (flat mcell w.ml)) (o4 : u.ownsRow base 53 2 (.slice A4 w.ch.length c4) w.ch.length (flat ccell w.ch))
  (hg9 : (u.alloc (.cells (mcell c).toArray 51)).drew.grownBy w9 (Value.slice A3 ML c3).ownBlock) (o9 : w9.ownsRow base 51 10 (.slice A9 (ML + 1) c9) (ML + 1) (flat mcell w.ml ++ mcell c)) :
  WdAt (w9.setCell ⟨g, 3, none⟩ (.slice A9 (ML + 1) c9)) base g ⟨w.ms, w.vs, w.ts, w.ml ++ [c], w.ch⟩ ∧ Kept isWM u (w9.setCell ⟨g, 3, none⟩ (.slice A9 (ML + 1) c9)) ∧ Below base u (w9.setCell ⟨g, 3, none⟩ (.slice A9 (ML + 1) c9)) := by
 have hal : Below u.heap.size u (u.alloc (.cells (mcell c).toArray 51)).drew := ((Below.refl _ _).alloc n! _).drew
 have k1 : Kept isWM u (u.alloc (.cells (mcell c).toArray 51)).drew := Kept.of_below hal
 have q4 := own_below3 o3 hal
 have k2 : Kept isWM (u.alloc (.cells (mcell c).toArray 51)).drew w9 := Kept.grown q4 (.inr rfl) hg9
 have hx9 : Box w9 g 62 _ := (hx.below hal hx.lt).grown hg9 (fun e => by
  obtain ⟨_, cur, hc⟩ := own_block q4 e.symm
  have := hx.below hal hx.lt
  rw [Box] at this hc
  rw [hc] at this
  injection this with this
  injection this with _ this
  exact absurd this (by decide))
 have k3 : Kept isWM w9 (w9.setCell ⟨g, 3, none⟩ (.slice A9 (ML + 1) c9)) := Kept.set hx9 (.inl rfl) _
 have kk := (k1.trans k2).trans k3
 have nI : ¬ isWM 3 := by unfold isWM; decide
 have nP : ¬ isWM 86 := by unfold isWM; decide
 have hlen : (w.ml ++ [c]).length = ML + 1 := by rw [List.length_append, hML]; rfl
 have hrow : flat mcell (w.ml ++ [c]) = flat mcell w.ml ++ mcell c := by rw [flat_append, flat_one]
 refine ⟨⟨A0, c0, A1, c1, A2, c2, A9, c9, A4, c4, xs, hg, ?_, kk.own o0 nI, kk.own o1 (by unfold isWM; decide), kk.own o2 (by unfold isWM; decide), ht.kept kk nI nP, ?_, kk.own o4 (by unfold isWM; decide)⟩, kk, ?_⟩
 ·show Box _ g 62 #[_, _, _, .slice A9 (w.ml ++ [c]).length c9, _]
  rw [hlen]
  simpa using hx9.stored 3 (.slice A9 (ML + 1) c9)
 ·show World.ownsRow _ base _ 10 (.slice A9 (w.ml ++ [c]).length c9) (w.ml ++ [c]).length (flat mcell (w.ml ++ [c]))
  rw [hlen, hrow]
  exact own_setother o9 hx9 (by decide) _
 ·have h1 : Below base u w9 := (hal.mono hbase).grown hg9 (Nat.le_trans hbase hal.size) (fun q hq => (own_block q4 hq).1)
  exact h1.setCell (p := ⟨g, 3, none⟩) hg _
end Go.Proofs.YtiiobafcgdelmaaGreat.PD
