/- Contracts of functions of towncrier, layers 5 to 9, and of the document's own ones, part 26; each as its theorem says. -/
import Derived.Test.YtiiobafcgdelmaaGreatL01
import Derived.Test.YtiiobafcgdelmaaGreatL13
import Derived.Test.YtiiobafcgdelmaaGreatProg
import Derived.Lib.Hide
import Derived.Lib.MinMax
import Derived.WalkKit
import Derived.Test.YtiiobafcgdelmaaGreatL05
set_option linter.unusedVariables false
set_option linter.unusedSimpArgs false
namespace Go.Proofs.YtiiobafcgdelmaaGreat
open Go.RowKit Go.Shelf
def isWM (e : TypeId) : Prop := e = 28 ∨ e = 51
def isWC (e : TypeId) : Prop := e = 28 ∨ e = 53
def OthRel (W : World) (base g : Nat) (w : DC.Wd) (m : DC.Ml) (j : Nat) (wr : World) : Prop :=
 (∃ tt, Box wr W.heap.size 51 (mcell { m with t := tt }).toArray) ∧ WdAt wr base g ⟨w.ms, w.vs, w.ts, w.ml ++ DC.others (w.ms.take j) m, w.ch⟩ ∧
 (∀ v, wr.cell? ⟨g, 3, none⟩ = some v → v.ownBlock ≠ some W.heap.size) ∧ Kept isWM W wr ∧ Below base W wr
theorem OthRel.below {W wr wr' : World} {base g j : Nat} {w : DC.Wd} {m : DC.Ml} (h : OthRel W base g w m j wr) (hb : Below wr.heap.size wr wr') (hbase : base ≤ W.heap.size) : OthRel W base g w m j wr' := by
 obtain ⟨⟨tt, hN⟩, hW, hap, hk, hbl⟩ := h
 refine ⟨⟨tt, hN.below hb hN.lt⟩, hW.below hb, fun v hv => hap v ?_, hk.more hb, bmore hbl hb hbase⟩
 rwa [hb.cell (show (⟨g, 3, none⟩ : Addr).block < wr.heap.size from hW.lt.2)] at hv
theorem oth_next {W u w9 : World} {base g j ML : Nat} {w : DC.Wd} {m : DC.Ml} {l : List DC.Ml} {y : Int} {A0 A1 A2 A3 A4 A9 : Option Addr} {c0 c1 c2 c3 c4 c9 : Nat} {xs : List Value}
  (hy : w.ms[j]? = some y) (hyf : y ≠ m.f) (hl : l = w.ml ++ DC.others (w.ms.take j) m) (hML : l.length = ML) (hbase : base ≤ W.heap.size) (hg : base ≤ g) (hgN : g < W.heap.size)
  (hN : Box u W.heap.size 51 (mcell { m with t := y }).toArray) (hx : Box u g 28 #[.slice A0 w.ms.length c0, .slice A1 w.vs.length c1, .slice A2 w.ts.length c2, .slice A3 ML c3, .slice A4 w.ch.length c4])
  (o0 : u.ownsRow base 3 1 (.slice A0 w.ms.length c0) w.ms.length (ic w.ms)) (o1 : u.ownsRow base 59 3 (.slice A1 w.vs.length c1) w.vs.length (flat vcell w.vs))
  (o2 : u.ownsRow base 57 7 (.slice A2 w.ts.length c2) w.ts.length xs) (ht : TsRow u base xs w.ts) (o3 : OwnsM u base (.slice A3 ML c3) ML (flat mcell l)) (o4 : u.ownsRow base 53 2 (.slice A4 w.ch.length c4) w.ch.length (flat ccell w.ch))
  (hap : (Value.slice A3 ML c3).ownBlock ≠ some W.heap.size) (hk : Kept isWM W u) (hb : Below base W u)
  (hg9 : (u.drew.alloc (.cells (mcell { m with t := y }).toArray 51)).grownBy w9 (Value.slice A3 ML c3).ownBlock) (o9 : w9.ownsRow base 51 10 (.slice A9 (ML + 1) c9) (ML + 1) (flat mcell l ++ mcell { m with t := y }))
  (hob : (Value.slice A9 (ML + 1) c9).ownBlock = (Value.slice A3 ML c3).ownBlock ∨ (Value.slice A9 (ML + 1) c9).ownBlock = some (u.drew.alloc (.cells (mcell { m with t := y }).toArray 51)).heap.size) :
  OthRel W base g w m (j + 1) (w9.setCell ⟨g, 3, none⟩ (.slice A9 (ML + 1) c9)) := by
 have hal : Below u.heap.size u (u.drew.alloc (.cells (mcell { m with t := y }).toArray 51)) := (Below.refl _ _).drew.alloc n! _
 have k1 : Kept isWM u (u.drew.alloc (.cells (mcell { m with t := y }).toArray 51)) := Kept.of_below hal
 have q3 := o3.below hal
 have k2 : Kept isWM (u.drew.alloc (.cells (mcell { m with t := y }).toArray 51)) w9 := Kept.grownM q3 (.inr rfl) hg9
 have hx9 : Box w9 g 28 _ := (hx.below hal hx.lt).grown hg9 (fun e => by
  obtain ⟨_, cur, hc⟩ := ownM_block q3 e.symm
  have := hx.below hal hx.lt
  rw [Box] at this hc
  rw [hc] at this
  injection this with this
  injection this with _ this
  exact absurd this (by decide))
 have k3 : Kept isWM w9 (w9.setCell ⟨g, 3, none⟩ (.slice A9 (ML + 1) c9)) := Kept.set hx9 (.inl rfl) _
 have kk := (k1.trans k2).trans k3
 have hNs := hN.lt
 have hN9 : Box w9 W.heap.size 51 _ := (hN.below hal hN.lt).grown hg9 (fun e => hap e.symm)
 have nI : ¬ isWM 3 := by unfold isWM; decide
 have nP : ¬ isWM 86 := by unfold isWM; decide
 have nV : ¬ isWM 59 := by unfold isWM; decide
 have nA : ¬ isWM 57 := by unfold isWM; decide
 have nC : ¬ isWM 53 := by unfold isWM; decide
 have hlen : (w.ml ++ DC.others (w.ms.take (j + 1)) m).length = ML + 1 := by
  rw [others_snoc _ _ hy, if_neg hyf, ← List.append_assoc, ← hl, List.length_append, hML]
  rfl
 have hrow : flat mcell (w.ml ++ DC.others (w.ms.take (j + 1)) m) = flat mcell l ++ mcell { m with t := y } := by
  rw [others_snoc _ _ hy, if_neg hyf, ← List.append_assoc, ← hl, flat_append, flat_one]
 refine ⟨⟨y, hN9.far (p := ⟨g, 3, none⟩) (by show W.heap.size ≠ g; omega) _⟩, ⟨A0, c0, A1, c1, A2, c2, A9, c9, A4, c4, xs, hg, ?_, kk.own o0 nI, kk.own o1 nV, kk.own o2 nA, ht.kept kk nI nP, ?_, kk.own o4 nC⟩, fun v hv => ?_, hk.trans kk, ?_⟩
 ·show Box _ g 28 #[_, _, _, .slice A9 (w.ml ++ DC.others (w.ms.take (j + 1)) m).length c9, _]
  rw [hlen]
  simpa using hx9.stored 3 (.slice A9 (ML + 1) c9)
 ·show OwnsM _ base (.slice A9 (w.ml ++ DC.others (w.ms.take (j + 1)) m).length c9) (w.ml ++ DC.others (w.ms.take (j + 1)) m).length (flat mcell (w.ml ++ DC.others (w.ms.take (j + 1)) m))
  rw [hlen, hrow]
  exact .inl (own_setother o9 hx9 (by decide) _)
 ·have hs := (hx9.stored 3 (.slice A9 (ML + 1) c9)).cell 3
  simp at hs
  rw [hs] at hv
  injection hv with hv
  subst hv
  rcases hob with e | e
  ·rw [e]; exact hap
  ·rw [e]
   intro e2
   injection e2 with e2
   have hsz := hal.size
   have h1 : (u.drew.alloc (.cells (mcell { m with t := y }).toArray 51)).heap.size = u.heap.size + 1 := by simp
   omega
 ·have h1 : Below base W w9 := (bmore hb hal hbase).grown hg9 (Nat.le_trans hbase (Nat.le_trans hb.size hal.size)) (fun q hq => (ownM_block q3 hq).1)
  exact h1.setCell (p := ⟨g, 3, none⟩) hg _
def OthPost (base g : Nat) (w : DC.Wd) (m : DC.Ml) (W : World) (e : Ending) (W' : World) : Prop :=
 e = .returned (.tuple #[]) ∧ WdAt W' base g ⟨w.ms, w.vs, w.ts, w.ml ++ DC.others w.ms m, w.ch⟩ ∧ Kept isWM W W' ∧ Below base W W'
set_option maxRecDepth 100000 in
set_option maxHeartbeats 4000000 in
theorem others_any (base g : Nat) (w : DC.Wd) (m : DC.Ml) (W : World) (H : WdAt W base g w) (hbase : base ≤ W.heap.size) (hn : w.ms.length ≤ 2000) (hl : w.ml.length ≤ 2000) :
  Calls Tryz.prog 58 #[.pointer (some ⟨g, 0, none⟩), .agg #[.int .i64 m.f, .int .i64 m.t, .int .u8 m.k, .int .i64 m.g, .int .i64 m.s, .int .i64 m.b, .int .i64 m.p, .string m.v, .int .i64 m.i, .int .i64 m.m]] W (OthPost base g w m W) := by
 obtain ⟨i0, hi, hz0, hz1, hz2⟩ := info_parts info_mail
 have hlt := H.lt
 have hgg := h! hlt.1
 have hgN := h! hlt.2
 have hst : OthRel W base g w m 0 (W.alloc (.cells #[.int .i64 m.f, .int .i64 m.t, .int .u8 m.k, .int .i64 m.g, .int .i64 m.s, .int .i64 m.b, .int .i64 m.p, .string m.v, .int .i64 m.i, .int .i64 m.m] 51)) := by
  have hal : Below W.heap.size W (W.alloc (.cells #[.int .i64 m.f, .int .i64 m.t, .int .u8 m.k, .int .i64 m.g, .int .i64 m.s, .int .i64 m.b, .int .i64 m.p, .string m.v, .int .i64 m.i, .int .i64 m.m] 51)) := b!
  refine ⟨⟨m.t, Box.new _ _ _⟩, ?_, fun v hv => ?_, Kept.of_below hal, (Below.refl _ _).alloc hbase _⟩
  ·have := H.below hal
   simpa [DC.others] using this
  ·rw [hal.cell (show (⟨g, 3, none⟩ : Addr).block < W.heap.size from hlt.2)] at hv
   obtain ⟨A0, c0, A1, c1, A2, c2, A3, c3, A4, c4, xs, _, hx, _, _, _, _, o3, _⟩ := H
   have := hx.five.1.2.2.2.1
   rw [this] at hv
   injection hv with hv
   subst hv
   intro e
   obtain ⟨_, cur, hc⟩ := ownM_block o3 e
   have := hc.lt
   omega
 have HS := h! hst
 have HBS := h! hbase
 have HLM : Hid (∀ j, (w.ml ++ DC.others (w.ms.take j) m).length ≤ 4000) := h! fun j => by
  have := DC.others_len (w.ms.take j) m
  rw [List.length_append]
  have h2 : (w.ms.take j).length ≤ w.ms.length := by rw [List.length_take]; omega
  omega
 clear hst H hlt hbase hl
 go_enter Tryz.func58, Tryz.ntmps58
 go_wp2_with fail
 generalize W.alloc (.cells #[.int .i64 m.f, .int .i64 m.t, .int .u8 m.k, .int .i64 m.g, .int .i64 m.s, .int .i64 m.b, .int .i64 m.p, .string m.v, .int .i64 m.i, .int .i64 m.m] 51) = W1 at HS ⊢
 go_loopw [4] (fun i wr => ∃ j : Nat, j ≤ w.ms.length ∧ i = .int .i64 j ∧ Hid (OthRel W base g w m j wr)) (fun i _ => w.ms.length - (intOf i).toNat)
 case atStart => exact ⟨0, by omega, rfl, HS⟩
 case round =>
  clear HS
  obtain ⟨j, hj, rfl, HT⟩ := hrel
  obtain ⟨⟨tt, hN⟩, ⟨A0, c0, A1, c1, A2, c2, A3, c3, A4, c4, xs, _, hx, o0, o1, o2, ht, o3, o4⟩, hap, hk, hbl⟩ := HT.out
  simp only at hx o0 o1 o2 ht o3 o4
  obtain ⟨ML, hML⟩ : ∃ ML, ML = (w.ml ++ DC.others (w.ms.take j) m).length := ⟨_, rfl⟩
  rw [← hML] at hx o3
  have hap3 := hap _ hx.five.1.2.2.2.1
  have hlm := HLM.out j
  rw [← hML] at hlm
  have HX := h! hx
  have HN := h! hN
  have H0 := h! o0
  have H1 := h! o1
  have H2 := h! o2
  have H3 := h! o3
  have H4 := h! o4
  have HTS := h! ht
  have HAP := h! hap3
  have HK := h! hk
  have HB := h! hbl
  have HML := h! hML
  clear hx hN o0 o1 o2 o3 o4 ht hap hap3 hk hbl hML
  obtain ⟨⟨g0, g1, g2, g3, g4⟩, _⟩ := HX.out.five
  by_cases hlt : j < w.ms.length
  ·obtain ⟨ad, u1, e0, _, hu1, hc1⟩ := (Rd.of_own H0.out).at_ hlt
   subst e0
   obtain ⟨y, hy, rfl⟩ := ic_at hu1
   have i0' : (0 : Int) ≤ (j : Int) := by omega
   have i1' : (j : Int) < (w.ms.length : Int) := by omega
   have HY := h! hy
   obtain ⟨n0, n1, n2, n3, n4, n5, n6, n7, n8, n9⟩ := (show Box wr W.heap.size 51 #[.int .i64 m.f, .int .i64 tt, .int .u8 m.k, .int .i64 m.g, .int .i64 m.s, .int .i64 m.b, .int .i64 m.p, .string m.v, .int .i64 m.i, .int .i64 m.m] from HN.out).ten
   clear hu1 hy
   by_cases hyf : y = m.f
   ·have e1 : (y != m.f) = false := by simpa using hyf
    have HF := h! hyf
    clear hyf
    go_wp2_with fail
    go_quiet (fail)
    go_wp2_with fail
    go_roundw
    case rel => exact ⟨j + 1, by omega, by go_num, h! (by
     obtain ⟨r1, r2, r3, r4, r5⟩ := HT.out.below (below_drewN (Below.refl _ _) nq) HBS.out
     refine ⟨r1, ?_, r3, r4, r5⟩
     rw [others_snoc _ _ HY.out, if_pos HF.out, List.append_nil]
     exact r2)⟩
    case measure => simp [intOf]; omega
   ·have e1 : (y != m.f) = true := by simpa using hyf
    have HF := h! hyf
    clear hyf
    have nf1 := HN.out.frozen 1
    go_wp2_with fail
    go_quiet (fail)
    go_upto_region 6 with (fail)
    clear g0 g1 g2 g3 g4 n0 n1 n2 n3 n4 n5 n6 n7 n8 n9 nf1 hc1
    have hbd : Below wr.heap.size wr (wr.drewN nq) := below_drewN (Below.refl _ _) nq
    have hNd : Box (wr.drewN nq) W.heap.size 51 (mcell { (⟨m.f, m.t, m.k, m.g, m.s, m.b, m.p, m.v, m.i, m.m⟩ : DC.Ml) with t := tt }).toArray := HN.out
    have ks : Kept isWM (wr.drewN nq) ((wr.drewN nq).setCell ⟨W.heap.size, 1, none⟩ (.int .i64 y)) := Kept.set hNd (.inr rfl) _
    have NU := h! (show Box ((wr.drewN nq).setCell ⟨W.heap.size, 1, none⟩ (.int .i64 y)) W.heap.size 51 (mcell { m with t := y }).toArray by simpa [mcell] using hNd.stored 1 (.int .i64 y))
    have XU := h! ((show Box (wr.drewN nq) g 28 _ from HX.out).far (p := ⟨W.heap.size, 1, none⟩) (by have := hgN.out; show g ≠ W.heap.size; omega) (.int .i64 y))
    have nI : ¬ isWM 3 := by unfold isWM; decide
    have nP : ¬ isWM 86 := by unfold isWM; decide
    have U0 := h! (ks.own (own_below3 H0.out hbd) nI)
    have U1 := h! (ks.own (own_below3 H1.out hbd) (by unfold isWM; decide))
    have U2 := h! (ks.own (own_below3 H2.out hbd) (by unfold isWM; decide))
    have U4 := h! (ks.own (own_below3 H4.out hbd) (by unfold isWM; decide))
    have U3 := h! (ownM_setCell_other (H3.out.below hbd) (p := ⟨W.heap.size, 1, none⟩) HAP.out (.int .i64 y))
    have UT := h! ((HTS.out.kept (S := isWM) (Kept.of_below hbd) nI nP).kept ks nI nP)
    have UK := h! ((HK.out.more hbd).trans ks)
    have UB := h! ((bmore HB.out hbd HBS.out).setCell (p := ⟨W.heap.size, 1, none⟩) HBS.out (.int .i64 y))
    clear hNd ks hbd HX HN H0 H1 H2 H3 H4 HTS HK HB HT
    generalize (wr.drewN nq).setCell ⟨W.heap.size, 1, none⟩ (.int .i64 y) = u at NU XU U0 U1 U2 U3 U4 UT UK UB ⊢
    have hroom := UB.out.size
    have hal : Below u.heap.size u (u.alloc (.cells #[.int .i64 m.f, .int .i64 y, .int .u8 m.k, .int .i64 m.g, .int .i64 m.s, .int .i64 m.b, .int .i64 m.p, .string m.v, .int .i64 m.i, .int .i64 m.m] 51)) := b!
    have O3a := h! (U3.out.below hal)
    have HR2 := h! (rdG_box (s := 10) (n := 1) (Box.new u 51 #[.int .i64 m.f, .int .i64 y, .int .u8 m.k, .int .i64 m.g, .int .i64 m.s, .int .i64 m.b, .int .i64 m.p, .string m.v, .int .i64 m.i, .int .i64 m.m]) rfl rfl)
    have hbz : base ≤ (u.alloc (.cells #[.int .i64 m.f, .int .i64 y, .int .u8 m.k, .int .i64 m.g, .int .i64 m.s, .int .i64 m.b, .int .i64 m.p, .string m.v, .int .i64 m.i, .int .i64 m.m] 51)).heap.size := by have := HBS.out; have := UB.out.size; have := hal.size; omega
    have mixed : Tryz.prog.follows Departure.mixedOrders = true := by kernel_rfl
    have XA := h! (XU.out.below hal XU.out.lt)
    obtain ⟨⟨g0, g1, g2, g3, g4⟩, _⟩ := XU.out.five
    obtain ⟨⟨y0, y1, y2, y3, y4⟩, _⟩ := XA.out.five
    obtain ⟨n0, n1, n2, n3, n4, n5, n6, n7, n8, n9⟩ := (show Box u W.heap.size 51 #[.int .i64 m.f, .int .i64 y, .int .u8 m.k, .int .i64 m.g, .int .i64 m.s, .int .i64 m.b, .int .i64 m.p, .string m.v, .int .i64 m.i, .int .i64 m.m] from NU.out).ten
    go_region_law_o (refine step_append_m rfl (.tmp 36) (.tmp 38) 25 rfl base i0 _ 88 Tryz.underlying25 hi hz0 hz1 hz2 rfl (.slice A3 ML c3) ML _ (by simp [Act.eval, Act.put]) O3a.out (some ⟨u.heap.size, 0, none⟩) 1 1 (by omega) _ (by simp [Act.eval, Act.put]) HR2.out (by intro x hx; simp at hx; rcases hx with rfl | rfl | rfl | rfl | rfl | rfl | rfl | rfl | rfl | rfl <;> rfl) (by unfold maxLen; omega) (by omega) hbz ?_; intro v9 w9 o9 g9 hob9; obtain ⟨A9, c9, rfl, _, _⟩ := own_form o9; obtain ⟨_, z0, z1, z2, z3, z4⟩ := (XA.out.drew.grown g9 (fun e => by obtain ⟨_, cur, hc⟩ := ownM_block O3a.out e.symm; have := XA.out; rw [Box] at this hc; rw [hc] at this; injection this with this; injection this with _ this; exact absurd this (by decide))).five)
    all_goals
     have HF9 := h! (oth_next HY.out HF.out rfl HML.out.symm HBS.out hgg.out hgN.out NU.out XU.out U0.out U1.out U2.out UT.out U3.out U4.out HAP.out UK.out UB.out g9 o9 hob9)
     clear o9 g9 hob9
     clear g0 g1 g2 g3 g4 y0 y1 y2 y3 y4 n0 n1 n2 n3 n4 n5 n6 n7 n8 n9
     go_wp2_with fail
     go_roundw
     case rel => exact ⟨j + 1, by omega, by go_num, HF9⟩
     case measure => simp [intOf]; omega
  ·obtain rfl : w.ms.length = j := by omega
   have HF : Hid (OthPost base g w m W (.returned (.tuple #[])) wr) := h! (by
    obtain ⟨_, r2, _, r4, r5⟩ := HT.out
    rw [List.take_length] at r2
    exact ⟨rfl, r2, r4, r5⟩)
   go_wp2_with fail
   go_end0
   exact HF.out
def FndPost (base g : Nat) (w : DC.Wd) (n was : Int) (W : World) (e : Ending) (W' : World) : Prop :=
 e = .returned (.tuple #[]) ∧ WdAt W' base g ⟨w.ms, w.vs, w.ts, w.ml, w.ch ++ DC.found n was (DC.getT w n)⟩ ∧ Kept isWC W W' ∧ Below base W W'
theorem fnd_next {u w9 : World} {base g ML : Nat} {w : DC.Wd} {n was : Int} {c : DC.Ch} {A0 A1 A2 A3 A4 A9 : Option Addr} {c0 c1 c2 c3 c4 c9 : Nat} {xs : List Value}
  (hc : DC.found n was (DC.getT w n) = [c]) (hML : w.ch.length = ML) (hbase : base ≤ u.heap.size) (hg : base ≤ g)
  (hx : Box u g 28 #[.slice A0 w.ms.length c0, .slice A1 w.vs.length c1, .slice A2 w.ts.length c2, .slice A3 w.ml.length c3, .slice A4 ML c4])
  (o0 : u.ownsRow base 3 1 (.slice A0 w.ms.length c0) w.ms.length (ic w.ms)) (o1 : u.ownsRow base 59 3 (.slice A1 w.vs.length c1) w.vs.length (flat vcell w.vs))
  (o2 : u.ownsRow base 57 7 (.slice A2 w.ts.length c2) w.ts.length xs) (ht : TsRow u base xs w.ts) (o3 : OwnsM u base (.slice A3 w.ml.length c3) w.ml.length (flat mcell w.ml)) (o4 : u.ownsRow base 53 2 (.slice A4 ML c4) ML (flat ccell w.ch))
  (hg9 : (u.alloc (.cells (ccell c).toArray 53)).drew.grownBy w9 (Value.slice A4 ML c4).ownBlock) (o9 : w9.ownsRow base 53 2 (.slice A9 (ML + 1) c9) (ML + 1) (flat ccell w.ch ++ ccell c)) :
  FndPost base g w n was u (.returned (.tuple #[])) (w9.setCell ⟨g, 4, none⟩ (.slice A9 (ML + 1) c9)) := by
 have hal : Below u.heap.size u (u.alloc (.cells (ccell c).toArray 53)).drew := ((Below.refl _ _).alloc n! _).drew
 have k1 : Kept isWC u (u.alloc (.cells (ccell c).toArray 53)).drew := Kept.of_below hal
 have q4 := own_below3 o4 hal
 have k2 : Kept isWC (u.alloc (.cells (ccell c).toArray 53)).drew w9 := Kept.grown q4 (.inr rfl) hg9
 have hx9 : Box w9 g 28 _ := (hx.below hal hx.lt).grown hg9 (fun e => by
  obtain ⟨_, cur, hc⟩ := own_block q4 e.symm
  have := hx.below hal hx.lt
  rw [Box] at this hc
  rw [hc] at this
  injection this with this
  injection this with _ this
  exact absurd this (by decide))
 have k3 : Kept isWC w9 (w9.setCell ⟨g, 4, none⟩ (.slice A9 (ML + 1) c9)) := Kept.set hx9 (.inl rfl) _
 have kk := (k1.trans k2).trans k3
 have nI : ¬ isWC 3 := by unfold isWC; decide
 have nP : ¬ isWC 86 := by unfold isWC; decide
 have hlen : (w.ch ++ [c]).length = ML + 1 := by rw [List.length_append, hML]; rfl
 have hrow : flat ccell (w.ch ++ [c]) = flat ccell w.ch ++ ccell c := by rw [flat_append, flat_one]
 unfold FndPost
 rw [hc]
 refine ⟨rfl, ⟨A0, c0, A1, c1, A2, c2, A3, c3, A9, c9, xs, hg, ?_, kk.own o0 nI, kk.own o1 (by unfold isWC; decide), kk.own o2 (by unfold isWC; decide), ht.kept kk nI nP, kk.ownM o3 (by unfold isWC; decide), ?_⟩, kk, ?_⟩
 ·show Box _ g 28 #[_, _, _, _, .slice A9 (w.ch ++ [c]).length c9]
  rw [hlen]
  simpa using hx9.stored 4 (.slice A9 (ML + 1) c9)
 ·show World.ownsRow _ base _ 2 (.slice A9 (w.ch ++ [c]).length c9) (w.ch ++ [c]).length (flat ccell (w.ch ++ [c]))
  rw [hlen, hrow]
  exact own_setother o9 hx9 (by decide) _
 ·have h1 : Below base u w9 := (hal.mono hbase).grown hg9 (Nat.le_trans hbase hal.size) (fun q hq => (own_block q4 hq).1)
  exact h1.setCell (p := ⟨g, 4, none⟩) hg _
set_option maxRecDepth 100000 in
set_option maxHeartbeats 4000000 in
theorem found_any (base g i : Nat) (w : DC.Wd) (was : Int) (W : World) (H : WdAt W base g w) (hbase : base ≤ W.heap.size) (hi : i < w.ts.length) (hl : w.ch.length ≤ 2000) :
  Calls Tryz.prog 62 #[.pointer (some ⟨g, 0, none⟩), .int .i64 (i : Int), .int .u8 was] W (FndPost base g w (i : Int) was W) := by
 obtain ⟨i0, hi0, hz0, hz1, hz2⟩ := info_parts info_choice
 have hgg := h! H.lt.1
 have hT : w.ts[i]? = some (DC.getT w (i : Int)) := by unfold DC.getT; rw [Int.toNat_natCast, List.getElem?_eq_getElem hi]; rfl
 have hsame : ∀ (hf : DC.found (i : Int) was (DC.getT w (i : Int)) = []) (W' : World) (hb : Below W.heap.size W W'), FndPost base g w (i : Int) was W (.returned (.tuple #[])) W' := fun hf W' hb => ⟨rfl, by rw [hf, List.append_nil]; exact H.below hb, Kept.of_below hb, hb.mono hbase⟩
 obtain ⟨A0, c0, A1, c1, A2, c2, A3, c3, A4, c4, xs, _, hx, o0, o1, o2, ht, o3, o4⟩ := H
 obtain ⟨ML, hML⟩ : ∃ ML, ML = w.ch.length := ⟨_, rfl⟩
 rw [← hML] at hx o4 hl
 obtain ⟨q, x, y, z, rfl, hqb, _, t0, t1, t2, t3, t4, t5, t6⟩ := try_cells o2 ht hT rfl
 generalize hgt : DC.getT w (i : Int) = t at *
 have HGT := h! hgt
 have HX := h! hx
 have H0 := h! o0
 have H1 := h! o1
 have H2 := h! o2
 have H3 := h! o3
 have H4 := h! o4
 have HTS := h! ht
 have HML := h! hML
 have HBS := h! hbase
 obtain ⟨⟨g0, g1, g2, g3, g4⟩, _⟩ := hx.five
 have i0' : (0 : Int) ≤ (i : Int) := by omega
 have i1' : (i : Int) < (w.ts.length : Int) := by omega
 clear hx o0 o1 o2 o3 o4 ht hML hT hgt t1 t2 t3 t5 t6 hqb hbase
 by_cases hw : was = 3
 ·have HF := h! (hsame (by unfold DC.found; rw [if_neg (by omega)]))
  have e1 : (was != 3) = false := by simpa using hw
  clear hsame hw
  go_enter Tryz.func62, Tryz.ntmps62
  go_wp2_with fail
  go_end0
  exact HF.out _ (Below.refl _ _)
 have e1 : (was != 3) = true := by simpa using hw
 by_cases h3 : t.ph = 3
 ·have e2 : (t.ph == 3) = true := by simpa using h3
  have HC := h! (show DC.found (i : Int) was (DC.getT w (i : Int)) = [⟨(i : Int), t.va⟩] by rw [HGT.out]; unfold DC.found; rw [if_pos ⟨hw, h3⟩])
  clear hsame hw h3
  have hal : Below W.heap.size W (W.alloc (.cells #[.int .i64 (i : Int), .string t.va] 53)) := b!
  have O4a := h! (own_below3 H4.out hal)
  have HR2 := h! (rdG_box (s := 2) (n := 1) (Box.new W 53 #[.int .i64 (i : Int), .string t.va]) rfl rfl)
  have hbz : base ≤ (W.alloc (.cells #[.int .i64 (i : Int), .string t.va] 53)).heap.size := by have := HBS.out; have := hal.size; omega
  have mixed : Tryz.prog.follows Departure.mixedOrders = true := by kernel_rfl
  have XA := h! (HX.out.below hal HX.out.lt)
  obtain ⟨⟨y0, y1, y2, y3, y4⟩, _⟩ := XA.out.five
  clear hal
  go_enter Tryz.func62, Tryz.ntmps62
  go_wp2_with fail
  go_region_law_o (refine step_append_h rfl (.tmp 23) (.tmp 34) 26 rfl base 53 i0 _ 2 24 Tryz.underlying26 hi0 hz0 hz1 hz2 rfl (by omega) (.slice A4 ML c4) ML _ (by simp [Act.eval, Act.put]) O4a.out (some ⟨W.heap.size, 0, none⟩) 1 1 _ (by simp [Act.eval, Act.put]) HR2.out (by intro x hx; simp at hx; rcases hx with rfl | rfl <;> rfl) (by unfold maxLen; omega) (by omega) hbz ?_; intro v9 w9 o9 g9 hob9; obtain ⟨A9, c9, rfl, _, _⟩ := own_form o9; obtain ⟨_, z0, z1, z2, z3, z4⟩ := (XA.out.drew.grown g9 (fun e => by obtain ⟨_, cur, hc⟩ := own_block O4a.out e.symm; have := XA.out; rw [Box] at this hc; rw [hc] at this; injection this with this; injection this with _ this; exact absurd this (by decide))).five)
  all_goals
   have HF9 := h! (fnd_next HC.out HML.out.symm HBS.out hgg.out HX.out H0.out H1.out H2.out HTS.out H3.out H4.out g9 o9)
   clear o9 g9 hob9
   clear g0 g1 g2 g3 g4 y0 y1 y2 y3 y4 t0 t4
   go_wp2_with fail
   go_end0
   exact HF9.out
 ·have e2 : (t.ph == 3) = false := by simpa using h3
  have HF := h! (hsame (by unfold DC.found; rw [if_neg (fun h => h3 h.2)]))
  clear hsame hw h3
  go_enter Tryz.func62, Tryz.ntmps62
  go_wp2_with fail
  go_end0
  exact HF.out _ (Below.refl _ _)
end Go.Proofs.YtiiobafcgdelmaaGreat
namespace Go.Proofs.YtiiobafcgdelmaaGreat
open Go.RowKit
theorem rMay_yes (b : Int) (w : World) (h : BM.good b) : Calls Tryz.prog 68 #[.int .i64 b] w fun e w' => e = .returned (.bool true) ∧ w = w' := by
 obtain ⟨h0, h1, h2⟩ := h
 go_enter Tryz.func68, Tryz.ntmps68
 go_wp2
 go_ret
 exact ⟨by simp; try omega, rfl⟩
theorem rMay_no (b : Int) (w : World) (h : ¬ BM.good b) : Calls Tryz.prog 68 #[.int .i64 b] w fun e w' => e = .returned (.bool false) ∧ w = w' := by
 rcases (show b < 8 ∨ (8 ≤ b ∧ 8388613 < b) ∨ (8 ≤ b ∧ b ≤ 8388613 ∧ 6 ≤ b % 8) by unfold BM.good at h; omega) with h1 | ⟨h1, h2⟩ | ⟨h1, h2, h3⟩
 all_goals
  clear h
  go_enter Tryz.func68, Tryz.ntmps68
  go_wp2
  go_ret
  exact ⟨by simp; try omega, rfl⟩
set_option maxHeartbeats 1000000 in
theorem rHas_any (A : Option Addr) (n c : Nat) (zs : List Int) (x : Int) (w : World) (hr : Rd w A n (ic zs)) (hm : n ≤ 9223372036854775807) :
  Calls Tryz.prog 88 #[.slice A n c, .int .i64 x] w fun e w' => e = .returned (.bool (QM.has zs x)) ∧ w = w' := by
 have hl : zs.length = n := by have := hr.1; rwa [ic_length] at this
 obtain ⟨r, hrr⟩ : ∃ r, r = QM.has zs x := ⟨_, rfl⟩
 have hst : QM.has (zs.drop 0) x = r := hrr.symm
 rw [← hrr]
 have HL := h! hl; clear hl
 have HS := h! hst; clear hst hrr
 go_enter Tryz.func88, Tryz.ntmps88
 go_wp2
 go_loop [5] (fun i => ∃ k : Nat, k ≤ n ∧ i = .int .i64 k ∧ Hid (QM.has (zs.drop k) x = r)) (fun i => n - (intOf i).toNat)
 case atStart => exact ⟨0, by omega, rfl, HS⟩
 case round =>
  clear HS
  obtain ⟨k, hk, rfl, HR⟩ := hrel
  by_cases hlt : k < n
  ·have hkz : k < zs.length := by have := HL.out; omega
   obtain ⟨ad, u, rfl, _, hu, hcell⟩ := hr.at_ hlt
   rw [ic_get zs k hkz] at hu
   injection hu with hu
   subst hu
   have hd := HR.out
   rw [List.drop_eq_getElem_cons hkz] at hd
   obtain ⟨z, hz⟩ : ∃ z, z = zs[k] := ⟨_, rfl⟩
   rw [← hz] at hcell hd
   clear hz HR
   by_cases h1 : x = z
   ·have hd' : true = r := by rw [← hd]; simp [QM.has, h1]
    clear hd
    have HD := h! hd'; clear hd'
    subst h1
    have h2 : (x == x) = true := by simp
    go_wp2
    go_ret
    exact ⟨ret_eq HD.out, rfl⟩
   ·have hd' : QM.has (zs.drop (k + 1)) x = r := by
     rw [← hd]
     unfold QM.has
     simp [h1]
    clear hd
    have HD := h! hd'; clear hd'
    have h2 : (z == x) = false := by simpa using fun h => h1 h.symm
    clear h1
    go_wp2
    go_round
    case rel => exact ⟨k + 1, by omega, by go_num, HD⟩
    case measure => simp [intOf]; omega
  ·have hd := HR.out
   rw [List.drop_of_length_le (by have := HL.out; omega)] at hd
   have hd' : false = r := by rw [← hd]; simp [QM.has]
   clear hd
   have HD := h! hd'; clear hd'
   go_wp2
   go_ret
   exact ⟨ret_eq HD.out, rfl⟩
def MayPost (b : Bool) (w : World) (e : Ending) (w' : World) : Prop := e = .returned (.bool b) ∧ ∃ q, w' = w.drewN q
set_option maxHeartbeats 2000000 in
theorem rMay_any (A : Option Addr) (n c : Nat) (zs : List Int) (w : World) (hr : Rd w A n (ic zs)) (hm : n ≤ 9223372036854775807) :
  Calls Tryz.prog 40 #[.slice A n c] w (MayPost (QM.may zs) w) := by
 have hl : zs.length = n := by have := hr.1; rwa [ic_length] at this
 obtain ⟨r, hrr⟩ : ∃ r, r = QM.rise (-1) zs := ⟨_, rfl⟩
 have hmay : QM.may zs = (decide (1 ≤ n) && (decide (n ≤ 6) && r)) := by unfold QM.may; rw [hl, hrr]
 have hst : QM.rise (-1) (zs.drop 0) = r := hrr.symm
 generalize QM.may zs = o at hmay
 have HO := h! hmay; clear hmay
 have HL := h! hl; clear hl
 have HS := h! hst; clear hst hrr
 go_enter Tryz.func40, Tryz.ntmps40
 go_wp2
 go_loopw [3] (fun i wr => ∃ (k q : Nat) (p : Int), k ≤ n ∧ i = .int .i64 k ∧ wr = w.drewN q ∧ Hid (QM.rise p (zs.drop k) = r) ∧ Hid (k = 0 ∧ p = -1 ∨ 0 < k ∧ -1 ≤ p ∧ zs[k - 1]? = some p)) (fun i _ => n - (intOf i).toNat)
 case atStart => exact ⟨0, 0, -1, by omega, rfl, rfl, HS, h! (.inl ⟨rfl, rfl⟩)⟩
 case round =>
  clear HS
  obtain ⟨k, q, p, hk, rfl, rfl, HR, HP⟩ := hrel
  by_cases hlt : k < n
  ·have hkz : k < zs.length := by have := HL.out; omega
   obtain ⟨ad, u, rfl, _, hu, hcell⟩ := hr.at_ hlt
   rw [ic_get zs k hkz] at hu
   injection hu with hu
   subst hu
   have hd := HR.out
   rw [List.drop_eq_getElem_cons hkz] at hd
   have hzg : zs[k + 1 - 1]? = some zs[k] := by rw [Nat.add_sub_cancel]; exact List.getElem?_eq_getElem hkz
   obtain ⟨z, hz⟩ : ∃ z, z = zs[k] := ⟨_, rfl⟩
   rw [← hz] at hcell hd hzg
   clear hz HR
   simp only [QM.rise] at hd
   have HG := h! hzg; clear hzg
   by_cases h0 : z < 0
   ·have hd' : false = r := by
     rw [← hd]
     have : ¬ p < z := by
      rcases HP.out with ⟨_, rfl⟩ | ⟨_, h, _⟩ <;> omega
     simp [this]
    have ho : false = o := by have := HO.out; rw [← hd'] at this; simpa using this.symm
    clear hd hd'
    have HD := h! ho; clear ho
    have b0 : decide (z < 0) = true := by simp; omega
    go_wp2_with fail
    go_quiet (fail)
    go_wp2
    go_ret
    exact ⟨ret_eq HD.out, _, World.drewN_drewN _ _ _⟩
   ·by_cases h6 : 6 ≤ z
    ·have hd' : false = r := by
      rw [← hd]
      have : ¬ z < 6 := by omega
      simp [this]
     have ho : false = o := by have := HO.out; rw [← hd'] at this; simpa using this.symm
     clear hd hd'
     have HD := h! ho; clear ho
     have b0 : decide (z < 0) = false := by simp; omega
     have b1 : decide (6 ≤ z) = true := by simp; omega
     clear h0 h6
     go_wp2_with fail
     go_quiet (fail)
     go_wp2
     go_ret
     exact ⟨ret_eq HD.out, _, World.drewN_drewN _ _ _⟩
    ·have h0' : 0 ≤ z := by omega
     have h6' : z < 6 := by omega
     have b0 : decide (z < 0) = false := by simp; omega
     have b1 : decide (6 ≤ z) = false := by simp; omega
     clear h0 h6
     rcases HP.out with ⟨hk0, hp⟩ | ⟨hk0, hp, hpz⟩
     ·have hd' : QM.rise z (zs.drop (k + 1)) = r := by
       rw [← hd]
       have : p < z := by omega
       simp [this, h6']
      clear hd HP hp
      have HD := h! hd'; clear hd'
      have hq1 : decide (0 < k) = false := by simp; omega
      have hq2 : decide ((0 : Int) < (k : Int)) = false := by simp; omega
      clear hk0
      go_wp2_with fail
      go_quiet (fail)
      go_wp2
      go_roundw
      case rel => exact ⟨k + 1, q + nq, z, by omega, by go_num, rfl, HD, h! (.inr ⟨by omega, by omega, HG.out⟩)⟩
      case measure => simp [intOf]; omega
     ·have hkz1 : k - 1 < n := by omega
      obtain ⟨ad2, u2, hA2, _, hu2, hcell2⟩ := hr.at_ hkz1
      injection hA2 with hA2
      subst hA2
      have hu3 : u2 = .int .i64 p := by
       have : (ic zs)[k - 1]? = some (.int .i64 p) := by unfold ic; rw [List.getElem?_map, hpz]; rfl
       rw [this] at hu2
       injection hu2 with hu2
       exact hu2.symm
      subst hu3
      clear hu2 hkz1
      have hq1 : decide (0 < k) = true := by simp; omega
      have hq2 : decide ((0 : Int) < (k : Int)) = true := by simp; omega
      have s1 : IntKind.i64.wrap ((k : Int) - 1) = (k : Int) - 1 := IntWalk.i64_in _ ⟨by omega, by omega⟩
      have s2 : (0 : Int) ≤ (k : Int) - 1 := by omega
      have s3 : ((k : Int) - 1).toNat = k - 1 := by omega
      have s4 : (k : Int) - 1 < (n : Int) := by omega
      by_cases hpl : p < z
      ·have hd' : QM.rise z (zs.drop (k + 1)) = r := by
        rw [← hd]
        simp [hpl, h6']
       have b2 : decide (z ≤ p) = false := by simp; omega
       clear hd HP hpz
       have HD := h! hd'; clear hd'
       go_wp2_with fail
       go_quiet (fail)
       clear s1 s3
       go_wp2
       go_roundw
       case rel => exact ⟨k + 1, q + nq, z, by omega, by go_num, rfl, HD, h! (.inr ⟨by omega, by omega, HG.out⟩)⟩
       case measure => simp [intOf]; omega
      ·have hd' : false = r := by
        rw [← hd]
        simp [hpl]
       have ho : false = o := by have := HO.out; rw [← hd'] at this; simpa using this.symm
       have b2 : decide (z ≤ p) = true := by simp; omega
       clear hd hd' HP hpz
       have HD := h! ho; clear ho
       go_wp2_with fail
       go_quiet (fail)
       clear s1 s3
       go_wp2
       go_ret
       exact ⟨ret_eq HD.out, _, World.drewN_drewN _ _ _⟩
  ·have hd := HR.out
   rw [List.drop_of_length_le (by have := HL.out; omega)] at hd
   have ho : (decide (1 ≤ n) && decide (n ≤ 6)) = o := by have := HO.out; rw [← hd] at this; rw [this]; simp [QM.rise]
   have HD := h! ho; clear ho hd
   by_cases h1 : 1 ≤ n
   ·by_cases h6 : n ≤ 6
    ·have ht : true = o := by rw [← HD.out]; simp [h1, h6]
     clear HD
     have HD := h! ht; clear ht
     go_wp2
     go_ret
     exact ⟨ret_eq (by rw [← HD.out]; simp; omega), _, rfl⟩
    ·have ht : false = o := by rw [← HD.out]; simp [h6]
     clear HD
     have HD := h! ht; clear ht
     go_wp2
     go_ret
     exact ⟨ret_eq (by rw [← HD.out]; simp; omega), _, rfl⟩
   ·have ht : false = o := by rw [← HD.out]; simp [h1]
    clear HD
    have HD := h! ht; clear ht
    go_wp2
    go_ret
    exact ⟨ret_eq HD.out, _, rfl⟩
set_option maxHeartbeats 1000000 in
theorem rWithin_any (A : Option Addr) (n c : Nat) (ms : List Int) (B : Option Addr) (m d : Nat) (rs : List Int) (w : World) (hr : Rd w A n (ic ms)) (hm : n ≤ 9223372036854775807) (hr2 : Rd w B m (ic rs)) (hm2 : m ≤ 9223372036854775807) :
  Calls Tryz.prog 94 #[.slice A n c, .slice B m d] w fun e w' => e = .returned (.bool (QM.within ms rs)) ∧ w = w' := by
 have hl : ms.length = n := by have := hr.1; rwa [ic_length] at this
 obtain ⟨r, hrr⟩ : ∃ r, r = QM.within ms rs := ⟨_, rfl⟩
 have hst : QM.within (ms.drop 0) rs = r := hrr.symm
 rw [← hrr]
 have HL := h! hl; clear hl
 have HS := h! hst; clear hst hrr
 go_enter Tryz.func94, Tryz.ntmps94
 go_wp2
 go_loop [5] (fun i => ∃ k : Nat, k ≤ n ∧ i = .int .i64 k ∧ Hid (QM.within (ms.drop k) rs = r)) (fun i => n - (intOf i).toNat)
 case atStart => exact ⟨0, by omega, rfl, HS⟩
 case round =>
  clear HS
  obtain ⟨k, hk, rfl, HR⟩ := hrel
  by_cases hlt : k < n
  ·have hkz : k < ms.length := by have := HL.out; omega
   obtain ⟨ad, u, rfl, _, hu, hcell⟩ := hr.at_ hlt
   rw [ic_get ms k hkz] at hu
   injection hu with hu
   subst hu
   have hd := HR.out
   rw [List.drop_eq_getElem_cons hkz] at hd
   obtain ⟨z, hz⟩ : ∃ z, z = ms[k] := ⟨_, rfl⟩
   rw [← hz] at hcell hd
   clear hz HR
   have hc := rHas_any B m d rs z w hr2 hm2
   unfold QM.within at hd
   rw [List.all_cons] at hd
   rcases hb : QM.has rs z with _ | _
   ·rw [hb] at hd hc
    have hd' : false = r := by simpa using hd
    have HD := h! hd'
    have HC := h! hc
    clear hd hc hd' hb
    go_wp2_with fail
    refine HC.out.mono ?_
    rintro e w1 ⟨rfl, rfl⟩
    go_wp2
    go_ret
    exact ⟨ret_eq HD.out, rfl⟩
   ·rw [hb] at hd hc
    have hd' : QM.within (ms.drop (k + 1)) rs = r := by unfold QM.within; simpa using hd
    have HD := h! hd'
    have HC := h! hc
    clear hd hc hd' hb
    go_wp2_with fail
    refine HC.out.mono ?_
    rintro e w1 ⟨rfl, rfl⟩
    go_wp2
    go_round
    case rel => exact ⟨k + 1, by omega, by go_num, HD⟩
    case measure => simp [intOf]; omega
  ·have hd := HR.out
   rw [List.drop_of_length_le (by have := HL.out; omega)] at hd
   have hd' : true = r := by rw [← hd]; rfl
   clear hd
   have HD := h! hd'; clear hd'
   go_wp2
   go_ret
   exact ⟨ret_eq HD.out, rfl⟩
set_option maxHeartbeats 1000000 in
theorem rCounts_any (A : Option Addr) (n c : Nat) (ms : List Int) (B : Option Addr) (m d : Nat) (rs : List Int) (w : World) (hr : Rd w A n (ic ms)) (hm : n ≤ 9223372036854775807) (hr2 : Rd w B m (ic rs)) (hm2 : m ≤ 9223372036854775807) :
  Calls Tryz.prog 72 #[.slice A n c, .slice B m d] w fun e w' => e = .returned (.bool (decide (n / 2 + 1 ≤ QM.cnt ms rs))) ∧ w = w' := by
 have hl : ms.length = n := by have := hr.1; rwa [ic_length] at this
 have HL := h! hl; clear hl
 go_enter Tryz.func72, Tryz.ntmps72
 go_wp2
 go_loop [5, 6] (fun s i => ∃ k q : Nat, k ≤ n ∧ q ≤ k ∧ i = .int .i64 k ∧ s = .int .i64 q ∧ Hid (q = QM.cnt (ms.take k) rs)) (fun _ i => n - (intOf i).toNat)
 case atStart => exact ⟨0, 0, by omega, by omega, rfl, rfl, h! rfl⟩
 case round =>
  obtain ⟨k, q, hk, hq, rfl, rfl, HR⟩ := hrel
  by_cases hlt : k < n
  ·have hkz : k < ms.length := by have := HL.out; omega
   obtain ⟨ad, u, rfl, _, hu, hcell⟩ := hr.at_ hlt
   rw [ic_get ms k hkz] at hu
   injection hu with hu
   subst hu
   have hd := QM.cnt_snoc ms rs k hkz
   rw [← HR.out] at hd
   obtain ⟨z, hz⟩ : ∃ z, z = ms[k] := ⟨_, rfl⟩
   rw [← hz] at hcell hd
   clear hz HR
   have hc := rHas_any B m d rs z w hr2 hm2
   rcases hb : QM.has rs z with _ | _
   ·rw [hb] at hd hc
    have hd' : q = QM.cnt (ms.take (k + 1)) rs := by rw [hd]; simp
    have HD := h! hd'
    have HC := h! hc
    clear hd hc hd' hb
    go_wp2_with fail
    refine HC.out.mono ?_
    rintro e w1 ⟨rfl, rfl⟩
    go_wp2
    go_round
    case rel => exact ⟨k + 1, q, by omega, by omega, by go_num, rfl, HD⟩
    case measure => simp [intOf]; omega
   ·rw [hb] at hd hc
    have hd' : q + 1 = QM.cnt (ms.take (k + 1)) rs := by rw [hd]; simp
    have HD := h! hd'
    have HC := h! hc
    clear hd hc hd' hb
    go_wp2_with fail
    refine HC.out.mono ?_
    rintro e w1 ⟨rfl, rfl⟩
    go_wp2
    go_round
    case rel => exact ⟨k + 1, q + 1, by omega, by omega, by go_num, by go_num, HD⟩
    case measure => simp [intOf]; omega
  ·obtain rfl : k = n := by omega
   have hd : q = QM.cnt ms rs := by have := HR.out; rw [List.take_of_length_le (by have := HL.out; omega)] at this; exact this
   have HD := h! hd; clear hd
   go_wp2
   go_ret
   exact ⟨ret_eq (by rw [← HD.out, Bool.eq_iff_iff]; simp; omega), rfl⟩
end Go.Proofs.YtiiobafcgdelmaaGreat
