/-
  Package decree's sendAll; what an append to the choices leaves. Conditions: as each theorem says.
  Package decree's world in memory, and an attempt or a vote of it stored anew. No walk.
-/
import Derived.Test.YtiiobafcgdelmaaK18
namespace Go.Proofs.Ytiiobafcgdelmaa.PD
open Go.RowKit Go.Shelf
set_option linter.unusedVariables false
set_option linter.unusedSimpArgs false

/-- block g holds a world whose rows lie from block 'base' on -/
def WdAt (W : World) (base g : Nat) (w : DC.Wd) : Prop :=
  ∃ A0 c0 A1 c1 A2 c2 A3 c3 A4 c4 xs, base ≤ g ∧ Box W g 58 #[.slice A0 w.ms.length c0, .slice A1 w.vs.length c1, .slice A2 w.ts.length c2, .slice A3 w.ml.length c3, .slice A4 w.ch.length c4] ∧
    W.ownsRow base 3 1 (.slice A0 w.ms.length c0) w.ms.length (ic w.ms) ∧
    W.ownsRow base 53 3 (.slice A1 w.vs.length c1) w.vs.length (flat vcell w.vs) ∧
    W.ownsRow base 49 7 (.slice A2 w.ts.length c2) w.ts.length xs ∧ TsRow W base xs w.ts ∧
    W.ownsRow base 40 10 (.slice A3 w.ml.length c3) w.ml.length (flat mcell w.ml) ∧
    W.ownsRow base 43 2 (.slice A4 w.ch.length c4) w.ch.length (flat ccell w.ch)
theorem WdAt.below {W W' : World} {base g : Nat} {w : DC.Wd} (h : WdAt W base g w) (hb : Below W.heap.size W W') : WdAt W' base g w := by
  obtain ⟨A0, c0, A1, c1, A2, c2, A3, c3, A4, c4, xs, hg, hx, o0, o1, o2, ht, o3, o4⟩ := h
  exact ⟨A0, c0, A1, c1, A2, c2, A3, c3, A4, c4, xs, hg, hx.below hb hx.lt, own_below3 o0 hb, own_below3 o1 hb, own_below3 o2 hb, ht.kept (S := fun _ => False) (Kept.of_below hb) id id, own_below3 o3 hb, own_below3 o4 hb⟩
theorem WdAt.lt {W : World} {base g : Nat} {w : DC.Wd} (h : WdAt W base g w) : base ≤ g ∧ g < W.heap.size := by
  obtain ⟨A0, c0, A1, c1, A2, c2, A3, c3, A4, c4, xs, hg, hx, _⟩ := h
  exact ⟨hg, hx.lt⟩
def isWM (e : TypeId) : Prop := e = 58 ∨ e = 40
def isWC (e : TypeId) : Prop := e = 58 ∨ e = 43
/-- the word of others' loop -/
def OthRel (W : World) (base g : Nat) (w : DC.Wd) (m : DC.Ml) (j : Nat) (wr : World) : Prop :=
  (∃ tt, Box wr W.heap.size 40 (mcell { m with t := tt }).toArray) ∧ WdAt wr base g ⟨w.ms, w.vs, w.ts, w.ml ++ DC.others (w.ms.take j) m, w.ch⟩ ∧
  (∀ v, wr.cell? ⟨g, 3, none⟩ = some v → v.ownBlock ≠ some W.heap.size) ∧ Kept isWM W wr ∧ Below base W wr
theorem OthRel.below {W wr wr' : World} {base g j : Nat} {w : DC.Wd} {m : DC.Ml} (h : OthRel W base g w m j wr) (hb : Below wr.heap.size wr wr') (hbase : base ≤ W.heap.size) : OthRel W base g w m j wr' := by
  obtain ⟨⟨tt, hN⟩, hW, hap, hk, hbl⟩ := h
  refine ⟨⟨tt, hN.below hb hN.lt⟩, hW.below hb, fun v hv => hap v ?_, hk.more hb, bmore hbl hb hbase⟩
  rwa [hb.cell (show (⟨g, 3, none⟩ : Addr).block < wr.heap.size from hW.lt.2)] at hv
theorem oth_next {W u w9 : World} {base g j ML : Nat} {w : DC.Wd} {m : DC.Ml} {l : List DC.Ml} {y : Int} {A0 A1 A2 A3 A4 A9 : Option Addr} {c0 c1 c2 c3 c4 c9 : Nat} {xs : List Value}
    (hy : w.ms[j]? = some y) (hyf : y ≠ m.f) (hl : l = w.ml ++ DC.others (w.ms.take j) m) (hML : l.length = ML) (hbase : base ≤ W.heap.size) (hg : base ≤ g) (hgN : g < W.heap.size)
    (hN : Box u W.heap.size 40 (mcell { m with t := y }).toArray) (hx : Box u g 58 #[.slice A0 w.ms.length c0, .slice A1 w.vs.length c1, .slice A2 w.ts.length c2, .slice A3 ML c3, .slice A4 w.ch.length c4])
    (o0 : u.ownsRow base 3 1 (.slice A0 w.ms.length c0) w.ms.length (ic w.ms)) (o1 : u.ownsRow base 53 3 (.slice A1 w.vs.length c1) w.vs.length (flat vcell w.vs))
    (o2 : u.ownsRow base 49 7 (.slice A2 w.ts.length c2) w.ts.length xs) (ht : TsRow u base xs w.ts) (o3 : u.ownsRow base 40 10 (.slice A3 ML c3) ML (flat mcell l)) (o4 : u.ownsRow base 43 2 (.slice A4 w.ch.length c4) w.ch.length (flat ccell w.ch))
    (hap : (Value.slice A3 ML c3).ownBlock ≠ some W.heap.size) (hk : Kept isWM W u) (hb : Below base W u)
    (hg9 : (u.drew.alloc (.cells (mcell { m with t := y }).toArray 40)).grownBy w9 (Value.slice A3 ML c3).ownBlock) (o9 : w9.ownsRow base 40 10 (.slice A9 (ML + 1) c9) (ML + 1) (flat mcell l ++ mcell { m with t := y }))
    (hob : (Value.slice A9 (ML + 1) c9).ownBlock = (Value.slice A3 ML c3).ownBlock ∨ (Value.slice A9 (ML + 1) c9).ownBlock = some (u.drew.alloc (.cells (mcell { m with t := y }).toArray 40)).heap.size) :
    OthRel W base g w m (j + 1) (w9.setCell ⟨g, 3, none⟩ (.slice A9 (ML + 1) c9)) := by
  have hal : Below u.heap.size u (u.drew.alloc (.cells (mcell { m with t := y }).toArray 40)) := (Below.refl _ _).drew.alloc (Nat.le_refl _) _
  have k1 : Kept isWM u (u.drew.alloc (.cells (mcell { m with t := y }).toArray 40)) := Kept.of_below hal
  have q3 := own_below3 o3 hal
  have k2 : Kept isWM (u.drew.alloc (.cells (mcell { m with t := y }).toArray 40)) w9 := Kept.grown q3 (.inr rfl) hg9
  have hx9 : Box w9 g 58 _ := (hx.below hal hx.lt).grown hg9 (fun e => by
    obtain ⟨_, cur, hc⟩ := own_block q3 e.symm
    have := hx.below hal hx.lt
    rw [Box] at this hc
    rw [hc] at this
    injection this with this
    injection this with _ this
    exact absurd this (by decide))
  have k3 : Kept isWM w9 (w9.setCell ⟨g, 3, none⟩ (.slice A9 (ML + 1) c9)) := Kept.set hx9 (.inl rfl) _
  have kk := (k1.trans k2).trans k3
  have hNs := hN.lt
  have hN9 : Box w9 W.heap.size 40 _ := (hN.below hal hN.lt).grown hg9 (fun e => hap e.symm)
  have nI : ¬ isWM 3 := by unfold isWM; decide
  have nP : ¬ isWM 79 := by unfold isWM; decide
  have nV : ¬ isWM 53 := by unfold isWM; decide
  have nA : ¬ isWM 49 := by unfold isWM; decide
  have nC : ¬ isWM 43 := by unfold isWM; decide
  have hlen : (w.ml ++ DC.others (w.ms.take (j + 1)) m).length = ML + 1 := by
    rw [others_snoc _ _ hy, if_neg hyf, ← List.append_assoc, ← hl, List.length_append, hML]
    rfl
  have hrow : flat mcell (w.ml ++ DC.others (w.ms.take (j + 1)) m) = flat mcell l ++ mcell { m with t := y } := by
    rw [others_snoc _ _ hy, if_neg hyf, ← List.append_assoc, ← hl, flat_append, flat_one]
  refine ⟨⟨y, hN9.far (p := ⟨g, 3, none⟩) (by show W.heap.size ≠ g; omega) _⟩, ⟨A0, c0, A1, c1, A2, c2, A9, c9, A4, c4, xs, hg, ?_, kk.own o0 nI, kk.own o1 nV, kk.own o2 nA, ht.kept kk nI nP, ?_, kk.own o4 nC⟩, fun v hv => ?_, hk.trans kk, ?_⟩
  · show Box _ g 58 #[_, _, _, .slice A9 (w.ml ++ DC.others (w.ms.take (j + 1)) m).length c9, _]
    rw [hlen]
    simpa using hx9.stored 3 (.slice A9 (ML + 1) c9)
  · show World.ownsRow _ base _ 10 (.slice A9 (w.ml ++ DC.others (w.ms.take (j + 1)) m).length c9) (w.ml ++ DC.others (w.ms.take (j + 1)) m).length (flat mcell (w.ml ++ DC.others (w.ms.take (j + 1)) m))
    rw [hlen, hrow]
    exact own_setother o9 hx9 (by decide) _
  · have hs := (hx9.stored 3 (.slice A9 (ML + 1) c9)).cell 3
    simp at hs
    rw [hs] at hv
    injection hv with hv
    subst hv
    rcases hob with e | e
    · rw [e]; exact hap
    · rw [e]
      intro e2
      injection e2 with e2
      have hsz := hal.size
      have h1 : (u.drew.alloc (.cells (mcell { m with t := y }).toArray 40)).heap.size = u.heap.size + 1 := by simp
      omega
  · have h1 : Below base W w9 := (bmore hb hal hbase).grown hg9 (Nat.le_trans hbase (Nat.le_trans hb.size hal.size)) (fun q hq => (own_block q3 hq).1)
    exact h1.setCell (p := ⟨g, 3, none⟩) hg _
def OthPost (base g : Nat) (w : DC.Wd) (m : DC.Ml) (W : World) (e : Ending) (W' : World) : Prop :=
  e = .returned (.tuple #[]) ∧ WdAt W' base g ⟨w.ms, w.vs, w.ts, w.ml ++ DC.others w.ms m, w.ch⟩ ∧ Kept isWM W W' ∧ Below base W W'
set_option maxRecDepth 100000 in
set_option maxHeartbeats 4000000 in
theorem sendAll_any (base g : Nat) (w : DC.Wd) (m : DC.Ml) (W : World) (H : WdAt W base g w) (hbase : base ≤ W.heap.size) (hn : w.ms.length ≤ 2000) (hl : w.ml.length ≤ 2000) :
    Calls Try.prog 43 #[.pointer (some ⟨g, 0, none⟩), .agg #[.int .i64 m.f, .int .i64 m.t, .int .u8 m.k, .int .i64 m.g, .int .i64 m.s, .int .i64 m.b, .int .i64 m.p, .string m.v, .int .i64 m.i, .int .i64 m.m]] W (OthPost base g w m W) := by
  obtain ⟨i0, hi, hz0, hz1, hz2⟩ := info_parts info_mail
  have hlt := H.lt
  have hgg := Lib.hid hlt.1
  have hgN := Lib.hid hlt.2
  have hst : OthRel W base g w m 0 (W.alloc (.cells #[.int .i64 m.f, .int .i64 m.t, .int .u8 m.k, .int .i64 m.g, .int .i64 m.s, .int .i64 m.b, .int .i64 m.p, .string m.v, .int .i64 m.i, .int .i64 m.m] 40)) := by
    have hal : Below W.heap.size W (W.alloc (.cells #[.int .i64 m.f, .int .i64 m.t, .int .u8 m.k, .int .i64 m.g, .int .i64 m.s, .int .i64 m.b, .int .i64 m.p, .string m.v, .int .i64 m.i, .int .i64 m.m] 40)) := (Below.refl _ _).alloc (Nat.le_refl _) _
    refine ⟨⟨m.t, Box.new _ _ _⟩, ?_, fun v hv => ?_, Kept.of_below hal, (Below.refl _ _).alloc hbase _⟩
    · have := H.below hal
      simpa [DC.others] using this
    · rw [hal.cell (show (⟨g, 3, none⟩ : Addr).block < W.heap.size from hlt.2)] at hv
      obtain ⟨A0, c0, A1, c1, A2, c2, A3, c3, A4, c4, xs, _, hx, _, _, _, _, o3, _⟩ := H
      have := hx.five.1.2.2.2.1
      rw [this] at hv
      injection hv with hv
      subst hv
      intro e
      obtain ⟨_, cur, hc⟩ := own_block o3 e
      have := hc.lt
      omega
  have HS := Lib.hid hst
  have HBS := Lib.hid hbase
  have HLM : Hid (∀ j, (w.ml ++ DC.others (w.ms.take j) m).length ≤ 4000) := Lib.hid fun j => by
    have := DC.others_len (w.ms.take j) m
    rw [List.length_append]
    have h2 : (w.ms.take j).length ≤ w.ms.length := by rw [List.length_take]; omega
    omega
  obtain ⟨B0, d0, B1, d1, B2, d2, B3, d3, B4, d4, ys, _, hxi, oi, _⟩ := H
  have OI := Lib.hid oi
  have nI0 : ¬ isWM 3 := by unfold isWM; decide
  obtain ⟨⟨z0, _⟩, _⟩ := (hxi.below ((Below.refl W.heap.size W).alloc (Nat.le_refl _) (.cells #[.int .i64 m.f, .int .i64 m.t, .int .u8 m.k, .int .i64 m.g, .int .i64 m.s, .int .i64 m.b, .int .i64 m.p, .string m.v, .int .i64 m.i, .int .i64 m.m] 40)) hxi.lt).five
  clear hst hlt hbase hl hxi oi
  go_enter Try.func43, Try.ntmps43
  go_wp2_with fail
  generalize W.alloc (.cells #[.int .i64 m.f, .int .i64 m.t, .int .u8 m.k, .int .i64 m.g, .int .i64 m.s, .int .i64 m.b, .int .i64 m.p, .string m.v, .int .i64 m.i, .int .i64 m.m] 40) = W1 at HS ⊢
  go_loopw [11] (fun i wr => ∃ j : Nat, j ≤ w.ms.length ∧ i = .int .i64 j ∧ Hid (OthRel W base g w m j wr)) (fun i _ => w.ms.length - (intOf i).toNat)
  case atStart => exact ⟨0, by omega, rfl, HS⟩
  case round =>
    clear HS z0
    obtain ⟨j, hj, rfl, HT⟩ := hrel
    obtain ⟨⟨tt, hN⟩, ⟨A0, c0, A1, c1, A2, c2, A3, c3, A4, c4, xs, _, hx, o0, o1, o2, ht, o3, o4⟩, hap, hk, hbl⟩ := HT.out
    simp only at hx o0 o1 o2 ht o3 o4
    obtain ⟨ML, hML⟩ : ∃ ML, ML = (w.ml ++ DC.others (w.ms.take j) m).length := ⟨_, rfl⟩
    rw [← hML] at hx o3
    have hap3 := hap _ hx.five.1.2.2.2.1
    have hlm := HLM.out j
    rw [← hML] at hlm
    have HX := Lib.hid hx
    have HN := Lib.hid hN
    have H0 := Lib.hid o0
    have H1 := Lib.hid o1
    have H2 := Lib.hid o2
    have H3 := Lib.hid o3
    have H4 := Lib.hid o4
    have HTS := Lib.hid ht
    have HAP := Lib.hid hap3
    have HK := Lib.hid hk
    have HB := Lib.hid hbl
    have HML := Lib.hid hML
    clear hx hN o0 o1 o2 o3 o4 ht hap hap3 hk hbl hML
    obtain ⟨⟨g0, g1, g2, g3, g4⟩, _⟩ := HX.out.five
    by_cases hlt : j < w.ms.length
    · obtain ⟨ad, u1, e0, _, hu1, hc1⟩ := (Rd.of_own (HK.out.own OI.out nI0)).at_ hlt
      subst e0
      obtain ⟨y, hy, rfl⟩ := ic_at hu1
      have i0' : (0 : Int) ≤ (j : Int) := by omega
      have i1' : (j : Int) < (w.ms.length : Int) := by omega
      have HY := Lib.hid hy
      obtain ⟨n0, n1, n2, n3, n4, n5, n6, n7, n8, n9⟩ := (show Box wr W.heap.size 40 #[.int .i64 m.f, .int .i64 tt, .int .u8 m.k, .int .i64 m.g, .int .i64 m.s, .int .i64 m.b, .int .i64 m.p, .string m.v, .int .i64 m.i, .int .i64 m.m] from HN.out).ten
      clear hu1 hy
      by_cases hyf : y = m.f
      · have e1 : (y != m.f) = false := by simpa using hyf
        have HF := Lib.hid hyf
        clear hyf
        go_wp2_with fail
        go_roundw
        case rel => exact ⟨j + 1, by omega, by go_num, Lib.hid (by
          obtain ⟨r1, r2, r3, r4, r5⟩ := HT.out
          refine ⟨r1, ?_, r3, r4, r5⟩
          rw [others_snoc _ _ HY.out, if_pos HF.out, List.append_nil]
          exact r2)⟩
        case measure => simp [intOf]; omega
      · have e1 : (y != m.f) = true := by simpa using hyf
        have HF := Lib.hid hyf
        clear hyf
        have nf1 := HN.out.frozen 1
        go_upto_region 6 with (fail)
        clear g0 g1 g2 g3 g4 n0 n1 n2 n3 n4 n5 n6 n7 n8 n9 nf1 hc1
        have hbd : Below wr.heap.size wr wr := Below.refl _ _
        have hNd : Box wr W.heap.size 40 (mcell { (⟨m.f, m.t, m.k, m.g, m.s, m.b, m.p, m.v, m.i, m.m⟩ : DC.Ml) with t := tt }).toArray := HN.out
        have ks : Kept isWM wr (wr.setCell ⟨W.heap.size, 1, none⟩ (.int .i64 y)) := Kept.set hNd (.inr rfl) _
        have NU := Lib.hid (show Box (wr.setCell ⟨W.heap.size, 1, none⟩ (.int .i64 y)) W.heap.size 40 (mcell { m with t := y }).toArray by simpa [mcell] using hNd.stored 1 (.int .i64 y))
        have XU := Lib.hid ((show Box wr g 58 _ from HX.out).far (p := ⟨W.heap.size, 1, none⟩) (by have := hgN.out; show g ≠ W.heap.size; omega) (.int .i64 y))
        have nI : ¬ isWM 3 := by unfold isWM; decide
        have nP : ¬ isWM 79 := by unfold isWM; decide
        have U0 := Lib.hid (ks.own (own_below3 H0.out hbd) nI)
        have U1 := Lib.hid (ks.own (own_below3 H1.out hbd) (by unfold isWM; decide))
        have U2 := Lib.hid (ks.own (own_below3 H2.out hbd) (by unfold isWM; decide))
        have U4 := Lib.hid (ks.own (own_below3 H4.out hbd) (by unfold isWM; decide))
        have U3 := Lib.hid (ownsRow_setCell_other (own_below3 H3.out hbd) (a := ⟨W.heap.size, 1, none⟩) HAP.out (.int .i64 y))
        have UT := Lib.hid ((HTS.out.kept (S := isWM) (Kept.of_below hbd) nI nP).kept ks nI nP)
        have UK := Lib.hid ((HK.out.more hbd).trans ks)
        have UB := Lib.hid ((bmore HB.out hbd HBS.out).setCell (p := ⟨W.heap.size, 1, none⟩) HBS.out (.int .i64 y))
        clear hNd ks hbd HX HN H0 H1 H2 H3 H4 HTS HK HB HT
        generalize wr.setCell ⟨W.heap.size, 1, none⟩ (.int .i64 y) = u at NU XU U0 U1 U2 U3 U4 UT UK UB ⊢
        have hroom := UB.out.size
        have hal : Below u.heap.size u (u.alloc (.cells #[.int .i64 m.f, .int .i64 y, .int .u8 m.k, .int .i64 m.g, .int .i64 m.s, .int .i64 m.b, .int .i64 m.p, .string m.v, .int .i64 m.i, .int .i64 m.m] 40)) := (Below.refl _ _).alloc (Nat.le_refl _) _
        have O3a := Lib.hid (own_below3 U3.out hal)
        have HR2 := Lib.hid (rdG_box (s := 10) (n := 1) (Box.new u 40 #[.int .i64 m.f, .int .i64 y, .int .u8 m.k, .int .i64 m.g, .int .i64 m.s, .int .i64 m.b, .int .i64 m.p, .string m.v, .int .i64 m.i, .int .i64 m.m]) rfl rfl)
        have hbz : base ≤ (u.alloc (.cells #[.int .i64 m.f, .int .i64 y, .int .u8 m.k, .int .i64 m.g, .int .i64 m.s, .int .i64 m.b, .int .i64 m.p, .string m.v, .int .i64 m.i, .int .i64 m.m] 40)).heap.size := by have := HBS.out; have := UB.out.size; have := hal.size; omega
        have mixed : Try.prog.follows Departure.mixedOrders = true := by kernel_rfl
        have XA := Lib.hid (XU.out.below hal XU.out.lt)
        obtain ⟨⟨g0, g1, g2, g3, g4⟩, _⟩ := XU.out.five
        obtain ⟨⟨y0, y1, y2, y3, y4⟩, _⟩ := XA.out.five
        obtain ⟨n0, n1, n2, n3, n4, n5, n6, n7, n8, n9⟩ := (show Box u W.heap.size 40 #[.int .i64 m.f, .int .i64 y, .int .u8 m.k, .int .i64 m.g, .int .i64 m.s, .int .i64 m.b, .int .i64 m.p, .string m.v, .int .i64 m.i, .int .i64 m.m] from NU.out).ten
        go_region_law_o (refine step_append_h rfl (.tmp 25) (.tmp 27) 25 rfl base 40 i0 _ 10 88 Try.underlying25 hi hz0 hz1 hz2 rfl (by omega) (.slice A3 ML c3) ML _ (by simp [Act.eval, Act.put]) O3a.out (some ⟨u.heap.size, 0, none⟩) 1 1 _ (by simp [Act.eval, Act.put]) HR2.out (by intro x hx; simp at hx; rcases hx with rfl | rfl | rfl | rfl | rfl | rfl | rfl | rfl | rfl | rfl <;> rfl) (by unfold maxLen; omega) (by omega) hbz ?_; intro v9 w9 o9 g9 hob9; obtain ⟨A9, c9, rfl, _, _⟩ := own_form o9; obtain ⟨_, z0, z1, z2, z3, z4⟩ := (XA.out.drew.grown g9 (fun e => by obtain ⟨_, cur, hc⟩ := own_block O3a.out e.symm; have := XA.out; rw [Box] at this hc; rw [hc] at this; injection this with this; injection this with _ this; exact absurd this (by decide))).five)
        all_goals
          have HF9 := Lib.hid (oth_next HY.out HF.out rfl HML.out.symm HBS.out hgg.out hgN.out NU.out XU.out U0.out U1.out U2.out UT.out U3.out U4.out HAP.out UK.out UB.out g9 o9 hob9)
          clear o9 g9 hob9
          clear g0 g1 g2 g3 g4 y0 y1 y2 y3 y4 n0 n1 n2 n3 n4 n5 n6 n7 n8 n9
          go_wp2_with fail
          go_roundw
          case rel => exact ⟨j + 1, by omega, by go_num, HF9⟩
          case measure => simp [intOf]; omega
    · obtain rfl : w.ms.length = j := by omega
      have HF : Hid (OthPost base g w m W (.returned (.tuple #[])) wr) := Lib.hid (by
        obtain ⟨_, r2, _, r4, r5⟩ := HT.out
        rw [List.take_length] at r2
        exact ⟨rfl, r2, r4, r5⟩)
      go_wp2_with fail
      go_end0
      exact HF.out

def FndPost (base g : Nat) (w : DC.Wd) (n was : Int) (W : World) (e : Ending) (W' : World) : Prop :=
  e = .returned (.tuple #[]) ∧ WdAt W' base g ⟨w.ms, w.vs, w.ts, w.ml, w.ch ++ DC.found n was (DC.getT w n)⟩ ∧ Kept isWC W W' ∧ Below base W W'
theorem fnd_next {u w9 : World} {base g ML : Nat} {w : DC.Wd} {n was : Int} {c : DC.Ch} {A0 A1 A2 A3 A4 A9 : Option Addr} {c0 c1 c2 c3 c4 c9 : Nat} {xs : List Value}
    (hc : DC.found n was (DC.getT w n) = [c]) (hML : w.ch.length = ML) (hbase : base ≤ u.heap.size) (hg : base ≤ g)
    (hx : Box u g 58 #[.slice A0 w.ms.length c0, .slice A1 w.vs.length c1, .slice A2 w.ts.length c2, .slice A3 w.ml.length c3, .slice A4 ML c4])
    (o0 : u.ownsRow base 3 1 (.slice A0 w.ms.length c0) w.ms.length (ic w.ms)) (o1 : u.ownsRow base 53 3 (.slice A1 w.vs.length c1) w.vs.length (flat vcell w.vs))
    (o2 : u.ownsRow base 49 7 (.slice A2 w.ts.length c2) w.ts.length xs) (ht : TsRow u base xs w.ts) (o3 : u.ownsRow base 40 10 (.slice A3 w.ml.length c3) w.ml.length (flat mcell w.ml)) (o4 : u.ownsRow base 43 2 (.slice A4 ML c4) ML (flat ccell w.ch))
    (hg9 : (u.alloc (.cells (ccell c).toArray 43)).drew.grownBy w9 (Value.slice A4 ML c4).ownBlock) (o9 : w9.ownsRow base 43 2 (.slice A9 (ML + 1) c9) (ML + 1) (flat ccell w.ch ++ ccell c)) :
    FndPost base g w n was u (.returned (.tuple #[])) (w9.setCell ⟨g, 4, none⟩ (.slice A9 (ML + 1) c9)) := by
  have hal : Below u.heap.size u (u.alloc (.cells (ccell c).toArray 43)).drew := ((Below.refl _ _).alloc (Nat.le_refl _) _).drew
  have k1 : Kept isWC u (u.alloc (.cells (ccell c).toArray 43)).drew := Kept.of_below hal
  have q4 := own_below3 o4 hal
  have k2 : Kept isWC (u.alloc (.cells (ccell c).toArray 43)).drew w9 := Kept.grown q4 (.inr rfl) hg9
  have hx9 : Box w9 g 58 _ := (hx.below hal hx.lt).grown hg9 (fun e => by
    obtain ⟨_, cur, hc⟩ := own_block q4 e.symm
    have := hx.below hal hx.lt
    rw [Box] at this hc
    rw [hc] at this
    injection this with this
    injection this with _ this
    exact absurd this (by decide))
  have k3 : Kept isWC w9 (w9.setCell ⟨g, 4, none⟩ (.slice A9 (ML + 1) c9)) := Kept.set hx9 (.inl rfl) _
  have kk := (k1.trans k2).trans k3
  have nI : ¬ isWC 3 := by unfold isWC; decide
  have nP : ¬ isWC 79 := by unfold isWC; decide
  have hlen : (w.ch ++ [c]).length = ML + 1 := by rw [List.length_append, hML]; rfl
  have hrow : flat ccell (w.ch ++ [c]) = flat ccell w.ch ++ ccell c := by rw [flat_append, flat_one]
  unfold FndPost
  rw [hc]
  refine ⟨rfl, ⟨A0, c0, A1, c1, A2, c2, A3, c3, A9, c9, xs, hg, ?_, kk.own o0 nI, kk.own o1 (by unfold isWC; decide), kk.own o2 (by unfold isWC; decide), ht.kept kk nI nP, kk.own o3 (by unfold isWC; decide), ?_⟩, kk, ?_⟩
  · show Box _ g 58 #[_, _, _, _, .slice A9 (w.ch ++ [c]).length c9]
    rw [hlen]
    simpa using hx9.stored 4 (.slice A9 (ML + 1) c9)
  · show World.ownsRow _ base _ 2 (.slice A9 (w.ch ++ [c]).length c9) (w.ch ++ [c]).length (flat ccell (w.ch ++ [c]))
    rw [hlen, hrow]
    exact own_setother o9 hx9 (by decide) _
  · have h1 : Below base u w9 := (hal.mono hbase).grown hg9 (Nat.le_trans hbase hal.size) (fun q hq => (own_block q4 hq).1)
    exact h1.setCell (p := ⟨g, 4, none⟩) hg _
end Go.Proofs.Ytiiobafcgdelmaa.PD

namespace Go.Proofs.Ytiiobafcgdelmaa.PD
open Go.RowKit
set_option linter.unusedVariables false
set_option linter.unusedSimpArgs false

def isTk (e : TypeId) : Prop := e = 58 ∨ e = 40 ∨ e = 43 ∨ e = 49 ∨ e = 53
section
variable {W : World} {base g i q : Nat} {w : DC.Wd} {A0 A1 A2 A3 A4 : Option Addr} {c0 c1 c2 c3 c4 : Nat} {xs : List Value}
/-- an attempt of the world stored anew -/
theorem wd_setT {t : AM.At} {x0 x1 x2 x3 x4 x5 x6 : Value} (hg : base ≤ g) (hx : Box W g 58 #[.slice A0 w.ms.length c0, .slice A1 w.vs.length c1, .slice (some ⟨q, 0, none⟩) w.ts.length c2, .slice A3 w.ml.length c3, .slice A4 w.ch.length c4])
    (o0 : W.ownsRow base 3 1 (.slice A0 w.ms.length c0) w.ms.length (ic w.ms)) (o1 : W.ownsRow base 53 3 (.slice A1 w.vs.length c1) w.vs.length (flat vcell w.vs))
    (o2 : W.ownsRow base 49 7 (.slice (some ⟨q, 0, none⟩) w.ts.length c2) w.ts.length xs) (ht : TsRow W base xs w.ts) (o3 : W.ownsRow base 40 10 (.slice A3 w.ml.length c3) w.ml.length (flat mcell w.ml)) (o4 : W.ownsRow base 43 2 (.slice A4 w.ch.length c4) w.ch.length (flat ccell w.ch))
    (hi : i < w.ts.length) (ho : AtOwn W base (.agg #[x0, x1, x2, x3, x4, x5, x6]) t) :
    WdAt (putAt7 W q (i * 7) x0 x1 x2 x3 x4 x5 x6) base g ⟨w.ms, w.vs, w.ts.set i t, w.ml, w.ch⟩ ∧ Kept isA W (putAt7 W q (i * 7) x0 x1 x2 x3 x4 x5 x6) ∧ Below base W (putAt7 W q (i * 7) x0 x1 x2 x3 x4 x5 x6) := by
  have hqb := (own_block o2 (show (Value.slice (some ⟨q, 0, none⟩) w.ts.length c2).ownBlock = some q from rfl)).1
  obtain ⟨o2', kk⟩ := own_at7 (o := i * 7) (S := isA) o2 (by omega) rfl x0 x1 x2 x3 x4 x5 x6
  have nI : ¬ isA 3 := by unfold isA; decide
  have nP : ¬ isA 79 := by unfold isA; decide
  have ht' := (ht.set hi ho).kept kk nI nP
  refine ⟨⟨A0, c0, A1, c1, some ⟨q, 0, none⟩, c2, A3, c3, A4, c4, _, hg, ?_, kk.own o0 nI, kk.own o1 (by unfold isA; decide), ?_, ht', kk.own o3 (by unfold isA; decide), kk.own o4 (by unfold isA; decide)⟩, kk, below_at7 ⟨rfl, rfl, rfl, Nat.le_refl _, fun _ _ => rfl⟩ hqb ..⟩
  · have := kk.box _ _ _ (by unfold isA; decide) hx
    simpa using this
  · show World.ownsRow _ base _ 7 (.slice (some ⟨q, 0, none⟩) (w.ts.set i t).length c2) (w.ts.set i t).length _
    rw [List.length_set]
    exact o2'
/-- a vote of the world stored anew -/
theorem wd_setV {v : DC.Vt} (hg : base ≤ g) (hx : Box W g 58 #[.slice A0 w.ms.length c0, .slice (some ⟨q, 0, none⟩) w.vs.length c1, .slice A2 w.ts.length c2, .slice A3 w.ml.length c3, .slice A4 w.ch.length c4])
    (o0 : W.ownsRow base 3 1 (.slice A0 w.ms.length c0) w.ms.length (ic w.ms)) (o1 : W.ownsRow base 53 3 (.slice (some ⟨q, 0, none⟩) w.vs.length c1) w.vs.length (flat vcell w.vs))
    (o2 : W.ownsRow base 49 7 (.slice A2 w.ts.length c2) w.ts.length xs) (ht : TsRow W base xs w.ts) (o3 : W.ownsRow base 40 10 (.slice A3 w.ml.length c3) w.ml.length (flat mcell w.ml)) (o4 : W.ownsRow base 43 2 (.slice A4 w.ch.length c4) w.ch.length (flat ccell w.ch))
    (hi : i < w.vs.length) :
    WdAt (putAt3 W q (i * 3) (.int .i64 v.p) (.int .i64 v.b) (.string v.v)) base g ⟨w.ms, w.vs.set i v, w.ts, w.ml, w.ch⟩ ∧ Kept isV W (putAt3 W q (i * 3) (.int .i64 v.p) (.int .i64 v.b) (.string v.v)) ∧ Below base W (putAt3 W q (i * 3) (.int .i64 v.p) (.int .i64 v.b) (.string v.v)) := by
  have hqb := (own_block o1 (show (Value.slice (some ⟨q, 0, none⟩) w.vs.length c1).ownBlock = some q from rfl)).1
  obtain ⟨o1', kk⟩ := own_at3 (o := i * 3) (S := isV) o1 (by omega) rfl (.int .i64 v.p) (.int .i64 v.b) (.string v.v)
  have nI : ¬ isV 3 := by unfold isV; decide
  have nP : ¬ isV 79 := by unfold isV; decide
  refine ⟨⟨A0, c0, some ⟨q, 0, none⟩, c1, A2, c2, A3, c3, A4, c4, xs, hg, ?_, kk.own o0 nI, ?_, kk.own o2 (by unfold isV; decide), ht.kept kk nI nP, kk.own o3 (by unfold isV; decide), kk.own o4 (by unfold isV; decide)⟩, kk, below_at3 ⟨rfl, rfl, rfl, Nat.le_refl _, fun _ _ => rfl⟩ hqb ..⟩
  · have := kk.box _ _ _ (by unfold isV; decide) hx
    simpa using this
  · show World.ownsRow _ base _ 3 (.slice (some ⟨q, 0, none⟩) (w.vs.set i v).length c1) (w.vs.set i v).length (flat vcell (w.vs.set i v))
    rw [List.length_set, flat_set (s := 3) (fun _ _ => rfl) rfl hi]
    exact o1'
end
theorem tk_of_wm {e : TypeId} (h : isWM e) : isTk e := by rcases h with h | h; (· exact .inl h); (· exact .inr (.inl h))
theorem tk_of_wc {e : TypeId} (h : isWC e) : isTk e := by rcases h with h | h; (· exact .inl h); (· exact .inr (.inr (.inl h)))
theorem tk_of_a {e : TypeId} (h : isA e) : isTk e := .inr (.inr (.inr (.inl h)))
theorem tk_of_v {e : TypeId} (h : isV e) : isTk e := .inr (.inr (.inr (.inr h)))
/-- the world, and an attempt's variable beside it -/
def TkS (W : World) (base g : Nat) (w : DC.Wd) (gM : Nat) (a : AM.At) (A : Option Addr) (c : Nat) (D : Option Addr) (q : Nat) (C : Option Addr) (f : Nat) (wx : World) : Prop :=
  WdAt wx base g w ∧ TryVar wx base gM a A c D q C f ∧ Kept isTk W wx ∧ Below base W wx
section
variable {W wx wy : World} {base g : Nat} {w : DC.Wd} {gM : Nat} {a : AM.At} {A D C : Option Addr} {c q f : Nat}
theorem TkS.below (h : TkS W base g w gM a A c D q C f wx) (hb : Below wx.heap.size wx wy) (hbase : base ≤ W.heap.size) : TkS W base g w gM a A c D q C f wy :=
  ⟨h.1.below hb, ⟨h.2.1.1.below hb h.2.1.1.lt, h.2.1.2.below hb⟩, h.2.2.1.more hb, bmore h.2.2.2 hb hbase⟩
end
end Go.Proofs.Ytiiobafcgdelmaa.PD
