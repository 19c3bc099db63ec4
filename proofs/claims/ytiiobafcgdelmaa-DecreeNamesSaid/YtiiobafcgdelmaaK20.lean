/-
  Package decree's world in memory: a vote or an attempt of it stored anew, mail or a choice more. No walk.
  What package decree's accepted leaves: a node's attempt takes an acceptance. Conditions: the world may be.
-/
import Derived.Test.YtiiobafcgdelmaaK19
import Derived.Test.YtiiobafcgdelmaaK17
namespace Go.Proofs.Ytiiobafcgdelmaa.PD
open Go.RowKit
set_option linter.unusedVariables false
set_option linter.unusedSimpArgs false

/-- a vote stored anew, and what stays -/
theorem WdAt.storeV {U : World} {base g i : Nat} {w : DC.Wd} (h : WdAt U base g w) (hl : w.vs.length = 6) (hi : i < 6) :
    ∃ q1 c1, base ≤ q1 ∧ q1 < U.heap.size ∧ U.cell? ⟨g, 1, none⟩ = some (.slice (some ⟨q1, 0, none⟩) w.vs.length c1) ∧ U.there q1 (i * 3) 3 ∧
      (∀ v : DC.Vt, WdAt (putAt3 U q1 (i * 3) (.int .i64 v.p) (.int .i64 v.b) (.string v.v)) base g ⟨w.ms, w.vs.set i v, w.ts, w.ml, w.ch⟩ ∧ Kept isV U (putAt3 U q1 (i * 3) (.int .i64 v.p) (.int .i64 v.b) (.string v.v)) ∧
        Below base U (putAt3 U q1 (i * 3) (.int .i64 v.p) (.int .i64 v.b) (.string v.v)) ∧ (putAt3 U q1 (i * 3) (.int .i64 v.p) (.int .i64 v.b) (.string v.v)).cell? ⟨g, 1, none⟩ = some (.slice (some ⟨q1, 0, none⟩) w.vs.length c1)) ∧
      (∀ gv (cs : Array Value), Box U gv 53 cs → cs.size = 3 → ∀ x y z, Box (putAt3 U q1 (i * 3) x y z) gv 53 cs) := by
  obtain ⟨A0, c0, A1, c1, A2, c2, A3, c3, A4, c4, xs, hgb, hx, o0, o1, o2, ht, o3, o4⟩ := h
  obtain ⟨q3, rfl, hq3, _⟩ := own_some o1 (by omega)
  have hlt : q3 < U.heap.size := by obtain ⟨_, cur, hc⟩ := own_block o1 (show (Value.slice (some ⟨q3, 0, none⟩) w.vs.length c1).ownBlock = some q3 from rfl); exact hc.lt
  refine ⟨q3, c1, hq3, hlt, hx.five.1.2.1, there_own (o := i * 3) (k := 3) o1 (by omega), fun v => ?_, fun gv cs hb hc x y z => box_at3 hb (row_ne o1 (by omega) hb (by omega) hc) x y z⟩
  have hst := wd_setV (i := i) (v := v) hgb hx o0 o1 o2 ht o3 o4 (by omega)
  exact ⟨hst.1, hst.2.1, hst.2.2, (hst.2.1.box _ _ _ (by unfold isV; decide) hx).five.1.2.1⟩
/-- an attempt stored anew, and what stays -/
theorem WdAt.storeT {U : World} {base g i : Nat} {w : DC.Wd} (h : WdAt U base g w) (hl : w.ts.length = 6) (hi : i < 6) :
    ∃ q2 c2, base ≤ q2 ∧ q2 < U.heap.size ∧ U.cell? ⟨g, 2, none⟩ = some (.slice (some ⟨q2, 0, none⟩) w.ts.length c2) ∧ U.there q2 (i * 7) 7 ∧
      (∀ (a : AM.At) (x0 x1 x2 x3 x4 x5 x6 : Value), AtOwn U base (.agg #[x0, x1, x2, x3, x4, x5, x6]) a → WdAt (putAt7 U q2 (i * 7) x0 x1 x2 x3 x4 x5 x6) base g ⟨w.ms, w.vs, w.ts.set i a, w.ml, w.ch⟩ ∧ Kept isA U (putAt7 U q2 (i * 7) x0 x1 x2 x3 x4 x5 x6) ∧
        Below base U (putAt7 U q2 (i * 7) x0 x1 x2 x3 x4 x5 x6) ∧ (putAt7 U q2 (i * 7) x0 x1 x2 x3 x4 x5 x6).cell? ⟨g, 2, none⟩ = some (.slice (some ⟨q2, 0, none⟩) w.ts.length c2)) ∧
      (∀ gM (cs : Array Value), Box U gM 49 cs → cs.size = 7 → ∀ x0 x1 x2 x3 x4 x5 x6, Box (putAt7 U q2 (i * 7) x0 x1 x2 x3 x4 x5 x6) gM 49 cs) := by
  obtain ⟨A0, c0, A1, c1, A2, c2, A3, c3, A4, c4, xs, hgb, hx, o0, o1, o2, ht, o3, o4⟩ := h
  obtain ⟨q3, rfl, hq3, _⟩ := own_some o2 (by omega)
  have hlt : q3 < U.heap.size := by obtain ⟨_, cur, hc⟩ := own_block o2 (show (Value.slice (some ⟨q3, 0, none⟩) w.ts.length c2).ownBlock = some q3 from rfl); exact hc.lt
  refine ⟨q3, c2, hq3, hlt, hx.five.1.2.2.1, there_own (o := i * 7) (k := 7) o2 (by omega), fun a x0 x1 x2 x3 x4 x5 x6 ho => ?_, fun gv cs hb hc x0 x1 x2 x3 x4 x5 x6 => box_at7 hb (row_ne o2 (by omega) hb (by omega) hc) x0 x1 x2 x3 x4 x5 x6⟩
  have hst := wd_setT (i := i) (t := a) hgb hx o0 o1 o2 ht o3 o4 (by omega) ho
  exact ⟨hst.1, hst.2.1, hst.2.2, (hst.2.1.box _ _ _ (by unfold isA; decide) hx).five.1.2.2.1⟩
/-- an attempt, or a vote, in its row: its cells in whatever world lies above -/
theorem WdAt.try_ {U : World} {base g i : Nat} {w : DC.Wd} {t : AM.At} (h : WdAt U base g w) (hi : w.ts[i]? = some t) :
    ∃ q c x y z, AtOwn U base (.agg #[.int .u8 t.ph, .int .i64 t.ba, x, .string t.wi, .string t.va, y, z]) t ∧ ∀ w', Below U.heap.size U w' →
      (w'.cell? ⟨g, 2, none⟩ = some (.slice (some ⟨q, 0, none⟩) w.ts.length c) ∧ w'.cell? ⟨q, i * 7, none⟩ = some (.int .u8 t.ph) ∧ w'.cell? ⟨q, i * 7 + 1, none⟩ = some (.int .i64 t.ba) ∧ w'.cell? ⟨q, i * 7 + 2, none⟩ = some x ∧ w'.cell? ⟨q, i * 7 + 3, none⟩ = some (.string t.wi) ∧
        w'.cell? ⟨q, i * 7 + 4, none⟩ = some (.string t.va) ∧ w'.cell? ⟨q, i * 7 + 5, none⟩ = some y ∧ w'.cell? ⟨q, i * 7 + 6, none⟩ = some z) := by
  obtain ⟨A0, c0, A1, c1, A2, c2, A3, c3, A4, c4, xs, hgb, hx, o0, o1, o2, ht, o3, o4⟩ := h
  obtain ⟨q, x, y, z, rfl, hqb, hown, t0, t1, t2, t3, t4, t5, t6⟩ := try_cells o2 ht hi rfl
  have hblt : q < U.heap.size := by obtain ⟨_, cur, hc⟩ := own_block o2 (show (Value.slice (some ⟨q, 0, none⟩) w.ts.length c2).ownBlock = some q from rfl); exact hc.lt
  exact ⟨q, c2, x, y, z, hown, fun w' hb => ⟨(hx.below hb hx.lt).cell 2, (hb.cell hblt).trans t0, (hb.cell hblt).trans t1, (hb.cell hblt).trans t2, (hb.cell hblt).trans t3, (hb.cell hblt).trans t4, (hb.cell hblt).trans t5, (hb.cell hblt).trans t6⟩⟩
theorem WdAt.vote {U : World} {base g i : Nat} {w : DC.Wd} {v : DC.Vt} (h : WdAt U base g w) (hi : w.vs[i]? = some v) :
    ∃ q c, ∀ w', Below U.heap.size U w' → (w'.cell? ⟨g, 1, none⟩ = some (.slice (some ⟨q, 0, none⟩) w.vs.length c) ∧ w'.cell? ⟨q, i * 3, none⟩ = some (.int .i64 v.p) ∧ w'.cell? ⟨q, i * 3 + 1, none⟩ = some (.int .i64 v.b) ∧ w'.cell? ⟨q, i * 3 + 2, none⟩ = some (.string v.v)) := by
  obtain ⟨A0, c0, A1, c1, A2, c2, A3, c3, A4, c4, xs, hgb, hx, o0, o1, o2, ht, o3, o4⟩ := h
  obtain ⟨q1, rfl, hq1, v0, v1, v2⟩ := vote_cells o1 hi rfl
  have hblt : q1 < U.heap.size := by obtain ⟨_, cur, hc⟩ := own_block o1 (show (Value.slice (some ⟨q1, 0, none⟩) w.vs.length c1).ownBlock = some q1 from rfl); exact hc.lt
  exact ⟨q1, c1, fun w' hb => ⟨(hx.below hb hx.lt).cell 1, (hb.cell hblt).trans v0, (hb.cell hblt).trans v1, (hb.cell hblt).trans v2⟩⟩
theorem WdAt.mems {U : World} {base g : Nat} {w : DC.Wd} (h : WdAt U base g w) :
    ∃ A c, U.cell? ⟨g, 0, none⟩ = some (.slice A w.ms.length c) ∧ Rd U A w.ms.length (ic w.ms) := by
  obtain ⟨A0, c0, A1, c1, A2, c2, A3, c3, A4, c4, xs, hgb, hx, o0, o1, o2, ht, o3, o4⟩ := h
  exact ⟨A0, c0, hx.five.1.1, Rd.of_own o0⟩
/-- one choice more -/
theorem WdAt.addC {u w9 : World} {base g ML : Nat} {w : DC.Wd} {c : DC.Ch} {A0 A1 A2 A3 A4 A9 : Option Addr} {c0 c1 c2 c3 c4 c9 : Nat} {xs : List Value}
    (hML : w.ch.length = ML) (hbase : base ≤ u.heap.size) (hg : base ≤ g)
    (hx : Box u g 58 #[.slice A0 w.ms.length c0, .slice A1 w.vs.length c1, .slice A2 w.ts.length c2, .slice A3 w.ml.length c3, .slice A4 ML c4])
    (o0 : u.ownsRow base 3 1 (.slice A0 w.ms.length c0) w.ms.length (ic w.ms)) (o1 : u.ownsRow base 53 3 (.slice A1 w.vs.length c1) w.vs.length (flat vcell w.vs))
    (o2 : u.ownsRow base 49 7 (.slice A2 w.ts.length c2) w.ts.length xs) (ht : TsRow u base xs w.ts) (o3 : u.ownsRow base 40 10 (.slice A3 w.ml.length c3) w.ml.length (flat mcell w.ml)) (o4 : u.ownsRow base 43 2 (.slice A4 ML c4) ML (flat ccell w.ch))
    (hg9 : (u.alloc (.cells (ccell c).toArray 43)).drew.grownBy w9 (Value.slice A4 ML c4).ownBlock) (o9 : w9.ownsRow base 43 2 (.slice A9 (ML + 1) c9) (ML + 1) (flat ccell w.ch ++ ccell c)) :
    WdAt (w9.setCell ⟨g, 4, none⟩ (.slice A9 (ML + 1) c9)) base g ⟨w.ms, w.vs, w.ts, w.ml, w.ch ++ [c]⟩ ∧ Kept isWC u (w9.setCell ⟨g, 4, none⟩ (.slice A9 (ML + 1) c9)) ∧ Below base u (w9.setCell ⟨g, 4, none⟩ (.slice A9 (ML + 1) c9)) := by
  have hal : Below u.heap.size u (u.alloc (.cells (ccell c).toArray 43)).drew := ((Below.refl _ _).alloc (Nat.le_refl _) _).drew
  have k1 : Kept isWC u (u.alloc (.cells (ccell c).toArray 43)).drew := Kept.of_below hal
  have q4 := own_below3 o4 hal
  have k2 : Kept isWC (u.alloc (.cells (ccell c).toArray 43)).drew w9 := Kept.grown q4 (.inr rfl) hg9
  have hx9 : Box w9 g 58 _ := (hx.below hal hx.lt).grown hg9 (fun e => by
    obtain ⟨_, cur, hc⟩ := own_block q4 e.symm
    have := hx.below hal hx.lt
    rw [Box] at this hc
    rw [hc] at this
    injection this with this
    injection this with _ this
    exact absurd this (by decide))
  have k3 : Kept isWC w9 (w9.setCell ⟨g, 4, none⟩ (.slice A9 (ML + 1) c9)) := Kept.set hx9 (.inl rfl) _
  have kk := (k1.trans k2).trans k3
  have nI : ¬ isWC 3 := by unfold isWC; decide
  have nP : ¬ isWC 79 := by unfold isWC; decide
  have hlen : (w.ch ++ [c]).length = ML + 1 := by rw [List.length_append, hML]; rfl
  have hrow : flat ccell (w.ch ++ [c]) = flat ccell w.ch ++ ccell c := by rw [flat_append, flat_one]
  refine ⟨⟨A0, c0, A1, c1, A2, c2, A3, c3, A9, c9, xs, hg, ?_, kk.own o0 nI, kk.own o1 (by unfold isWC; decide), kk.own o2 (by unfold isWC; decide), ht.kept kk nI nP, kk.own o3 (by unfold isWC; decide), ?_⟩, kk, ?_⟩
  · show Box _ g 58 #[_, _, _, _, .slice A9 (w.ch ++ [c]).length c9]
    rw [hlen]
    simpa using hx9.stored 4 (.slice A9 (ML + 1) c9)
  · show World.ownsRow _ base _ 2 (.slice A9 (w.ch ++ [c]).length c9) (w.ch ++ [c]).length (flat ccell (w.ch ++ [c]))
    rw [hlen, hrow]
    exact own_setother o9 hx9 (by decide) _
  · have h1 : Below base u w9 := (hal.mono hbase).grown hg9 (Nat.le_trans hbase hal.size) (fun q hq => (own_block q4 hq).1)
    exact h1.setCell (p := ⟨g, 4, none⟩) hg _
/-- one piece of mail more -/
theorem WdAt.addM {u w9 : World} {base g ML : Nat} {w : DC.Wd} {c : DC.Ml} {A0 A1 A2 A3 A4 A9 : Option Addr} {c0 c1 c2 c3 c4 c9 : Nat} {xs : List Value}
    (hML : w.ml.length = ML) (hbase : base ≤ u.heap.size) (hg : base ≤ g)
    (hx : Box u g 58 #[.slice A0 w.ms.length c0, .slice A1 w.vs.length c1, .slice A2 w.ts.length c2, .slice A3 ML c3, .slice A4 w.ch.length c4])
    (o0 : u.ownsRow base 3 1 (.slice A0 w.ms.length c0) w.ms.length (ic w.ms)) (o1 : u.ownsRow base 53 3 (.slice A1 w.vs.length c1) w.vs.length (flat vcell w.vs))
    (o2 : u.ownsRow base 49 7 (.slice A2 w.ts.length c2) w.ts.length xs) (ht : TsRow u base xs w.ts) (o3 : u.ownsRow base 40 10 (.slice A3 ML c3) ML (flat mcell w.ml)) (o4 : u.ownsRow base 43 2 (.slice A4 w.ch.length c4) w.ch.length (flat ccell w.ch))
    (hg9 : (u.alloc (.cells (mcell c).toArray 40)).drew.grownBy w9 (Value.slice A3 ML c3).ownBlock) (o9 : w9.ownsRow base 40 10 (.slice A9 (ML + 1) c9) (ML + 1) (flat mcell w.ml ++ mcell c)) :
    WdAt (w9.setCell ⟨g, 3, none⟩ (.slice A9 (ML + 1) c9)) base g ⟨w.ms, w.vs, w.ts, w.ml ++ [c], w.ch⟩ ∧ Kept isWM u (w9.setCell ⟨g, 3, none⟩ (.slice A9 (ML + 1) c9)) ∧ Below base u (w9.setCell ⟨g, 3, none⟩ (.slice A9 (ML + 1) c9)) := by
  have hal : Below u.heap.size u (u.alloc (.cells (mcell c).toArray 40)).drew := ((Below.refl _ _).alloc (Nat.le_refl _) _).drew
  have k1 : Kept isWM u (u.alloc (.cells (mcell c).toArray 40)).drew := Kept.of_below hal
  have q4 := own_below3 o3 hal
  have k2 : Kept isWM (u.alloc (.cells (mcell c).toArray 40)).drew w9 := Kept.grown q4 (.inr rfl) hg9
  have hx9 : Box w9 g 58 _ := (hx.below hal hx.lt).grown hg9 (fun e => by
    obtain ⟨_, cur, hc⟩ := own_block q4 e.symm
    have := hx.below hal hx.lt
    rw [Box] at this hc
    rw [hc] at this
    injection this with this
    injection this with _ this
    exact absurd this (by decide))
  have k3 : Kept isWM w9 (w9.setCell ⟨g, 3, none⟩ (.slice A9 (ML + 1) c9)) := Kept.set hx9 (.inl rfl) _
  have kk := (k1.trans k2).trans k3
  have nI : ¬ isWM 3 := by unfold isWM; decide
  have nP : ¬ isWM 79 := by unfold isWM; decide
  have hlen : (w.ml ++ [c]).length = ML + 1 := by rw [List.length_append, hML]; rfl
  have hrow : flat mcell (w.ml ++ [c]) = flat mcell w.ml ++ mcell c := by rw [flat_append, flat_one]
  refine ⟨⟨A0, c0, A1, c1, A2, c2, A9, c9, A4, c4, xs, hg, ?_, kk.own o0 nI, kk.own o1 (by unfold isWM; decide), kk.own o2 (by unfold isWM; decide), ht.kept kk nI nP, ?_, kk.own o4 (by unfold isWM; decide)⟩, kk, ?_⟩
  · show Box _ g 58 #[_, _, _, .slice A9 (w.ml ++ [c]).length c9, _]
    rw [hlen]
    simpa using hx9.stored 3 (.slice A9 (ML + 1) c9)
  · show World.ownsRow _ base _ 10 (.slice A9 (w.ml ++ [c]).length c9) (w.ml ++ [c]).length (flat mcell (w.ml ++ [c]))
    rw [hlen, hrow]
    exact own_setother o9 hx9 (by decide) _
  · have h1 : Below base u w9 := (hal.mono hbase).grown hg9 (Nat.le_trans hbase hal.size) (fun q hq => (own_block q4 hq).1)
    exact h1.setCell (p := ⟨g, 3, none⟩) hg _
/-- a world that was stored into only above it -/
theorem WdAt.drew {U : World} {base g : Nat} {w : DC.Wd} (h : WdAt U base g w) : WdAt U.drew base g w := h
end Go.Proofs.Ytiiobafcgdelmaa.PD

namespace Go.Proofs.Ytiiobafcgdelmaa.PD
open Go.RowKit Go.Shelf
set_option linter.unusedVariables false
set_option linter.unusedSimpArgs false

/-- a node's attempt takes an acceptance; what it finds -/
def accF (w : DC.Wd) (n k x : Int) : DC.Wd :=
  if AM.errA (DC.getT w n) k x = 0 then ⟨w.ms, w.vs, w.ts.set n.toNat (AM.acc (DC.getT w n) k x), w.ml, w.ch ++ DC.found n (DC.getT w n).ph (AM.acc (DC.getT w n) k x)⟩ else w
def AcPost (base g : Nat) (w : DC.Wd) (n k x : Int) (W : World) (e : Ending) (W' : World) : Prop :=
  e = .returned (.tuple #[]) ∧ WdAt W' base g (accF w n k x) ∧ Kept isTk W W' ∧ Below base W W'

set_option maxRecDepth 100000 in
set_option maxHeartbeats 8000000 in
theorem accepted_any (base g i : Nat) (w : DC.Wd) (k x : Int) (W : World) (H : WdAt W base g w) (h0 : DC.May0 w) (hi : i < 6) (hbase : base ≤ W.heap.size) (hch : w.ch.length ≤ 1900) :
    Calls Try.prog 48 #[.pointer (some ⟨g, 0, none⟩), .int .i64 (i : Int), .int .i64 k, .int .i64 x] W (AcPost base g w (i : Int) k x W) := by
  have hn : DC.isNode (i : Int) := by unfold DC.isNode; omega
  have LT6 := Lib.hid h0.tl
  have hTt : w.ts[i]? = some (DC.getT w (i : Int)) := by have := DC.getT_at h0.tl hn; rwa [Int.toNat_natCast] at this
  have F := fit_mayT (h0.try_ hn)
  obtain ⟨tt, htt⟩ : ∃ tt, tt = DC.getT w (i : Int) := ⟨_, rfl⟩
  rw [← htt] at hTt F
  obtain ⟨a, ha⟩ : ∃ a, a = AM.acc tt k x := ⟨_, rfl⟩
  obtain ⟨er, her⟩ : ∃ er, er = AM.errA tt k x := ⟨_, rfl⟩
  have hA : er ≠ 0 → accF w (i : Int) k x = w := fun e => by unfold accF; rw [← htt, ← her, if_neg e]
  have hB : er = 0 → accF w (i : Int) k x = ⟨w.ms, w.vs, w.ts.set i a, w.ml, w.ch ++ DC.found (i : Int) tt.ph a⟩ := fun e => by unfold accF; rw [← htt, ← her, if_pos e, ← ha, Int.toNat_natCast]
  obtain ⟨q, c, x2, y2, z2, hown, hcell⟩ := H.try_ hTt
  have HPA := Lib.hid (accd_any _ tt k x W hown.is F)
  rw [← her, ← ha] at HPA
  obtain ⟨t0, t1, t2, t3, t4, t5, t6, t7⟩ := hcell W (Below.refl _ _)
  have HWD := Lib.hid H
  have HA := Lib.hid hA
  have HB := Lib.hid hB
  have HBS := Lib.hid hbase
  have HCH := Lib.hid hch
  have HI := Lib.hid hi
  have hi0 : (0 : Int) ≤ (i : Int) := by omega
  have hi1 : (i : Int) < (w.ts.length : Int) := by have := LT6.out; omega
  have mixed : Try.prog.follows Departure.mixedOrders = true := by kernel_rfl
  have e0 : 0 ≤ tt.ph := F.p1
  have e255 : tt.ph ≤ 255 := F.p2
  clear hA hB hcell hown F hTt h0 hn hbase hch htt ha her H hi
  go_enter Try.func48, Try.ntmps48
  go_wp2_with fail
  refine HPA.out.mono ?_
  rintro e w4 ⟨v, rfl, own, hr⟩
  obtain ⟨A5, c5, D5, q5, C5, f5, rfl⟩ := own.form
  clear HPA t0 t1 t2 t3 t4 t5 t6 t7
  have hal := hr.alloc hr.size (.cells #[.int .u8 a.ph, .int .i64 a.ba, .slice A5 a.ms.length c5, .string a.wi, .string a.va, .slice D5 a.ps.length q5, .slice C5 a.ac.length f5] 49)
  have S1 : Hid (TkS W base g w w4.heap.size a A5 c5 D5 q5 C5 f5 (w4.alloc (.cells #[.int .u8 a.ph, .int .i64 a.ba, .slice A5 a.ms.length c5, .string a.wi, .string a.va, .slice D5 a.ps.length q5, .slice C5 a.ac.length f5] 49))) :=
    Lib.hid ⟨HWD.out.below hal, ⟨Box.new _ _ _, (own.alloc _).mono HBS.out⟩, Kept.of_below hal, hal.mono HBS.out⟩
  clear hal own hr HWD
  by_cases he : er = 0
  rotate_left
  · have e1 : (er != 0) = true := by simpa using he
    have HF : Hid (AcPost base g w (i : Int) k x W (.returned (.tuple #[])) (w4.alloc (.cells #[.int .u8 a.ph, .int .i64 a.ba, .slice A5 a.ms.length c5, .string a.wi, .string a.va, .slice D5 a.ps.length q5, .slice C5 a.ac.length f5] 49))) := Lib.hid ⟨rfl, by rw [HA.out he]; exact S1.out.1, S1.out.2.2.1, S1.out.2.2.2⟩
    clear he S1
    go_wp2_with fail
    go_end0
    exact HF.out
  have HE := Lib.hid (HB.out he)
  subst he
  clear HA HB
  go_upto_region 3 with (fail)
  generalize w4.alloc (.cells #[.int .u8 a.ph, .int .i64 a.ba, .slice A5 a.ms.length c5, .string a.wi, .string a.va, .slice D5 a.ps.length q5, .slice C5 a.ac.length f5] 49) = u at S1 ⊢
  generalize w4.heap.size = gM at S1 ⊢
  obtain ⟨q2, c2, hq2, hq2l, d2, hthere, hst, hfar⟩ := (show WdAt u.drew base g w from S1.out.1).storeT LT6.out HI.out
  obtain ⟨hs1, hs2, hs3, hs4⟩ := hst a _ _ _ _ _ _ _ S1.out.2.1.2
  have hxM := hfar gM _ (show Box u.drew gM _ _ from S1.out.2.1.1) rfl (.int .u8 a.ph) (.int .i64 a.ba) (.slice A5 a.ms.length c5) (.string a.wi) (.string a.va) (.slice D5 a.ps.length q5) (.slice C5 a.ac.length f5)
  have NX : Hid (TkS W base g ⟨w.ms, w.vs, w.ts.set i a, w.ml, w.ch⟩ gM a A5 c5 D5 q5 C5 f5 (putAt7 u.drew q2 (i * 7) (.int .u8 a.ph) (.int .i64 a.ba) (.slice A5 a.ms.length c5) (.string a.wi) (.string a.va) (.slice D5 a.ps.length q5) (.slice C5 a.ac.length f5))) :=
    Lib.hid ⟨hs1, ⟨hxM, (hs2.at_ (show AtOwn u.drew base _ _ from S1.out.2.1.2) (by unfold isA; decide) (by unfold isA; decide))⟩, (S1.out.2.2.1.more ((Below.refl _ _).drew)).trans (hs2.mono fun _ h => tk_of_a h), below_more (bmore S1.out.2.2.2 ((Below.refl _ _).drew) HBS.out) hs3⟩
  obtain ⟨⟨s0, s1, s2, s3, s4, s5, s6⟩, _⟩ := (show Box u.drew gM _ _ from S1.out.2.1.1).seven
  obtain ⟨⟨r0, r1, r2, r3, r4, r5, r6⟩, _⟩ := hxM.seven
  clear hst hfar hs1 hs2 hs3 hxM S1 hq2 hq2l
  go_cut [41] (fun _ wx => TkS W base g ⟨w.ms, w.vs, w.ts.set i a, w.ml, w.ch⟩ gM a A5 c5 D5 q5 C5 f5 wx)
  case first =>
    have hS0 : u.drew.cell? ⟨g, 2, none⟩ = some (.slice (some ⟨q2, 0, none⟩) w.ts.length c2) ∧ u.drew.cell? ⟨gM, 0, none⟩ = some (.int .u8 a.ph) ∧ u.drew.cell? ⟨gM, 1, none⟩ = some (.int .i64 a.ba) ∧ u.drew.cell? ⟨gM, 2, none⟩ = some (.slice A5 a.ms.length c5) ∧ u.drew.cell? ⟨gM, 3, none⟩ = some (.string a.wi) ∧ u.drew.cell? ⟨gM, 4, none⟩ = some (.string a.va) ∧ u.drew.cell? ⟨gM, 5, none⟩ = some (.slice D5 a.ps.length q5) ∧ u.drew.cell? ⟨gM, 6, none⟩ = some (.slice C5 a.ac.length f5) := ⟨d2, s0, s1, s2, s3, s4, s5, s6⟩
    have hS1 := And.intro hs4 (And.intro r0 (And.intro r1 (And.intro r2 (And.intro r3 (And.intro r4 (And.intro r5 r6))))))
    clear r0 r1 r2 r3 r4 r5 r6 s0 s1 s2 s3 s4 s5 s6 d2 hs4
    refine wp_region_held_drew (S := fun w' => w'.cell? ⟨g, 2, none⟩ = some (.slice (some ⟨q2, 0, none⟩) w.ts.length c2) ∧ w'.cell? ⟨gM, 0, none⟩ = some (.int .u8 a.ph) ∧ w'.cell? ⟨gM, 1, none⟩ = some (.int .i64 a.ba) ∧ w'.cell? ⟨gM, 2, none⟩ = some (.slice A5 a.ms.length c5) ∧ w'.cell? ⟨gM, 3, none⟩ = some (.string a.wi) ∧ w'.cell? ⟨gM, 4, none⟩ = some (.string a.va) ∧ w'.cell? ⟨gM, 5, none⟩ = some (.slice D5 a.ps.length q5) ∧ w'.cell? ⟨gM, 6, none⟩ = some (.slice C5 a.ac.length f5)) (by kernel_rfl) hS0 (fun hHeld => ?_)
    refine wpAnyH_take (i := 0) (v := ?_) rfl (by kernel_rfl) (by kernel_rfl) (by kernel_rfl) (fun _ _ _ h => h) (Or.inl ⟨by rfl, ?_⟩) (by assumption) ?_
    rotate_left
    · intro w' hSw
      (try dsimp only at hSw)
      go_simp
      all_goals (with_reducible rfl)
    try simp only [Act.put, List.setIfInBounds_toArray, List.set_cons_zero, List.set_cons_succ, List.getElem_toArray, List.getElem_cons_zero, List.getElem_cons_succ]
    refine wpAnyH_take (i := 1) (v := ?_) rfl (by kernel_rfl) (by kernel_rfl) (by kernel_rfl) (fun _ _ _ h => h) (Or.inl ⟨by rfl, ?_⟩) (by assumption) ?_
    rotate_left
    · intro w' hSw
      (try dsimp only at hSw)
      go_simp
      all_goals (with_reducible rfl)
    try simp only [Act.put, List.setIfInBounds_toArray, List.set_cons_zero, List.set_cons_succ, List.getElem_toArray, List.getElem_cons_zero, List.getElem_cons_succ]
    refine wpAnyH_take (i := 2) (v := ?_) rfl (by kernel_rfl) (by kernel_rfl) (by kernel_rfl) (fun _ _ _ h => h) (Or.inl ⟨by rfl, ?_⟩) (by assumption) ?_
    rotate_left
    · intro w' hSw
      (try dsimp only at hSw)
      go_simp
      all_goals (with_reducible rfl)
    try simp only [Act.put, List.setIfInBounds_toArray, List.set_cons_zero, List.set_cons_succ, List.getElem_toArray, List.getElem_cons_zero, List.getElem_cons_succ]
    refine wpAnyH_take (i := 3) (v := ?_) rfl (by kernel_rfl) (by kernel_rfl) (by kernel_rfl) (fun _ _ _ h => h) (Or.inl ⟨by rfl, ?_⟩) (by assumption) ?_
    rotate_left
    · intro w' hSw
      (try dsimp only at hSw)
      go_simp
      all_goals (with_reducible rfl)
    try simp only [Act.put, List.setIfInBounds_toArray, List.set_cons_zero, List.set_cons_succ, List.getElem_toArray, List.getElem_cons_zero, List.getElem_cons_succ]
    refine wpAnyH_take (i := 4) (v := ?_) rfl (by kernel_rfl) (by kernel_rfl) (by kernel_rfl) (fun _ _ _ h => h) (Or.inl ⟨by rfl, ?_⟩) (by assumption) ?_
    rotate_left
    · intro w' hSw
      (try dsimp only at hSw)
      go_simp
      all_goals (with_reducible rfl)
    try simp only [Act.put, List.setIfInBounds_toArray, List.set_cons_zero, List.set_cons_succ, List.getElem_toArray, List.getElem_cons_zero, List.getElem_cons_succ]
    refine wpAnyH_take (i := 5) (v := ?_) rfl (by kernel_rfl) (by kernel_rfl) (by kernel_rfl) (fun _ _ _ h => h) (Or.inl ⟨by rfl, ?_⟩) (by assumption) ?_
    rotate_left
    · intro w' hSw
      (try dsimp only at hSw)
      go_simp
      all_goals (with_reducible rfl)
    try simp only [Act.put, List.setIfInBounds_toArray, List.set_cons_zero, List.set_cons_succ, List.getElem_toArray, List.getElem_cons_zero, List.getElem_cons_succ]
    refine wpAnyH_take (i := 6) (v := ?_) rfl (by kernel_rfl) (by kernel_rfl) (by kernel_rfl) (fun _ _ _ h => h) (Or.inl ⟨by rfl, ?_⟩) (by assumption) ?_
    rotate_left
    · intro w' hSw
      (try dsimp only at hSw)
      go_simp
      all_goals (with_reducible rfl)
    try simp only [Act.put, List.setIfInBounds_toArray, List.set_cons_zero, List.set_cons_succ, List.getElem_toArray, List.getElem_cons_zero, List.getElem_cons_succ]
    refine wpAnyH_ready (rs := [7]) (by kernel_rfl) (by simp) ?_
    refine AllReadyH.cons rfl (fun K hK => ?_) AllReadyH.nil
    refine step_store_mid rfl 49 _ _ rfl q2 (i * 7) #[.int .u8 a.ph, .int .i64 a.ba, .slice A5 a.ms.length c5, .string a.wi, .string a.va, .slice D5 a.ps.length q5, .slice C5 a.ac.length f5] (by simp [Act.eval, Act.put]) (by simp [Act.eval, Act.put]) hthere (by kernel_rfl) (by simp [Value.oneCell']) ?_
    refine hK.out _ _ (hS1) (fun hHeld => ?_)
    clear hK
    try simp only [Act.put, List.setIfInBounds_toArray, List.set_cons_zero, List.set_cons_succ, List.getElem_toArray, List.getElem_cons_zero, List.getElem_cons_succ]
    refine wpAnyH_done (by kernel_rfl) ?_ _
    go_wp2_with fail
    go_meet
    case rel => exact NX.out
  case rest =>
    clear NX hthere r0 r1 r2 r3 r4 r5 r6 s0 s1 s2 s3 s4 s5 s6 d2 hs4
    have S2 := Lib.hid hcut
    clear hcut
    obtain ⟨⟨s0, s1, s2, s3, s4, s5, s6⟩, _⟩ := S2.out.2.1.1.seven
    have hpost : DC.found (i : Int) tt.ph a = [] → Hid (AcPost base g w (i : Int) k x W (.returned (.tuple #[])) wc) := fun hf => Lib.hid ⟨rfl, by rw [HE.out, hf, List.append_nil]; exact S2.out.1, S2.out.2.2.1, S2.out.2.2.2⟩
    by_cases hw : tt.ph = 3
    · have HF := hpost (by unfold DC.found; rw [if_neg (by omega)])
      have e1 : (tt.ph != 3) = false := by simpa using hw
      clear hpost hw s1 s2 s3 s4 s5 s6
      go_wp2_with fail
      go_end0
      exact HF.out
    have e1 : (tt.ph != 3) = true := by simpa using hw
    by_cases h3 : a.ph = 3
    rotate_left
    · have HF := hpost (by unfold DC.found; rw [if_neg (fun h => h3 h.2)])
      have e2 : (a.ph == 3) = false := by simpa using h3
      clear hpost h3 hw s1 s2 s3 s4 s5 s6
      go_wp2_with fail
      go_end0
      exact HF.out
    have e2 : (a.ph == 3) = true := by simpa using h3
    have HC := Lib.hid (show DC.found (i : Int) tt.ph a = [⟨(i : Int), a.va⟩] by unfold DC.found; rw [if_pos ⟨hw, h3⟩])
    clear hpost hw h3 s1 s2 s3 s5 s6
    obtain ⟨i0, hi0', hz0, hz1, hz2⟩ := info_parts info_choice
    obtain ⟨A0, c0, A1, c1, A2, c2', A3, c3, A4, c4, xs, hgb, hx, o0, o1, o2, ht, o3, o4⟩ := S2.out.1
    obtain ⟨ML, hML⟩ : ∃ ML, ML = w.ch.length := ⟨_, rfl⟩
    simp only at hx o0 o1 o2 ht o3 o4
    rw [← hML] at hx o4
    have hMl : ML ≤ 1900 := by rw [hML]; exact HCH.out
    have HX := Lib.hid hx
    have H0 := Lib.hid o0
    have H1 := Lib.hid o1
    have H2 := Lib.hid o2
    have H3 := Lib.hid o3
    have H4 := Lib.hid o4
    have HTS := Lib.hid ht
    have HML := Lib.hid hML
    have HGB := Lib.hid hgb
    have HBW := Lib.hid (show base ≤ wc.heap.size from Nat.le_trans HBS.out S2.out.2.2.2.size)
    obtain ⟨⟨g0, g1, g2, g3, g4⟩, _⟩ := hx.five
    clear hx o0 o1 o2 o3 o4 ht hML hgb
    have hal : Below wc.heap.size wc (wc.alloc (.cells #[.int .i64 (i : Int), .string a.va] 43)) := (Below.refl _ _).alloc (Nat.le_refl _) _
    have O4a := Lib.hid (own_below3 H4.out hal)
    have HR2 := Lib.hid (rdG_box (s := 2) (n := 1) (Box.new wc 43 #[.int .i64 (i : Int), .string a.va]) rfl rfl)
    have hbz : base ≤ (wc.alloc (.cells #[.int .i64 (i : Int), .string a.va] 43)).heap.size := by have := HBW.out; have := hal.size; omega
    have XA := Lib.hid (HX.out.below hal HX.out.lt)
    obtain ⟨⟨y0, y1, y2, y3, y4⟩, _⟩ := XA.out.five
    have xm := (S2.out.2.1.1.below hal S2.out.2.1.1.lt).cell 4
    simp only [List.getElem?_toArray, List.getElem?_cons_succ, List.getElem?_cons_zero] at xm
    clear hal
    go_upto_region 5 with (fail)
    go_region_law_o (refine step_append_h rfl (.tmp 52) (.tmp 57) 26 rfl base 43 i0 _ 2 24 Try.underlying26 hi0' hz0 hz1 hz2 rfl (by omega) (.slice A4 ML c4) ML _ (by simp [Act.eval, Act.put]) O4a.out (some ⟨wc.heap.size, 0, none⟩) 1 1 _ (by simp [Act.eval, Act.put]) HR2.out (by intro x hx; simp at hx; rcases hx with rfl | rfl <;> rfl) (by unfold maxLen; omega) (by omega) hbz ?_; intro v9 w9 o9 g9 hob9; obtain ⟨A9, c9, rfl, _, _⟩ := own_form o9; obtain ⟨_, z0, z1, z2, z3, z4⟩ := (XA.out.drew.grown g9 (fun e => by obtain ⟨_, cur, hc⟩ := own_block O4a.out e.symm; have := XA.out; rw [Box] at this hc; rw [hc] at this; injection this with this; injection this with _ this; exact absurd this (by decide))).five)
    all_goals
      have hq := WdAt.addC (w := ⟨w.ms, w.vs, w.ts.set i a, w.ml, w.ch⟩) (c := ⟨(i : Int), a.va⟩) HML.out.symm HBW.out HGB.out HX.out H0.out H1.out H2.out HTS.out H3.out H4.out g9 o9
      have HF : Hid (AcPost base g w (i : Int) k x W (.returned (.tuple #[])) (w9.setCell ⟨g, 4, none⟩ (.slice A9 (ML + 1) c9))) := Lib.hid ⟨rfl, by rw [HE.out, HC.out]; exact hq.1, S2.out.2.2.1.trans (hq.2.1.mono fun _ h => tk_of_wc h), below_more S2.out.2.2.2 hq.2.2⟩
      clear hq o9 g9 hob9
      clear g0 g1 g2 g3 g4 y0 y1 y2 y3 y4 s0 s4 xm
      go_wp2_with fail
      go_end0
      exact HF.out
end Go.Proofs.Ytiiobafcgdelmaa.PD
