/-
  The walk of VoteHolds: behind a promise nothing of a lesser ballot is accepted, or promised, whatever came between. Conditions: any vote, ballots and value.
-/
import Derived.Test.YtgdelnegameapaaVoteAlive
import Derived.Test.YtgdelnegameapaaVoteMore
import Derived.Test.YtgdelnegameapaaVoteArg
import Derived.Deep.RegionHeld3
namespace Go.Proofs.Ytgdelnegameapaa
open Go.RowKit
set_option linter.unusedVariables false

theorem row_fits {k : IntKind} {w : World} {a : Option Addr} {len cap : Nat} {zs : List Int} (h : IsRow k w a len cap zs) : ∀ n ∈ zs, (Lit.int k n).wf = true := by
  rcases h with ⟨_, _, _, rfl⟩ | ⟨_, _, _, _, _, _, h⟩
  · intro n hn; cases hn
  · exact h
/-- what the loop keeps: the variable holds a vote that promised b or more -/
def HoldRel (w : World) (b : Int) (gx : Nat) (wr : World) : Prop :=
  Below w.heap.size w wr ∧ w.heap.size ≤ gx ∧ ∃ (p q : Int) (s : ByteArray), Box wr gx 23 #[.int .i64 p, .int .i64 q, .string s] ∧ b ≤ p ∧ -9223372036854775808 ≤ p ∧ p ≤ 9223372036854775807 ∧ -9223372036854775808 ≤ q ∧ q ≤ 9223372036854775807 ∧ s.size ≤ maxLen
/-- behind the first call of a round: its answer in a variable of its own -/
def HoldMid (wr : World) (x y : Int) (t : ByteArray) (e : Int) (u15 u16 : Value) (wx : World) : Prop :=
  ∃ g, u15 = .pointer (some ⟨g, 0, none⟩) ∧ u16 = .int .i64 e ∧ Below wr.heap.size wr wx ∧ wr.heap.size ≤ g ∧ Box wx g 23 #[.int .i64 x, .int .i64 y, .string t]
theorem hold_1 {wr w4 : World} {x y e : Int} {t : ByteArray} (hb : Below wr.drew.heap.size wr.drew w4) : Below wr.heap.size wr w4 ∧ HoldMid wr x y t e (.pointer (some ⟨w4.heap.size, 0, none⟩)) (.int .i64 e) (w4.alloc (.cells #[.int .i64 x, .int .i64 y, .string t] 23)) := by
  have h : Below wr.heap.size wr w4 := bmore ((Below.refl _ _).drew) hb (Nat.le_refl _)
  exact ⟨h, _, rfl, rfl, h.alloc h.size _, h.size, Box.new _ _ _⟩
theorem hold_2 {wr w4 : World} {x y e : Int} {t : ByteArray} {a b c : Value} (hb : Below ((wr.alloc (.cells #[a, b, c] 23)).drew).heap.size ((wr.alloc (.cells #[a, b, c] 23)).drew) w4) :
    Below wr.heap.size wr w4 ∧ Box w4 wr.heap.size 23 #[a, b, c] ∧ HoldMid wr x y t e (.pointer (some ⟨wr.heap.size, 0, none⟩)) (.int .i64 e) (((w4.setCell ⟨wr.heap.size, 0, none⟩ (.int .i64 x)).setCell ⟨wr.heap.size, 1, none⟩ (.int .i64 y)).setCell ⟨wr.heap.size, 2, none⟩ (.string t)) := by
  have h : Below wr.heap.size wr w4 := bmore (((Below.refl _ _).alloc (Nat.le_refl _) _).drew) hb (Nat.le_refl _)
  have hx : Box w4 wr.heap.size 23 #[a, b, c] := ((Box.new wr 23 #[a, b, c]).drew).below hb (by show wr.heap.size < (wr.alloc (.cells #[a, b, c] 23)).heap.size; simp)
  exact ⟨h, hx, _, rfl, rfl, below_put3 h (Nat.le_refl _) _ _ _, Nat.le_refl _, hx.put3 _ _ _⟩
/-- behind the second call of a round, where there is one: its answer in the same variable -/
def HoldMid2 (wr : World) (gx gy : Nat) (px qx : Int) (sx : ByteArray) (x y : Int) (t : ByteArray) (e : Int) (u16 : Value) (wx : World) : Prop :=
  u16 = .int .i64 e ∧ (∀ (B : Nat) (a : World), Below B a wr → B ≤ a.heap.size → B ≤ gy → Below B a wx) ∧ Box wx gx 23 #[.int .i64 px, .int .i64 qx, .string sx] ∧ Box wx gy 23 #[.int .i64 x, .int .i64 y, .string t]
theorem hold_3 {wr wa : World} {gx gy : Nat} {px qx : Int} {sx : ByteArray} {x y e : Int} {t : ByteArray} {a b c : Value} (hb : Below wr.heap.size wr wa) (hx : Box wr gx 23 #[.int .i64 px, .int .i64 qx, .string sx]) (hy : Box wr gy 23 #[a, b, c]) (hne : gx ≠ gy) :
    Box wa gy 23 #[a, b, c] ∧ HoldMid2 wr gx gy px qx sx x y t e (.int .i64 e) (((wa.setCell ⟨gy, 0, none⟩ (.int .i64 x)).setCell ⟨gy, 1, none⟩ (.int .i64 y)).setCell ⟨gy, 2, none⟩ (.string t)) := by
  have y1 := hy.below hb hy.lt
  exact ⟨y1, rfl, fun B a h hB hg => below_put3 (bmore h hb hB) hg _ _ _, (hx.below hb hx.lt).putFar3 (g' := gy) hne _ _ _, y1.put3 _ _ _⟩
theorem hold_s {wa : World} {gx gy : Nat} {q : Addr} {u0 u1 u2 u3 : Value} {x y : Int} {t : ByteArray} (h : wa.cell? ⟨gx, 0, none⟩ = some u0 ∧ wa.cell? ⟨gx, 1, none⟩ = some u1 ∧ wa.cell? ⟨gx, 2, none⟩ = some u2 ∧ wa.cell? q = some u3) (hne : gx ≠ gy) (hq : q.block ≠ gy) :
    (((wa.setCell ⟨gy, 0, none⟩ (.int .i64 x)).setCell ⟨gy, 1, none⟩ (.int .i64 y)).setCell ⟨gy, 2, none⟩ (.string t)).cell? ⟨gx, 0, none⟩ = some u0 ∧ (((wa.setCell ⟨gy, 0, none⟩ (.int .i64 x)).setCell ⟨gy, 1, none⟩ (.int .i64 y)).setCell ⟨gy, 2, none⟩ (.string t)).cell? ⟨gx, 1, none⟩ = some u1 ∧
    (((wa.setCell ⟨gy, 0, none⟩ (.int .i64 x)).setCell ⟨gy, 1, none⟩ (.int .i64 y)).setCell ⟨gy, 2, none⟩ (.string t)).cell? ⟨gx, 2, none⟩ = some u2 ∧ (((wa.setCell ⟨gy, 0, none⟩ (.int .i64 x)).setCell ⟨gy, 1, none⟩ (.int .i64 y)).setCell ⟨gy, 2, none⟩ (.string t)).cell? q = some u3 := by
  have far : ∀ (W : World) (r : Addr) (i : Nat) (v : Value), r.block ≠ gy → (W.setCell ⟨gy, i, none⟩ v).cell? r = W.cell? r := fun W r i v hr => World.cell?_setCell_far W ⟨gy, i, none⟩ r v (Ne.symm hr)
  refine ⟨?_, ?_, ?_, ?_⟩
  · rw [far _ _ _ _ hne, far _ _ _ _ hne, far _ _ _ _ hne]; exact h.1
  · rw [far _ _ _ _ hne, far _ _ _ _ hne, far _ _ _ _ hne]; exact h.2.1
  · rw [far _ _ _ _ hne, far _ _ _ _ hne, far _ _ _ _ hne]; exact h.2.2.1
  · rw [far _ _ _ _ hq, far _ _ _ _ hq, far _ _ _ _ hq]; exact h.2.2.2

set_option maxRecDepth 100000 in
set_option maxHeartbeats 4000000 in
theorem voteHolds_walk (v : Value) (p b : Int) (s : ByteArray) (k0 : Int) (A : Option Addr) (n c : Nat) (zs : List Int) (less : Int) (u : ByteArray) (w : World) (hv : VoteArg v p b s) (hk : (Lit.int .i64 k0).wf = true) (hz : IsRow .i64 w A n c zs) (hl : (Lit.int .i64 less).wf = true) (hu : u.size ≤ maxLen) :
    Calls Try.prog 7 #[v, .int .i64 k0, .slice A n c, .int .i64 less, .string u] w fun e w' => e = .returned (.bool true) ∧ Below w.heap.size w w' := by
  obtain ⟨rfl, hp, hb, hs⟩ := hv
  obtain ⟨hp1, hp2⟩ := fits_int hp
  obtain ⟨hb1, hb2⟩ := fits_int hb
  obtain ⟨hk1, hk2⟩ := fits_int hk
  obtain ⟨hl1, hl2⟩ := fits_int hl
  have hn9 : n ≤ 9223372036854775807 := by have := hz.len_le; unfold maxLen at this; omega
  have HS := Lib.hid hs; have HU := Lib.hid hu
  have HZ := Lib.hid (show Rd w A n (ic (zs.take n)) from hz.ints)
  have HF := Lib.hid (row_fits hz)
  obtain ⟨x1, y1, t1, e1, h1⟩ := VM.prepIs_ex p b s k0
  have H1 := Lib.hid h1
  clear hp hb hk hl h1 hs hu hz
  have hb0 : Below w.heap.size w (w.alloc (.cells #[.int .i64 p, .int .i64 b, .string s] 23)) := (Below.refl _ _).alloc (Nat.le_refl _) _
  have HB0 := Lib.hid hb0
  have R0 := Lib.hid (Box.new w 23 #[.int .i64 p, .int .i64 b, .string s])
  clear hb0
  go_enter Try.func7, Try.ntmps7
  go_wp2_with fail
  generalize w.alloc (.cells #[.int .i64 p, .int .i64 b, .string s] 23) = w1 at R0 HB0 ⊢
  refine (alive_any _).mono ?_
  rintro e w2 ⟨rfl, hc⟩
  have R3 := Lib.hid (R0.out.below hc R0.out.lt)
  have HB4 := Lib.hid (bmore HB0.out hc (Nat.le_refl _))
  clear hc R0 HB0
  obtain ⟨ca5, cb5, cc5, fa5, fb5, fc5⟩ := R3.out.three
  go_wp2_with fail
  clear ca5 cb5 cc5 fa5 fb5 fc5
  refine (prep_any _ hp1 hp2 hb1 hb2 HS.out hk1 hk2 H1.out).mono ?_
  rintro e w90 ⟨rfl, hc⟩
  have hx := var3 hc 23 (.int .i64 x1) (.int .i64 y1) (.string t1)
  have HX := Lib.hid hx.2
  have HBx := Lib.hid (bmore HB4.out hx.1 (Nat.le_refl _))
  have hgx : w.heap.size ≤ w90.heap.size := Nat.le_trans HB4.out.size hc.size
  clear hc hx HB4 R3
  rcases H1.out.2 with ⟨he1, _⟩ | ⟨he1, hx1, hy1, ht1⟩
  · have z1 : (e1 != 0) = true := by simpa using he1
    clear he1
    go_wp2_with fail
    go_ret
    exact ⟨rfl, HBx.out⟩
  have hw1 := H1.out.1
  rw [he1] at hw1
  have hg4 := (VM.wrong_zero.1 hw1).2.2.2
  subst he1
  by_cases hn : 100 < n
  · clear hx1 hy1 ht1 hw1
    go_wp2_with fail
    go_ret
    exact ⟨rfl, HBx.out⟩
  have hn' : n ≤ 100 := by omega
  clear hn
  have hst : HoldRel w k0 w90.heap.size (w90.alloc (.cells #[.int .i64 x1, .int .i64 y1, .string t1] 23)) := ⟨HBx.out, hgx, _, _, _, HX.out, by omega, by omega, by omega, by omega, by omega, by rw [ht1]; exact HS.out⟩
  have HST := Lib.hid hst
  clear hst hx1 hy1 ht1 hw1 hg4 HX HBx hgx H1
  go_wp2_with fail
  generalize w90.alloc (.cells #[.int .i64 x1, .int .i64 y1, .string t1] 23) = w91 at HST ⊢
  generalize w90.heap.size = gx at HST ⊢
  go_loopw [14] (fun i wr => ∃ k : Nat, k ≤ n ∧ i = .int .i64 k ∧ HoldRel w k0 gx wr) (fun i _ => n - (intOf i).toNat)
  case atStart => exact ⟨0, by omega, rfl, HST.out⟩
  case round =>
    clear HST
    obtain ⟨k, hk, rfl, hrel⟩ := hrel
    have HR := Lib.hid hrel
    obtain ⟨hB, hgx, px, qx, sx, vx, hbp, hx1, hx2, hx3, hx4, hx5⟩ := hrel
    have HB := Lib.hid hB
    have Vx := Lib.hid vx
    have HSx := Lib.hid hx5
    have hgl := vx.lt
    clear hB vx hx5
    by_cases hlt : k < n
    · obtain ⟨ad, z0, rfl, had, hz0, hcell0⟩ := HZ.out.at_ hlt
      have hkz : k < (zs.take n).length := by have := HZ.out.1; rw [ic_length] at this; omega
      rw [ic_get (zs.take n) k hkz] at hz0
      injection hz0 with hz0
      obtain ⟨z, hz⟩ : ∃ z, z = (zs.take n)[k] := ⟨_, rfl⟩
      have hzf := fits_int (HF.out z (by rw [hz]; exact List.mem_of_mem_take (List.getElem_mem hkz)))
      obtain ⟨hz1, hz2⟩ := hzf
      rw [← hz] at hz0
      subst hz0
      clear hz
      have hcell : wr.cell? (ad.add k) = some (.int .i64 z) := (HB.out.cell (p := ad.add k) (by rw [block_of_add]; exact had)).trans hcell0
      have hadl : (ad.add k).block < wr.heap.size := by rw [block_of_add]; exact Nat.lt_of_lt_of_le had HB.out.size
      clear hcell0 had
      obtain ⟨x2, y2, t2, e2, h2⟩ := VM.accIs_ex px qx sx z u
      have H2 := Lib.hid h2; clear h2
      have i0 : (0 : Int) ≤ (k : Int) := by omega
      have i1 : (k : Int) < (n : Int) := by omega
      have hS : ∀ w', Below wr.heap.size wr w' → w'.cell? ⟨gx, 0, none⟩ = some (.int .i64 px) ∧ w'.cell? ⟨gx, 1, none⟩ = some (.int .i64 qx) ∧ w'.cell? ⟨gx, 2, none⟩ = some (.string sx) ∧ w'.cell? (ad.add k) = some (.int .i64 z) := fun w' h =>
        ⟨(Vx.out.below h hgl).cell 0, (Vx.out.below h hgl).cell 1, (Vx.out.below h hgl).cell 2, (h.cell (p := ad.add k) hadl).trans hcell⟩
      have HSS := Lib.hid hS; clear hS
      obtain ⟨ca, cb, cc, _⟩ := Vx.out.three
      go_upto_region 10 with (fail)
      go_cut [15, 16] (fun u15 u16 wx => HoldMid wr x2 y2 t2 e2 u15 u16 wx)
      case first =>
        have bb1 : Below wr.heap.size wr wr.drew := (Below.refl _ _).drew
        go_region_held3 (fun w' => w'.cell? ⟨gx, 0, none⟩ = some (.int .i64 px) ∧ w'.cell? ⟨gx, 1, none⟩ = some (.int .i64 qx) ∧ w'.cell? ⟨gx, 2, none⟩ = some (.string sx) ∧ w'.cell? (ad.add k) = some (.int .i64 z))
          (first | exact HSS.out _ bb2 | exact HSS.out _ (bb2.alloc bb2.size _) | exact HSS.out _ (below_put3 bb2 (Nat.le_refl _) _ _ _) | exact HSS.out _ bb1 | exact HSS.out _ (((Below.refl _ _).alloc (Nat.le_refl _) _).drew) | go_keep)
          (first
            | (go_at_call 9; ((with_reducible refine (acc_any _ hx1 hx2 hx3 hx4 HSx.out hz1 hz2 HU.out H2.out).mono ?_); rintro e wa ⟨rfl, ha⟩; (first | (have hq := hold_2 (x := x2) (y := y2) (e := e2) (t := t2) ha; have bb2 := hq.1; obtain ⟨q0, q1, q2, q3, q4, q5⟩ := hq.2.1.three; have mid := Lib.hid hq.2.2; clear hq) | (have hq := hold_1 (x := x2) (y := y2) (e := e2) (t := t2) ha; have bb2 := hq.1; have mid := Lib.hid hq.2; clear hq)); clear ha)))
        all_goals (go_wp2_with fail; go_meet; case rel => exact mid.out)
      case rest =>
        obtain ⟨gy, rfl, rfl, hmb, hmg, hmv⟩ := hcut
        have HB2 := Lib.hid (bmore HB.out hmb (Nat.le_refl _))
        have Vx2 := Lib.hid (Vx.out.below hmb hgl)
        have Vy2 := Lib.hid hmv
        have hgyx : gx ≠ gy := by omega
        have hcell2 : wc.cell? (ad.add k) = some (.int .i64 z) := (hmb.cell (p := ad.add k) hadl).trans hcell
        have hadl2 : (ad.add k).block < wc.heap.size := Nat.lt_of_lt_of_le hadl hmb.size
        have hgl2 : gx < wc.heap.size := Vx2.out.lt
        have hgyl : gy < wc.heap.size := hmv.lt
        have hgw : w.heap.size ≤ gy := Nat.le_trans HB.out.size hmg
        have hady : (ad.add k).block ≠ gy := by omega
        clear hmb hmv ca cb cc HSS Vx HB hcell
        have hkk : (k : Int) % 2 = 0 ∨ (k : Int) % 2 = 1 := by omega
        rcases hkk with hk2 | hk2
        · have m2 : ((k : Int) % 2 == 1) = false := by rw [hk2]; rfl
          clear hk2
          obtain ⟨ca, cb, cc, fa, fb, fc⟩ := Vx2.out.three
          obtain ⟨da, db, dc, ga, gb, gc⟩ := Vy2.out.three
          rcases H2.out.2 with ⟨he2, _⟩ | ⟨he2, ha1, ha2, ha3⟩
          · have z2 : (e2 == 0) = false := by simpa using he2
            clear he2
            have hnx : HoldRel w k0 gx wc := ⟨HB2.out, hgx, px, qx, sx, Vx2.out, hbp, hx1, hx2, hx3, hx4, HSx.out⟩
            have HNX := Lib.hid hnx; clear hnx
            go_wp2_with fail
            go_roundw
            case rel => exact ⟨k + 1, by omega, by go_num, HNX.out⟩
            case measure => simp [intOf]; omega
          · have hw := H2.out.1
            rw [he2] at hw
            obtain ⟨_, _, _, hpz⟩ := VM.wrong_zero.1 hw
            have hnx : HoldRel w k0 gx (((wc.setCell ⟨gx, 0, none⟩ (.int .i64 x2)).setCell ⟨gx, 1, none⟩ (.int .i64 y2)).setCell ⟨gx, 2, none⟩ (.string t2)) :=
              ⟨below_put3 HB2.out hgx _ _ _, hgx, x2, y2, t2, Vx2.out.put3 _ _ _, by omega, by omega, by omega, by omega, by omega, by rw [ha3]; exact HU.out⟩
            have HNX := Lib.hid hnx
            clear hnx ha1 ha2 ha3 hw hpz
            subst he2
            go_wp2_with fail
            go_roundw
            case rel => exact ⟨k + 1, by omega, by go_num, HNX.out⟩
            case measure => simp [intOf]; omega
        · have m2 : ((k : Int) % 2 == 1) = true := by rw [hk2]; rfl
          clear hk2
          obtain ⟨x3, y3, t3, e3, h3⟩ := VM.prepIs_ex px qx sx z
          have H3 := Lib.hid h3; clear h3
          obtain ⟨ca, cb, cc, fa, fb, fc⟩ := Vx2.out.three
          go_upto_region 12 with (fail)
          have hS2 : ∀ w', Below wc.heap.size wc w' → w'.cell? ⟨gx, 0, none⟩ = some (.int .i64 px) ∧ w'.cell? ⟨gx, 1, none⟩ = some (.int .i64 qx) ∧ w'.cell? ⟨gx, 2, none⟩ = some (.string sx) ∧ w'.cell? (ad.add k) = some (.int .i64 z) := fun w' h =>
            ⟨(Vx2.out.below h hgl2).cell 0, (Vx2.out.below h hgl2).cell 1, (Vx2.out.below h hgl2).cell 2, (h.cell (p := ad.add k) hadl2).trans hcell2⟩
          have HSS := Lib.hid hS2; clear hS2
          go_cut [16] (fun u16 wx => HoldMid2 wc gx gy px qx sx x3 y3 t3 e3 u16 wx)
          case first =>
            have bb1 : Below wc.heap.size wc wc.drew := (Below.refl _ _).drew
            go_region_held3 (fun w' => w'.cell? ⟨gx, 0, none⟩ = some (.int .i64 px) ∧ w'.cell? ⟨gx, 1, none⟩ = some (.int .i64 qx) ∧ w'.cell? ⟨gx, 2, none⟩ = some (.string sx) ∧ w'.cell? (ad.add k) = some (.int .i64 z))
              (first | exact HSS.out _ bb2 | exact HSS.out _ bb1 | exact kk | go_keep)
              (first
                | (go_at_call 10; ((with_reducible refine (prep_any _ hx1 hx2 hx3 hx4 HSx.out hz1 hz2 H3.out).mono ?_); rintro e wa ⟨rfl, ha⟩; have bb2 : Below wc.heap.size wc wa := bmore bb1 ha (Nat.le_refl _); have hq := hold_3 (x := x3) (y := y3) (e := e3) (t := t3) bb2 Vx2.out Vy2.out hgyx; obtain ⟨q0, q1, q2, q3, q4, q5⟩ := hq.1.three; have mid := Lib.hid hq.2; have kk := hold_s (x := x3) (y := y3) (t := t3) (HSS.out _ bb2) hgyx hady; clear hq ha)))
            all_goals (go_wp2_with fail; go_meet; case rel => exact mid.out)
          case rest =>
            obtain ⟨rfl, hmb, hvx, hvy⟩ := hcut
            have HB3 := Lib.hid (hmb _ _ HB2.out (Nat.le_refl _) hgw)
            have Vx3 := Lib.hid hvx
            clear hmb ca cb cc fa fb fc HSS HB2 Vx2 Vy2
            obtain ⟨ca, cb, cc, fa, fb, fc⟩ := Vx3.out.three
            obtain ⟨da, db, dc, ga, gb, gc⟩ := hvy.three
            clear hvx hvy
            rcases H3.out.2 with ⟨he3, _⟩ | ⟨he3, ha1, ha2, ha3⟩
            · have z3 : (e3 == 0) = false := by simpa using he3
              clear he3
              have hnx : HoldRel w k0 gx wc := ⟨HB3.out, hgx, px, qx, sx, Vx3.out, hbp, hx1, hx2, hx3, hx4, HSx.out⟩
              have HNX := Lib.hid hnx; clear hnx
              go_wp2_with fail
              go_roundw
              case rel => exact ⟨k + 1, by omega, by go_num, HNX.out⟩
              case measure => simp [intOf]; omega
            · have hw := H3.out.1
              rw [he3] at hw
              obtain ⟨_, _, _, hpz⟩ := VM.wrong_zero.1 hw
              have hnx : HoldRel w k0 gx (((wc.setCell ⟨gx, 0, none⟩ (.int .i64 x3)).setCell ⟨gx, 1, none⟩ (.int .i64 y3)).setCell ⟨gx, 2, none⟩ (.string t3)) :=
                ⟨below_put3 HB3.out hgx _ _ _, hgx, x3, y3, t3, Vx3.out.put3 _ _ _, by omega, by omega, by omega, by omega, by omega, by rw [ha3]; exact HSx.out⟩
              have HNX := Lib.hid hnx
              clear hnx ha1 ha2 ha3 hw hpz
              subst he3
              go_wp2_with fail
              go_roundw
              case rel => exact ⟨k + 1, by omega, by go_num, HNX.out⟩
              case measure => simp [intOf]; omega
    · have hkn : k = n := by omega
      obtain ⟨x4, y4, t4, e4, h4⟩ := VM.accIs_ex px qx sx less u
      obtain ⟨x5, y5, t5, e5, h5⟩ := VM.prepIs_ex px qx sx less
      have H4 := Lib.hid h4; have H5 := Lib.hid h5
      have hend : k0 ≤ less ∨ (e4 ≠ 0 ∧ e5 ≠ 0 ∧ less < k0) := by
        by_cases hlb : k0 ≤ less
        · exact .inl hlb
        · refine .inr ⟨?_, ?_, by omega⟩
          · rintro rfl; have := (VM.wrong_zero.1 h4.1).2.2.2; omega
          · rintro rfl; have := (VM.wrong_zero.1 h5.1).2.2.2; omega
      have HE := Lib.hid hend
      clear h4 h5 hend HR hlt hk
      subst hkn
      obtain ⟨ca, cb, cc, _⟩ := Vx.out.three
      go_wp2_with fail
      clear ca cb cc
      refine (acc_any _ hx1 hx2 hx3 hx4 HSx.out hl1 hl2 HU.out H4.out).mono ?_
      rintro e w95 ⟨rfl, hc⟩
      have hx := var3 hc 23 (.int .i64 x4) (.int .i64 y4) (.string t4)
      have Vx6 := Lib.hid (Vx.out.below hx.1 hgl)
      have HB6 := Lib.hid (bmore HB.out hx.1 (Nat.le_refl _))
      clear hc hx
      obtain ⟨ca, cb, cc, _⟩ := Vx6.out.three
      go_wp2_with fail
      clear ca cb cc
      generalize w95.alloc (.cells #[.int .i64 x4, .int .i64 y4, .string t4] 23) = w96 at Vx6 HB6 ⊢
      refine (prep_any _ hx1 hx2 hx3 hx4 HSx.out hl1 hl2 H5.out).mono ?_
      rintro e w97 ⟨rfl, hc⟩
      have hx := var3 hc 23 (.int .i64 x5) (.int .i64 y5) (.string t5)
      have HB7 := Lib.hid (bmore HB6.out hx.1 (Nat.le_refl _))
      clear hc hx
      rcases HE.out with hlb | ⟨h4, h5, hlb⟩
      · go_wp2_with fail
        go_ret
        exact ⟨rfl, HB7.out⟩
      · have z4 : (e4 != 0) = true := by simpa using h4
        have z5 : (e5 != 0) = true := by simpa using h5
        clear h4 h5
        go_wp2_with fail
        go_ret
        exact ⟨rfl, HB7.out⟩
end Go.Proofs.Ytgdelnegameapaa
