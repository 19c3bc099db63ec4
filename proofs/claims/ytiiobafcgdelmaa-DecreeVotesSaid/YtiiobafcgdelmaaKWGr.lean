/-
  What the document's Great (towncrierref09) tells of any world: one that is not great has short lists. Conditions: lengths fit in an int.
-/
import Derived.Test.YtiiobafcgdelmaaK29
import Derived.Test.YtiiobafcgdelmaaKAttGr
import Derived.Deep.LoopGhost
import Derived.Deep.CutBlock
namespace Go.Proofs.Ytiiobafcgdelmaa.PD
open Go.RowKit
set_option linter.unusedVariables false
set_option linter.unusedSimpArgs false

/-- what fits, but for the lists' lengths -/
structure WFitL (w : DC.Wd) : Prop where
  l0 : w.ms.length ≤ maxLen
  l1 : w.vs.length ≤ maxLen
  l2 : w.ts.length ≤ maxLen
  l3 : w.ml.length ≤ maxLen
  l4 : w.ch.length ≤ maxLen
  vs : ∀ v ∈ w.vs, VFit v
  ts : ∀ t ∈ w.ts, FitL t
  ml : ∀ m ∈ w.ml, MFit m
  ch : ∀ c ∈ w.ch, c.v.size ≤ maxLen
/-- a world that is not great -/
structure Small (w : DC.Wd) : Prop where
  l0 : w.ms.length ≤ 100
  l1 : w.vs.length ≤ 10
  l2 : w.ts.length ≤ 10
  l3 : w.ml.length ≤ 1100
  l4 : w.ch.length ≤ 1100
  ts : ∀ t ∈ w.ts, t.ms.length ≤ 100 ∧ t.ps.length ≤ 50 ∧ t.ac.length ≤ 100
theorem Small.fit {w : DC.Wd} (h : Small w) (F : WFitL w) : WFit w :=
  ⟨by have := h.l0; omega, by have := h.l1; omega, by have := h.l2; omega, by have := h.l3; omega, by have := h.l4; omega, F.vs, fun t ht => (F.ts t ht).fit (h.ts t ht).1 (h.ts t ht).2.1 (h.ts t ht).2.2, F.ml, F.ch⟩
def GrIs (w : DC.Wd) (W : World) (e : Ending) (W' : World) : Prop := ∃ b, e = .returned (.bool b) ∧ (b = false → Small w) ∧ Below W.heap.size W W'
theorem GrIs.mk {w : DC.Wd} {W W' : World} {b : Bool} (h : b = false → Small w) (hb : Below W.heap.size W W') : GrIs w W (.returned (.bool b)) W' := ⟨b, rfl, h, hb⟩
/-- the first k attempts are not great -/
def TsOk (w : DC.Wd) (k : Nat) : Prop := ∀ i t, w.ts[i]? = some t → i < k → t.ms.length ≤ 100 ∧ t.ps.length ≤ 50 ∧ t.ac.length ≤ 100
theorem TsOk.next {w : DC.Wd} {k : Nat} {t : AM.At} (h : TsOk w k) (ht : w.ts[k]? = some t) (h1 : t.ms.length ≤ 100 ∧ t.ps.length ≤ 50 ∧ t.ac.length ≤ 100) : TsOk w (k + 1) := by
  intro i x hx hi
  by_cases e : i = k
  · subst e; rw [ht] at hx; injection hx with hx; subst hx; exact h1
  · exact h i x hx (by omega)
theorem TsOk.all {w : DC.Wd} {k : Nat} (h : TsOk w k) (hk : w.ts.length ≤ k) : ∀ t ∈ w.ts, t.ms.length ≤ 100 ∧ t.ps.length ≤ 50 ∧ t.ac.length ≤ 100 := by
  intro t ht
  obtain ⟨i, hi⟩ := List.getElem?_of_mem ht
  exact h i t hi (by have := (List.getElem?_eq_some_iff.1 hi).1; omega)
set_option maxRecDepth 100000 in
set_option maxHeartbeats 8000000 in
theorem wgreat_any (v : Value) (w : DC.Wd) (W : World) (H : WIs W v w) (F : WFitL w) :
    Calls Try.prog 15 #[v] W (GrIs w W) := by
  obtain ⟨A0, c0, A1, c1, A2, c2, A3, c3, A4, c4, xs, rfl, R⟩ := H
  have b0 : w.ms.length ≤ 9223372036854775807 := by have := F.l0; unfold maxLen at this; omega
  have b1 : w.vs.length ≤ 9223372036854775807 := by have := F.l1; unfold maxLen at this; omega
  have b2 : w.ts.length ≤ 9223372036854775807 := by have := F.l2; unfold maxLen at this; omega
  have b3 : w.ml.length ≤ 9223372036854775807 := by have := F.l3; unfold maxLen at this; omega
  have b4 : w.ch.length ≤ 9223372036854775807 := by have := F.l4; unfold maxLen at this; omega
  obtain ⟨W0, hW0⟩ : ∃ W0, W0 = W.alloc (.cells #[.slice A0 w.ms.length c0, .slice A1 w.vs.length c1, .slice A2 w.ts.length c2, .slice A3 w.ml.length c3, .slice A4 w.ch.length c4] 28) := ⟨_, rfl⟩
  have hb0 : Below W.heap.size W W0 := by rw [hW0]; exact (Below.refl _ _).alloc (Nat.le_refl _) _
  have hx0 : Box W0 W.heap.size 28 #[.slice A0 w.ms.length c0, .slice A1 w.vs.length c1, .slice A2 w.ts.length c2, .slice A3 w.ml.length c3, .slice A4 w.ch.length c4] := by rw [hW0]; exact Box.new _ _ _
  have HB0 := Lib.hid hb0
  have X0 := Lib.hid hx0
  have HR := Lib.hid (R.below hb0)
  have HF := Lib.hid F
  clear hb0 hx0 R F
  go_enter Try.func15, Try.ntmps15
  go_upto_region 2 with (fail)
  rw [← hW0]
  clear hW0
  generalize hgb : W.heap.size = gb at X0 ⊢
  obtain ⟨⟨x0, x1, x2, x3, x4⟩, _⟩ := X0.out.five
  go_upto_block 0 with (fail)
  go_cut [3] (fun x wx => (∃ z : Int, x = .int .i64 z) ∧ W0 = wx)
  case first =>
    go_wp2_with fail
    go_loop [3, 4] (fun s i => ∃ (j : Nat) (z : Int), j ≤ w.ml.length ∧ i = .int .i64 j ∧ s = .int .i64 z) (fun _ i => w.ml.length - (intOf i).toNat)
    case atStart => exact ⟨0, _, by omega, rfl, rfl⟩
    case round =>
      obtain ⟨j, z, hj, rfl, rfl⟩ := hrel
      by_cases hlt : j < w.ml.length ∧ j < 2000
      · obtain ⟨hl1, hl2⟩ := hlt
        obtain ⟨bl, o, rfl, hbl, c0, c1, c2, c3, c4, c5, c6, c7, c8, c9⟩ := RdG.mail HR.out.h3 hl1 (List.getElem?_eq_getElem hl1)
        have hpv : (w.ml[j]).v.size ≤ 9223372036854775807 := by have := (HF.out.ml _ (List.getElem_mem hl1)).2.2.2.2.2; unfold maxLen at this; omega
        clear c0 c1 c2 c3 c4 c5 c6 c8 c9
        generalize w.ml[j].v = vv at c7 hpv
        have t1 : decide ((j : Int) < (w.ml.length : Int)) = true := by simp; omega
        have t2 : decide ((j : Int) < 2000) = true := by simp; omega
        have t3 : decide (j < w.ml.length) = true := by simp; omega
        have t4 : decide (j < 2000) = true := by simp; omega
        go_wp2_with fail
        go_round
        case rel => exact ⟨j + 1, _, by omega, by go_num, rfl⟩
        case measure => simp [intOf]; omega
      · rcases (show (¬ j < w.ml.length) ∨ (j < w.ml.length ∧ ¬ j < 2000) by omega) with h0 | ⟨h0, h0'⟩
        · have t1 : decide ((j : Int) < (w.ml.length : Int)) = false := by simp; omega
          have t3 : decide (j < w.ml.length) = false := by simp; omega
          clear hlt
          go_wp2_with fail
          go_meet
          case rel => exact ⟨⟨_, rfl⟩, rfl⟩
        · have t1 : decide ((j : Int) < (w.ml.length : Int)) = true := by simp; omega
          have t2 : decide ((j : Int) < 2000) = false := by simp; omega
          have t3 : decide (j < w.ml.length) = true := by simp; omega
          have t4 : decide (j < 2000) = false := by simp; omega
          clear hlt
          go_wp2_with fail
          go_meet
          case rel => exact ⟨⟨_, rfl⟩, rfl⟩
  case rest =>
    obtain ⟨⟨z, rfl⟩, rfl⟩ := hcut
    go_upto_block 2 with (fail)
    go_cut [3] (fun x wx => (∃ z : Int, x = .int .i64 z) ∧ W0 = wx)
    case first =>
      go_wp2_with fail
      go_loop [3, 5] (fun s i => ∃ (j : Nat) (z : Int), j ≤ w.ch.length ∧ i = .int .i64 j ∧ s = .int .i64 z) (fun _ i => w.ch.length - (intOf i).toNat)
      case atStart => exact ⟨0, _, by omega, rfl, rfl⟩
      case round =>
        obtain ⟨j, z, hj, rfl, rfl⟩ := hrel
        by_cases hlt : j < w.ch.length ∧ j < 2000
        · obtain ⟨hl1, hl2⟩ := hlt
          obtain ⟨bl, o, rfl, hbl, c0, c7⟩ := RdG.choice HR.out.h4 hl1 (List.getElem?_eq_getElem hl1)
          have hpv : (w.ch[j]).v.size ≤ 9223372036854775807 := by have := HF.out.ch _ (List.getElem_mem hl1); unfold maxLen at this; omega
          clear c0
          generalize w.ch[j].v = vv at c7 hpv
          have t1 : decide ((j : Int) < (w.ch.length : Int)) = true := by simp; omega
          have t2 : decide ((j : Int) < 2000) = true := by simp; omega
          have t3 : decide (j < w.ch.length) = true := by simp; omega
          have t4 : decide (j < 2000) = true := by simp; omega
          go_wp2_with fail
          go_round
          case rel => exact ⟨j + 1, _, by omega, by go_num, rfl⟩
          case measure => simp [intOf]; omega
        · rcases (show (¬ j < w.ch.length) ∨ (j < w.ch.length ∧ ¬ j < 2000) by omega) with h0 | ⟨h0, h0'⟩
          · have t1 : decide ((j : Int) < (w.ch.length : Int)) = false := by simp; omega
            have t3 : decide (j < w.ch.length) = false := by simp; omega
            clear hlt
            go_wp2_with fail
            go_meet
            case rel => exact ⟨⟨_, rfl⟩, rfl⟩
          · have t1 : decide ((j : Int) < (w.ch.length : Int)) = true := by simp; omega
            have t2 : decide ((j : Int) < 2000) = false := by simp; omega
            have t3 : decide (j < w.ch.length) = true := by simp; omega
            have t4 : decide (j < 2000) = false := by simp; omega
            clear hlt
            go_wp2_with fail
            go_meet
            case rel => exact ⟨⟨_, rfl⟩, rfl⟩
    case rest =>
      obtain ⟨⟨z, rfl⟩, rfl⟩ := hcut
      go_upto_block 4 with (fail)
      clear x0 x1 x2 x3 x4
      go_cut [3] (fun x wx => (x = .int .i64 z) ∧ Below W0.heap.size W0 wx ∧ TsOk w 20)
      case first =>
        go_wp2_with fail
        go_loopw [6] (fun i wr => ∃ j : Nat, j ≤ w.ts.length ∧ i = .int .i64 j ∧ Hid (Below W0.heap.size W0 wr ∧ TsOk w j)) (fun i _ => w.ts.length - (intOf i).toNat)
        case atStart => exact ⟨0, by omega, rfl, Lib.hid ⟨Below.refl _ _, fun i t _ h => absurd h (by omega)⟩⟩
        case round =>
          obtain ⟨j, hj, rfl, HK⟩ := hrel
          obtain ⟨⟨x0, x1, x2, x3, x4⟩, _⟩ := (X0.out.below HK.out.1 X0.out.lt).five
          by_cases hlt : j < w.ts.length ∧ j < 20
          · obtain ⟨hl1, hl2⟩ := hlt
            have ht := List.getElem?_eq_getElem hl1
            obtain ⟨bl, o, B, n, c, C, m, d, D, q, f, rfl, hbl, r1, r2, r3, t0, t1, t2, t3, t4, t5, t6⟩ := RdG.try_ (RdG.below HR.out.h2 HK.out.1) rfl (HR.out.ht.below HK.out.1) ht
            have hf := HF.out.ts _ (List.getElem_mem hl1)
            generalize w.ts[j] = t at ht r1 r2 r3 t0 t1 t2 t3 t4 t5 t6 hf
            have HG := Lib.hid (great_any (.agg #[.int .u8 t.ph, .int .i64 t.ba, .slice B n c, .string t.wi, .string t.va, .slice C m d, .slice D q f]) t wr ⟨B, n, c, C, m, d, D, q, f, rfl, r1, r2, r3⟩ hf)
            have HT := Lib.hid ht
            have e1 : decide ((j : Int) < (w.ts.length : Int)) = true := by simp; omega
            have e2 : decide ((j : Int) < 20) = true := by simp; omega
            have e3 : decide (j < w.ts.length) = true := by simp; omega
            have e4 : decide (j < 20) = true := by simp; omega
            have i0 : (0 : Int) ≤ (j : Int) := by omega
            have i1 : (j : Int) < (w.ts.length : Int) := by omega
            clear r1 r2 r3 hf ht
            go_wp2_with fail
            refine HG.out.mono ?_
            rintro e w1 ⟨b, rfl, hbf, hb⟩
            have HB1 := Lib.hid (bmore HK.out.1 hb (Nat.le_refl _))
            have HBF := Lib.hid hbf
            clear HG hbf hb t0 t1 t2 t3 t4 t5 t6 x0 x1 x2 x3 x4
            rcases b with _ | _
            · have HN := Lib.hid (HK.out.2.next HT.out (HBF.out rfl))
              go_wp2_with fail
              go_roundw
              case rel => exact ⟨j + 1, by omega, by go_num, Lib.hid ⟨HB1.out, HN.out⟩⟩
              case measure => simp [intOf]; omega
            · go_wp2_with fail
              go_ret
              exact GrIs.mk (fun h => by cases h) (bmore HB0.out HB1.out (Nat.le_refl _))
          · have HN : Hid (TsOk w 20) := Lib.hid (fun i t ht hi => by
              have hil := (List.getElem?_eq_some_iff.1 ht).1
              exact HK.out.2 i t ht (by omega))
            rcases (show (¬ j < w.ts.length) ∨ (j < w.ts.length ∧ ¬ j < 20) by omega) with h0 | ⟨h0, h0'⟩
            · have e1 : decide ((j : Int) < (w.ts.length : Int)) = false := by simp; omega
              have e3 : decide (j < w.ts.length) = false := by simp; omega
              clear hlt
              go_wp2_with fail
              go_meet
              case rel => exact ⟨rfl, HK.out.1, HN.out⟩
            · have e1 : decide ((j : Int) < (w.ts.length : Int)) = true := by simp; omega
              have e2 : decide ((j : Int) < 20) = false := by simp; omega
              have e3 : decide (j < w.ts.length) = true := by simp; omega
              have e4 : decide (j < 20) = false := by simp; omega
              clear hlt
              go_wp2_with fail
              go_meet
              case rel => exact ⟨rfl, HK.out.1, HN.out⟩
      case rest =>
        obtain ⟨rfl, hb5, hok⟩ := hcut
        have HB5 := Lib.hid hb5
        have HOK := Lib.hid hok
        obtain ⟨⟨x0, x1, x2, x3, x4⟩, _⟩ := (X0.out.below hb5 X0.out.lt).five
        have HBF := Lib.hid (bmore HB0.out hb5 (Nat.le_refl _))
        clear hb5 hok X0
        generalize wc = w5 at HB5 x0 x1 x2 x3 x4 HBF ⊢
        clear hgb
        go_upto_block 6 with (fail)
        go_cut [3] (fun x wx => (∃ z : Int, x = .int .i64 z) ∧ w5 = wx)
        case first =>
          go_wp2_with fail
          go_loop [3, 7] (fun s i => ∃ (j : Nat) (z : Int), j ≤ w.vs.length ∧ i = .int .i64 j ∧ s = .int .i64 z) (fun _ i => w.vs.length - (intOf i).toNat)
          case atStart => exact ⟨0, _, by omega, rfl, rfl⟩
          case round =>
            obtain ⟨j, z, hj, rfl, rfl⟩ := hrel
            by_cases hlt : j < w.vs.length ∧ j < 20
            · obtain ⟨hl1, hl2⟩ := hlt
              obtain ⟨bl, o, rfl, hbl, c0, c1, c7⟩ := RdG.vote (RdG.below HR.out.h1 HB5.out) hl1 (List.getElem?_eq_getElem hl1)
              have hpv : (w.vs[j]).v.size ≤ 9223372036854775807 := by have := (HF.out.vs _ (List.getElem_mem hl1)).2.2.2.2; unfold maxLen at this; omega
              clear c0 c1
              generalize w.vs[j].v = vv at c7 hpv
              have t1 : decide ((j : Int) < (w.vs.length : Int)) = true := by simp; omega
              have t2 : decide ((j : Int) < 20) = true := by simp; omega
              have t3 : decide (j < w.vs.length) = true := by simp; omega
              have t4 : decide (j < 20) = true := by simp; omega
              go_wp2_with fail
              go_round
              case rel => exact ⟨j + 1, _, by omega, by go_num, rfl⟩
              case measure => simp [intOf]; omega
            · rcases (show (¬ j < w.vs.length) ∨ (j < w.vs.length ∧ ¬ j < 20) by omega) with h0 | ⟨h0, h0'⟩
              · have t1 : decide ((j : Int) < (w.vs.length : Int)) = false := by simp; omega
                have t3 : decide (j < w.vs.length) = false := by simp; omega
                clear hlt
                go_wp2_with fail
                go_meet
                case rel => exact ⟨⟨_, rfl⟩, rfl⟩
              · have t1 : decide ((j : Int) < (w.vs.length : Int)) = true := by simp; omega
                have t2 : decide ((j : Int) < 20) = false := by simp; omega
                have t3 : decide (j < w.vs.length) = true := by simp; omega
                have t4 : decide (j < 20) = false := by simp; omega
                clear hlt
                go_wp2_with fail
                go_meet
                case rel => exact ⟨⟨_, rfl⟩, rfl⟩
        case rest =>
          obtain ⟨⟨z, rfl⟩, rfl⟩ := hcut
          rcases hz1 : decide (100000 < z) with _ | _
          rotate_left
          · go_wp2_with fail
            go_ret
            exact GrIs.mk (fun h => by simp_all) HBF.out
          by_cases hl3 : 1100 < w.ml.length
          · have e1 : decide ((1100 : Int) < (w.ml.length : Int)) = true := by simp; omega
            have e2 : decide (1100 < w.ml.length) = true := by simp; omega
            go_wp2_with fail
            go_ret
            exact GrIs.mk (fun h => by simp_all) HBF.out
          have el3 : decide ((1100 : Int) < (w.ml.length : Int)) = false := by simp; omega
          have fl3 : decide (1100 < w.ml.length) = false := by simp; omega
          by_cases hl4 : 1100 < w.ch.length
          · have e1 : decide ((1100 : Int) < (w.ch.length : Int)) = true := by simp; omega
            have e2 : decide (1100 < w.ch.length) = true := by simp; omega
            go_wp2_with fail
            go_ret
            exact GrIs.mk (fun h => by simp_all) HBF.out
          have el4 : decide ((1100 : Int) < (w.ch.length : Int)) = false := by simp; omega
          have fl4 : decide (1100 < w.ch.length) = false := by simp; omega
          by_cases hl2 : 10 < w.ts.length
          · have e1 : decide ((10 : Int) < (w.ts.length : Int)) = true := by simp; omega
            have e2 : decide (10 < w.ts.length) = true := by simp; omega
            go_wp2_with fail
            go_ret
            exact GrIs.mk (fun h => by simp_all) HBF.out
          have el2 : decide ((10 : Int) < (w.ts.length : Int)) = false := by simp; omega
          have fl2 : decide (10 < w.ts.length) = false := by simp; omega
          by_cases hl1 : 10 < w.vs.length
          · have e1 : decide ((10 : Int) < (w.vs.length : Int)) = true := by simp; omega
            have e2 : decide (10 < w.vs.length) = true := by simp; omega
            go_wp2_with fail
            go_ret
            exact GrIs.mk (fun h => by simp_all) HBF.out
          have el1 : decide ((10 : Int) < (w.vs.length : Int)) = false := by simp; omega
          have fl1 : decide (10 < w.vs.length) = false := by simp; omega
          by_cases hl0 : 100 < w.ms.length
          · have e1 : decide ((100 : Int) < (w.ms.length : Int)) = true := by simp; omega
            have e2 : decide (100 < w.ms.length) = true := by simp; omega
            go_wp2_with fail
            go_ret
            exact GrIs.mk (fun h => by simp_all) HBF.out
          have el0 : decide ((100 : Int) < (w.ms.length : Int)) = false := by simp; omega
          have fl0 : decide (100 < w.ms.length) = false := by simp; omega
          have HSM := Lib.hid (show Small w from ⟨by omega, by omega, by omega, by omega, by omega, HOK.out.all (by omega)⟩)
          go_wp2_with fail
          go_ret
          exact GrIs.mk (fun _ => HSM.out) HBF.out
end Go.Proofs.Ytiiobafcgdelmaa.PD
