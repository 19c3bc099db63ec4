/-
  The document's own Twin of a command (towncrierref12): it, in new memory. Conditions: as CmIs says; at most 2,000 of each.
  The document's own Great of a command (towncrierref12): where it is false, there is little. Conditions: as CmIs says; lengths fit in an int.
-/
import Derived.Test.YtojbcadkcikaoaaProg
import Derived.Test.YtojbcadkcikaoaaK01
import Derived.Deep.DeepCutAuto
import Derived.Lib.MinMax
namespace Go.Proofs.Ytojbcadkcikaoaa.CP
open Go.RowKit
open CM (Mg Cm)
set_option linter.unusedVariables false
set_option linter.unusedSimpArgs false
set_option maxRecDepth 100000

theorem info_int : (Try.prog.info? 3).map (fun i => (i.zero, i.size, i.bytes)) = some (some (.int .i64 0), 1, 8) := by kernel_rfl
/-- the three variables, and what was there stays -/
structure Tw (w : World) (X Y O : Array Value) (u : World) : Prop where
  bl : Below w.heap.size w u
  bx : Box u w.heap.size 27 X
  by_ : Box u (w.heap.size + 1) 27 Y
  bo : Box u (w.heap.size + 1 + 1) 27 O
theorem Tw.below {w u u' : World} {X Y O : Array Value} (h : Tw w X Y O u) (hb : Below u.heap.size u u') : Tw w X Y O u' :=
  ⟨bmore h.bl hb (Nat.le_refl _), h.bx.below hb h.bx.lt, h.by_.below hb h.by_.lt, h.bo.below hb h.bo.lt⟩
theorem Tw.set {w u : World} {X Y O O' : Array Value} (h : Tw w X Y O u) (i : Nat) (x : Value) (ho : O.setIfInBounds i x = O') : Tw w X Y O' (u.setCell ⟨w.heap.size + 1 + 1, i, none⟩ x) :=
  ⟨h.bl.setCell (p := ⟨w.heap.size + 1 + 1, i, none⟩) (by show w.heap.size ≤ w.heap.size + 1 + 1; omega) x, h.bx.far (p := ⟨w.heap.size + 1 + 1, i, none⟩) (by show w.heap.size ≠ w.heap.size + 1 + 1; omega) x,
    h.by_.far (p := ⟨w.heap.size + 1 + 1, i, none⟩) (by show w.heap.size + 1 ≠ w.heap.size + 1 + 1; omega) x, ho ▸ h.bo.stored i x⟩
/-- a row of one's own, behind the three variables -/
def RowO (w u : World) (v : Value) (l : List Int) : Prop := u.ownsRow (w.heap.size + 1 + 1 + 1) 3 1 v l.length (ic l)
theorem RowO.set {w u : World} {v : Value} {l : List Int} (h : RowO w u v l) (i : Nat) (x : Value) : RowO w (u.setCell ⟨w.heap.size + 1 + 1, i, none⟩ x) v l :=
  ownsRow_setCell_below h (a := ⟨w.heap.size + 1 + 1, i, none⟩) (by show w.heap.size + 1 + 1 < _; omega) x
set_option maxHeartbeats 8000000 in
theorem twin12_any (x : Cm) (v : Value) (w : World) (h : CmIs w v x) (f1 : x.m.gs.length ≤ 2000) (f2 : x.ms.length ≤ 2000) :
    Calls Try.prog 15 #[v] w fun e w' => ∃ v', e = .returned v' ∧ CmIs w' v' x ∧ Below w.heap.size w w' := by
  obtain ⟨A, c, P, q, rfl, r1, r3⟩ := h
  obtain ⟨k, am, aid, atm, ams, atp, awh, an⟩ := x
  simp only at r1 r3 f1 f2
  obtain ⟨i0, hi, hz0, hz1, hz2⟩ := info_parts info_int
  have R1 := Lib.hid r1
  have R3 := Lib.hid r3
  clear r1 r3
  show Calls _ _ #[.agg #[.int .u8 k, .int .i64 am.id, .slice A am.gs.length c, .int .i64 am.tp, .string am.key, .string am.body, .int .i64 aid, .int .i64 atm, .slice P ams.length q, .int .i64 atp, .int .i64 awh, .int .i64 an]] _ _
  go_enter Try.func15, Try.ntmps15
  go_upto_region 2 with (fail)
  have HT : Hid (Tw w #[.int .u8 k, .int .i64 am.id, .slice A am.gs.length c, .int .i64 am.tp, .string am.key, .string am.body, .int .i64 aid, .int .i64 atm, .slice P ams.length q, .int .i64 atp, .int .i64 awh, .int .i64 an] #[.int .u8 0, .int .i64 0, .slice none 0 0, .int .i64 0, .string ⟨#[]⟩, .string ⟨#[]⟩, .int .i64 0, .int .i64 0, .slice none 0 0, .int .i64 0, .int .i64 0, .int .i64 0] #[.int .u8 k, .int .i64 am.id, .slice A am.gs.length c, .int .i64 am.tp, .string am.key, .string am.body, .int .i64 aid, .int .i64 atm, .slice P ams.length q, .int .i64 atp, .int .i64 awh, .int .i64 an] (((w.alloc (.cells #[.int .u8 k, .int .i64 am.id, .slice A am.gs.length c, .int .i64 am.tp, .string am.key, .string am.body, .int .i64 aid, .int .i64 atm, .slice P ams.length q, .int .i64 atp, .int .i64 awh, .int .i64 an] 27)).alloc (.cells #[.int .u8 0, .int .i64 0, .slice none 0 0, .int .i64 0, .string ⟨#[]⟩, .string ⟨#[]⟩, .int .i64 0, .int .i64 0, .slice none 0 0, .int .i64 0, .int .i64 0, .int .i64 0] 27)).alloc (.cells #[.int .u8 k, .int .i64 am.id, .slice A am.gs.length c, .int .i64 am.tp, .string am.key, .string am.body, .int .i64 aid, .int .i64 atm, .slice P ams.length q, .int .i64 atp, .int .i64 awh, .int .i64 an] 27))) := Lib.hid ⟨(((Below.refl _ _).alloc (Nat.le_refl _) _).alloc (by simp) _).alloc (by simp; omega) _, ((Box.new _ _ _).alloc _).alloc _, (Box.new_at _ (by simp)).alloc _, Box.new_at _ (by simp)⟩
  generalize ((w.alloc (.cells #[.int .u8 k, .int .i64 am.id, .slice A am.gs.length c, .int .i64 am.tp, .string am.key, .string am.body, .int .i64 aid, .int .i64 atm, .slice P ams.length q, .int .i64 atp, .int .i64 awh, .int .i64 an] 27)).alloc (.cells #[.int .u8 0, .int .i64 0, .slice none 0 0, .int .i64 0, .string ⟨#[]⟩, .string ⟨#[]⟩, .int .i64 0, .int .i64 0, .slice none 0 0, .int .i64 0, .int .i64 0, .int .i64 0] 27)).alloc (.cells #[.int .u8 k, .int .i64 am.id, .slice A am.gs.length c, .int .i64 am.tp, .string am.key, .string am.body, .int .i64 aid, .int .i64 atm, .slice P ams.length q, .int .i64 atp, .int .i64 awh, .int .i64 an] 27) = w3 at HT ⊢
  obtain ⟨x0, x1, x2, x3, x4, x5, x6, x7, x8, x9, x10, x11⟩ := box_cm HT.out.bx
  obtain ⟨_, _, y2, _, _, _, _, _, y8, _, _, _⟩ := box_cm HT.out.bo
  have z2 := HT.out.bo.frozen 2
  have z8 := HT.out.bo.frozen 8
  go_upto_region 3 with (fail)
  clear x0 x1 x2 x3 x4 x5 x6 x7 x8 x9 x10 x11 z2 z8
  clear y2 y8
  replace HT := Lib.hid (HT.out.set 2 (.slice none 0 0) (O' := #[.int .u8 k, .int .i64 am.id, .slice none 0 0, .int .i64 am.tp, .string am.key, .string am.body, .int .i64 aid, .int .i64 atm, .slice P ams.length q, .int .i64 atp, .int .i64 awh, .int .i64 an]) (by simp))
  generalize w3.setCell ⟨w.heap.size + 1 + 1, 2, none⟩ (.slice none 0 0) = w4 at HT ⊢
  obtain ⟨x0, x1, x2, x3, x4, x5, x6, x7, x8, x9, x10, x11⟩ := box_cm HT.out.bx
  obtain ⟨_, _, y2, _, _, _, _, _, y8, _, _, _⟩ := box_cm HT.out.bo
  have z2 := HT.out.bo.frozen 2
  have z8 := HT.out.bo.frozen 8
  have hsz := HT.out.bo.lt
  go_upto_region 4 with (at_builtin; refine wpList_append_rd _ rfl _ _ 22 rfl (w.heap.size + 1 + 1 + 1) 3 i0 (.int .i64 0) 8 Try.underlying22 hi hz0 hz1 hz2 rfl (.slice none 0 0) 0 [] rfl (World.ownsRow_nil _ _ _ _) A am.gs.length c (ic am.gs) rfl (R1.out.below HT.out.bl).1 (ic_one _) (by unfold maxLen; omega) (by omega) hsz ?_; intro v1 u1 hown hgr hob; rw [Nat.zero_add] at hown; obtain ⟨A1, c1, rfl, hc1, hm1⟩ := own_form hown; have hb := below_of_grown hgr (by intro g h; cases h); have HO1 : Hid (RowO w u1 (.slice A1 am.gs.length c1) am.gs) := Lib.hid (by have := hown; unfold RowO; simpa using this); replace HT := Lib.hid (HT.out.below hb); clear x0 x1 x2 x3 x4 x5 x6 x7 x8 x9 x10 x11 y2 y8; obtain ⟨x0, x1, x2, x3, x4, x5, x6, x7, x8, x9, x10, x11⟩ := box_cm HT.out.bx; obtain ⟨_, _, y2, _, _, _, _, _, y8, _, _, _⟩ := box_cm HT.out.bo; have z2 := HT.out.bo.frozen 2; have z8 := HT.out.bo.frozen 8)
  clear x0 x1 x2 x3 x4 x5 x6 x7 x8 x9 x10 x11 z2 z8
  replace HT := Lib.hid (HT.out.set 2 (.slice A1 am.gs.length c1) (O' := #[.int .u8 k, .int .i64 am.id, .slice A1 am.gs.length c1, .int .i64 am.tp, .string am.key, .string am.body, .int .i64 aid, .int .i64 atm, .slice P ams.length q, .int .i64 atp, .int .i64 awh, .int .i64 an]) (by simp))
  replace HO1 := Lib.hid (HO1.out.set 2 (.slice A1 am.gs.length c1))
  clear hown hgr hob hb hsz y2 y8
  generalize u1.setCell ⟨w.heap.size + 1 + 1, 2, none⟩ (.slice A1 am.gs.length c1) = w5 at HT HO1 ⊢
  obtain ⟨x0, x1, x2, x3, x4, x5, x6, x7, x8, x9, x10, x11⟩ := box_cm HT.out.bx
  obtain ⟨_, _, y2, _, _, _, _, _, y8, _, _, _⟩ := box_cm HT.out.bo
  have z2 := HT.out.bo.frozen 2
  have z8 := HT.out.bo.frozen 8
  go_upto_region 5 with (fail)
  clear x0 x1 x2 x3 x4 x5 x6 x7 x8 x9 x10 x11 z2 z8
  clear y2 y8
  replace HT := Lib.hid (HT.out.set 8 (.slice none 0 0) (O' := #[.int .u8 k, .int .i64 am.id, .slice A1 am.gs.length c1, .int .i64 am.tp, .string am.key, .string am.body, .int .i64 aid, .int .i64 atm, .slice none 0 0, .int .i64 atp, .int .i64 awh, .int .i64 an]) (by simp))
  replace HO1 := Lib.hid (HO1.out.set 8 (.slice none 0 0))
  generalize w5.setCell ⟨w.heap.size + 1 + 1, 8, none⟩ (.slice none 0 0) = w6 at HT HO1 ⊢
  obtain ⟨x0, x1, x2, x3, x4, x5, x6, x7, x8, x9, x10, x11⟩ := box_cm HT.out.bx
  obtain ⟨_, _, y2, _, _, _, _, _, y8, _, _, _⟩ := box_cm HT.out.bo
  have z2 := HT.out.bo.frozen 2
  have z8 := HT.out.bo.frozen 8
  have hsz := HT.out.bo.lt
  go_upto_region 6 with (at_builtin; refine wpList_append_rd _ rfl _ _ 22 rfl (w.heap.size + 1 + 1 + 1) 3 i0 (.int .i64 0) 8 Try.underlying22 hi hz0 hz1 hz2 rfl (.slice none 0 0) 0 [] rfl (World.ownsRow_nil _ _ _ _) P ams.length q (ic ams) rfl (R3.out.below HT.out.bl).1 (ic_one _) (by unfold maxLen; omega) (by omega) hsz ?_; intro v2 u2 hown hgr hob; rw [Nat.zero_add] at hown; obtain ⟨P1, d1, rfl, hc2, hm2⟩ := own_form hown; have hb := below_of_grown hgr (by intro g h; cases h); have HO2 : Hid (RowO w u2 (.slice P1 ams.length d1) ams) := Lib.hid (by have := hown; unfold RowO; simpa using this); replace HT := Lib.hid (HT.out.below hb); clear x0 x1 x2 x3 x4 x5 x6 x7 x8 x9 x10 x11 y2 y8; obtain ⟨x0, x1, x2, x3, x4, x5, x6, x7, x8, x9, x10, x11⟩ := box_cm HT.out.bx; obtain ⟨_, _, y2, _, _, _, _, _, y8, _, _, _⟩ := box_cm HT.out.bo; have z2 := HT.out.bo.frozen 2; have z8 := HT.out.bo.frozen 8)
  clear x0 x1 x2 x3 x4 x5 x6 x7 x8 x9 x10 x11 z2 z8
  replace HO1 := Lib.hid ((show RowO w u2 _ _ from own_below HO1.out hb).set 8 (.slice P1 ams.length d1))
  replace HT := Lib.hid (HT.out.set 8 (.slice P1 ams.length d1) (O' := #[.int .u8 k, .int .i64 am.id, .slice A1 am.gs.length c1, .int .i64 am.tp, .string am.key, .string am.body, .int .i64 aid, .int .i64 atm, .slice P1 ams.length d1, .int .i64 atp, .int .i64 awh, .int .i64 an]) (by simp))
  replace HO2 := Lib.hid (HO2.out.set 8 (.slice P1 ams.length d1))
  clear hown hgr hob hb hsz y2 y8
  generalize u2.setCell ⟨w.heap.size + 1 + 1, 8, none⟩ (.slice P1 ams.length d1) = w7 at HT HO1 HO2 ⊢
  obtain ⟨y0, y1, y2, y3, y4, y5, y6, y7, y8, y9, y10, y11⟩ := box_cm HT.out.bo
  obtain ⟨m0, m1, m2, m3, m4, m5, m6, m7, m8, m9, m10, m11⟩ := box_cm HT.out.by_
  have z0 := HT.out.by_.frozen 0
  have z1 := HT.out.by_.frozen 1
  have z2 := HT.out.by_.frozen 2
  have z3 := HT.out.by_.frozen 3
  have z4 := HT.out.by_.frozen 4
  have z5 := HT.out.by_.frozen 5
  have z6 := HT.out.by_.frozen 6
  have z7 := HT.out.by_.frozen 7
  have z8 := HT.out.by_.frozen 8
  have z9 := HT.out.by_.frozen 9
  have z10 := HT.out.by_.frozen 10
  have z11 := HT.out.by_.frozen 11
  have HF := Lib.hid (And.intro (put12_own HO1.out (g := w.heap.size + 1) (by omega) (.int .u8 k) (.int .i64 am.id) (.slice A1 am.gs.length c1) (.int .i64 am.tp) (.string am.key) (.string am.body) (.int .i64 aid) (.int .i64 atm) (.slice P1 ams.length d1) (.int .i64 atp) (.int .i64 awh) (.int .i64 an)) (And.intro (put12_own HO2.out (g := w.heap.size + 1) (by omega) (.int .u8 k) (.int .i64 am.id) (.slice A1 am.gs.length c1) (.int .i64 am.tp) (.string am.key) (.string am.body) (.int .i64 aid) (.int .i64 atm) (.slice P1 ams.length d1) (.int .i64 atp) (.int .i64 awh) (.int .i64 an))
    (And.intro (put12_below HT.out.bl (g := w.heap.size + 1) (by omega) (.int .u8 k) (.int .i64 am.id) (.slice A1 am.gs.length c1) (.int .i64 am.tp) (.string am.key) (.string am.body) (.int .i64 aid) (.int .i64 atm) (.slice P1 ams.length d1) (.int .i64 atp) (.int .i64 awh) (.int .i64 an)) (put12_box HT.out.by_ (.int .u8 k) (.int .i64 am.id) (.slice A1 am.gs.length c1) (.int .i64 am.tp) (.string am.key) (.string am.body) (.int .i64 aid) (.int .i64 atm) (.slice P1 ams.length d1) (.int .i64 atp) (.int .i64 awh) (.int .i64 an)))))
  go_wp2_with fail
  unfold put12 at HF
  obtain ⟨q1, q2, qb, qx⟩ := HF.out
  obtain ⟨e0, e1, e2, e3, e4, e5, e6, e7, e8, e9, e10, e11⟩ := box_cm qx
  exact bodyPost_ret (v := .agg #[.int .u8 k, .int .i64 am.id, .slice A1 am.gs.length c1, .int .i64 am.tp, .string am.key, .string am.body, .int .i64 aid, .int .i64 atm, .slice P1 ams.length d1, .int .i64 atp, .int .i64 awh, .int .i64 an]) (by simp [results, Try.results15, go_sem, e0, e1, e2, e3, e4, e5, e6, e7, e8, e9, e10, e11]) rfl
    ⟨_, rfl, ⟨A1, c1, P1, d1, rfl, ⟨Rd.of_own q1, hc1, hm1⟩, ⟨Rd.of_own q2, hc2, hm2⟩⟩, qb⟩
end Go.Proofs.Ytojbcadkcikaoaa.CP

namespace Go.Proofs.Ytojbcadkcikaoaa.CP
open Go.RowKit
open CM (Mg Cm)
set_option linter.unusedVariables false
set_option linter.unusedSimpArgs false
set_option maxRecDepth 100000

def Little (x : Cm) : Prop := x.m.gs.length ≤ 1000 ∧ x.ms.length ≤ 1000 ∧ x.m.key.size ≤ 5000 ∧ x.m.body.size ≤ 5000
instance (x : Cm) : Decidable (Little x) := by unfold Little; infer_instance
set_option maxHeartbeats 4000000 in
theorem great12_any (x : Cm) (v : Value) (w : World) (h : CmIs w v x) (hf : CmFit x) :
    Calls Try.prog 14 #[v] w (BoolIs (decide (¬ Little x)) w) := by
  obtain ⟨A, c, P, q, rfl, r1, r3⟩ := h
  obtain ⟨k, am, aid, atm, ams, atp, awh, an⟩ := x
  obtain ⟨_, ⟨_, _, f1, f2⟩, _⟩ := hf
  have m1 := Nat.le_trans r1.2.1 r1.2.2
  have m3 := Nat.le_trans r3.2.1 r3.2.2
  simp only at m1 m3 f1 f2
  unfold maxLen at m1 m3 f1 f2
  have HA : Hid (∀ b : Bool, (b = true ↔ ¬ (am.gs.length ≤ 1000 ∧ ams.length ≤ 1000 ∧ am.key.size ≤ 5000 ∧ am.body.size ≤ 5000)) → b = decide (¬ Little ⟨k, am, aid, atm, ams, atp, awh, an⟩)) := Lib.hid (fun b hb => by
    rcases b with _ | _
    · exact (decide_eq_false (fun h => by have := hb.2 h; cases this)).symm
    · exact (decide_eq_true (hb.1 rfl)).symm)
  generalize decide (¬ Little ⟨k, am, aid, atm, ams, atp, awh, an⟩) = r at HA ⊢
  show Calls _ _ #[.agg #[.int .u8 k, .int .i64 am.id, .slice A am.gs.length c, .int .i64 am.tp, .string am.key, .string am.body, .int .i64 aid, .int .i64 atm, .slice P ams.length q, .int .i64 atp, .int .i64 awh, .int .i64 an]] _ _
  have HB : Hid (Below w.heap.size w (w.alloc (.cells #[.int .u8 k, .int .i64 am.id, .slice A am.gs.length c, .int .i64 am.tp, .string am.key, .string am.body, .int .i64 aid, .int .i64 atm, .slice P ams.length q, .int .i64 atp, .int .i64 awh, .int .i64 an] 27))) := Lib.hid ((Below.refl _ _).alloc (Nat.le_refl _) _)
  have HX := Lib.hid (Box.new w 27 #[.int .u8 k, .int .i64 am.id, .slice A am.gs.length c, .int .i64 am.tp, .string am.key, .string am.body, .int .i64 aid, .int .i64 atm, .slice P ams.length q, .int .i64 atp, .int .i64 awh, .int .i64 an])
  clear r1 r3
  go_enter Try.func14, Try.ntmps14
  go_upto_region 1 with (fail)
  generalize w.alloc (.cells #[.int .u8 k, .int .i64 am.id, .slice A am.gs.length c, .int .i64 am.tp, .string am.key, .string am.body, .int .i64 aid, .int .i64 atm, .slice P ams.length q, .int .i64 atp, .int .i64 awh, .int .i64 an] 27) = w1 at HX HB ⊢
  generalize w.heap.size = g0 at HX ⊢
  obtain ⟨x0, x1, x2, x3, x4, x5, x6, x7, x8, x9, x10, x11⟩ := box_cm HX.out
  by_cases h1 : 1000 < am.gs.length
  · have HF := Lib.hid (HA.out true (by simp; omega))
    have b1 : decide ((1000 : Int) < (am.gs.length : Int)) = true := by simp; omega
    clear HA
    go_wp2_with fail
    go_ret
    exact bool_ret HF.out HB.out
  have b1 : decide ((1000 : Int) < (am.gs.length : Int)) = false := by simp; omega
  by_cases h2 : 1000 < ams.length
  · have HF := Lib.hid (HA.out true (by simp; omega))
    have b2 : decide ((1000 : Int) < (ams.length : Int)) = true := by simp; omega
    clear HA
    go_wp2_with fail
    go_ret
    exact bool_ret HF.out HB.out
  have b2 : decide ((1000 : Int) < (ams.length : Int)) = false := by simp; omega
  by_cases h3 : 5000 < am.key.size
  · have HF := Lib.hid (HA.out true (by simp; omega))
    have b3 : decide ((5000 : Int) < (am.key.size : Int)) = true := by simp; omega
    clear HA
    go_wp2_with fail
    go_ret
    exact bool_ret HF.out HB.out
  have b3 : decide ((5000 : Int) < (am.key.size : Int)) = false := by simp; omega
  by_cases h4 : 5000 < am.body.size
  · have HF := Lib.hid (HA.out true (by simp; omega))
    have b4 : decide ((5000 : Int) < (am.body.size : Int)) = true := by simp; omega
    clear HA
    go_wp2_with fail
    go_ret
    exact bool_ret HF.out HB.out
  have b4 : decide ((5000 : Int) < (am.body.size : Int)) = false := by simp; omega
  have HF := Lib.hid (HA.out false (by simp; omega))
  clear HA
  go_wp2_with fail
  go_ret
  exact bool_ret HF.out HB.out
end Go.Proofs.Ytojbcadkcikaoaa.CP
