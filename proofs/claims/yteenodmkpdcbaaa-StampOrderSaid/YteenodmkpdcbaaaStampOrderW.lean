/-
  The walk of StampOrder: of two stamps that are not the same just one is less, none is less than itself, and less goes on. Conditions: any three stamps.
-/
import Derived.Test.YteenodmkpdcbaaaSpLv
import Derived.Test.YteenodmkpdcbaaaSpArg
namespace Go.Proofs.Yteenodmkpdcbaaa
open Go.RowKit TP
open TM (Sp)
set_option linter.unusedVariables false
set_option linter.unusedSimpArgs false
set_option maxRecDepth 100000

/-- three boxes in a row -/
structure Three (w : World) (g : Nat) (a b c : Sp) (W : World) : Prop where
  bl : Below w.heap.size w W
  x : Box W g 31 #[.int .i64 a.t, .int .i64 a.i]
  y : Box W (g + 1) 31 #[.int .i64 b.t, .int .i64 b.i]
  z : Box W (g + 2) 31 #[.int .i64 c.t, .int .i64 c.i]
theorem Three.below {w W W' : World} {g : Nat} {a b c : Sp} (h : Three w g a b c W) (hb : Below W.heap.size W W') : Three w g a b c W' :=
  ⟨bmore h.bl hb (Nat.le_refl _), h.x.below hb h.x.lt, h.y.below hb h.y.lt, h.z.below hb h.z.lt⟩
theorem Three.cells {w W : World} {g : Nat} {a b c : Sp} (h : Three w g a b c W) :
    (W.cell? ⟨g, 0, none⟩ = some (.int .i64 a.t) ∧ W.cell? ⟨g, 1, none⟩ = some (.int .i64 a.i)) ∧ (W.cell? ⟨g + 1, 0, none⟩ = some (.int .i64 b.t) ∧ W.cell? ⟨g + 1, 1, none⟩ = some (.int .i64 b.i)) ∧
      (W.cell? ⟨g + 2, 0, none⟩ = some (.int .i64 c.t) ∧ W.cell? ⟨g + 2, 1, none⟩ = some (.int .i64 c.i)) := ⟨box_2 h.x, box_2 h.y, box_2 h.z⟩
theorem three_new (w : World) (a b c : Sp) : Three w w.heap.size a b c (((w.alloc (.cells #[.int .i64 a.t, .int .i64 a.i] 31)).alloc (.cells #[.int .i64 b.t, .int .i64 b.i] 31)).alloc (.cells #[.int .i64 c.t, .int .i64 c.i] 31)) :=
  ⟨(((Below.refl _ _).alloc (Nat.le_refl _) _).alloc (by simp) _).alloc (by simp; omega) _, ((Box.new _ _ _).alloc _).alloc _, (Box.new_at _ (by simp)).alloc _, Box.new_at _ (by simp)⟩
set_option maxHeartbeats 4000000 in
theorem stampOrder_walk0 (a b c : Sp) (w : World) :
    Calls Try.prog 6 #[vsp a, vsp b, vsp c] w fun e w' => e = .returned (.bool true) ∧ Below w.heap.size w w' := by
  have HT := Lib.hid (three_new w a b c)
  have KA := Lib.hid (fun w => alive14_any w)
  have K1 := Lib.hid (fun w => pless_any a b w)
  have K2 := Lib.hid (fun w => pless_any b a w)
  have K3 := Lib.hid (fun w => pless_any b c w)
  have K4 := Lib.hid (fun w => pless_any a c w)
  by_cases hab : a = b
  · subst hab
    rw [TM.less_irrefl] at K1 K2
    clear K3 K4
    obtain ⟨at_, ai⟩ := a
    obtain ⟨ct, ci⟩ := c
    unfold vsp at K1 K2 ⊢
    simp only at K1 K2 HT ⊢
    go_enter Try.func6, Try.ntmps6
    go_upto_region 1 with (fail)
    generalize ((w.alloc (.cells #[.int .i64 at_, .int .i64 ai] 31)).alloc (.cells #[.int .i64 at_, .int .i64 ai] 31)).alloc (.cells #[.int .i64 ct, .int .i64 ci] 31) = w1 at HT ⊢
    generalize w.heap.size = g at HT ⊢
    go_wp2_with fail
    refine (KA.out _).mono ?_
    rintro e w2 ⟨rfl, hb⟩
    replace HT := Lib.hid (HT.out.below hb)
    clear hb
    obtain ⟨⟨x0, x1⟩, ⟨y0, y1⟩, z0, z1⟩ := HT.out.cells
    simp only at x0 x1 y0 y1 z0 z1
    go_wp2_with fail
    refine (K1.out _).mono ?_
    rintro e w3 ⟨rfl, hb⟩
    replace HT := Lib.hid (HT.out.below hb)
    clear hb
    clear x0 x1 y0 y1 z0 z1
    obtain ⟨⟨x0, x1⟩, ⟨y0, y1⟩, z0, z1⟩ := HT.out.cells
    simp only at x0 x1 y0 y1 z0 z1
    go_wp2_with fail
    refine (K2.out _).mono ?_
    rintro e w4 ⟨rfl, hb⟩
    replace HT := Lib.hid (HT.out.below hb)
    clear hb
    clear x0 x1 y0 y1 z0 z1
    obtain ⟨⟨x0, x1⟩, ⟨y0, y1⟩, z0, z1⟩ := HT.out.cells
    simp only at x0 x1 y0 y1 z0 z1
    go_wp2_with fail
    go_ret
    exact ⟨rfl, HT.out.bl⟩
  · have hne := TM.less_swap hab
    have hc : (a.t == b.t) = false ∨ ((a.t == b.t) = true ∧ (a.i == b.i) = false) := by
      by_cases e : a.t = b.t
      · right
        refine ⟨by simpa using e, ?_⟩
        have : a.i ≠ b.i := fun e2 => hab (by obtain ⟨p, q⟩ := a; obtain ⟨p', q'⟩ := b; simp only at e e2; rw [e, e2])
        simpa using this
      · left; simpa using e
    have HQ := Lib.hid (fun h1 h2 => TM.less_trans (a := a) (b := b) (c := c) h1 h2)
    clear hab
    rw [hne] at K2
    generalize TM.less a b = p at K1 K2 HQ
    generalize TM.less b c = q at K3 HQ
    generalize TM.less a c = r at K4 HQ
    obtain ⟨at_, ai⟩ := a
    obtain ⟨bt, bi⟩ := b
    obtain ⟨ct, ci⟩ := c
    unfold vsp at K1 K2 K3 K4 ⊢
    simp only at K1 K2 K3 K4 HT hc ⊢
    rcases p with _ | _
    · simp only [Bool.not_false] at K2
      clear K3 K4 HQ
      rcases hc with c1 | ⟨c1, c2⟩
      all_goals
        go_enter Try.func6, Try.ntmps6
        go_upto_region 1 with (fail)
        generalize ((w.alloc (.cells #[.int .i64 at_, .int .i64 ai] 31)).alloc (.cells #[.int .i64 bt, .int .i64 bi] 31)).alloc (.cells #[.int .i64 ct, .int .i64 ci] 31) = w1 at HT ⊢
        generalize w.heap.size = g at HT ⊢
        go_wp2_with fail
        refine (KA.out _).mono ?_
        rintro e w2 ⟨rfl, hb⟩
        replace HT := Lib.hid (HT.out.below hb)
        clear hb
        obtain ⟨⟨x0, x1⟩, ⟨y0, y1⟩, z0, z1⟩ := HT.out.cells
        simp only at x0 x1 y0 y1 z0 z1
        go_wp2_with fail
        refine (K1.out _).mono ?_
        rintro e w3 ⟨rfl, hb⟩
        replace HT := Lib.hid (HT.out.below hb)
        clear hb
        clear x0 x1 y0 y1 z0 z1
        obtain ⟨⟨x0, x1⟩, ⟨y0, y1⟩, z0, z1⟩ := HT.out.cells
        simp only at x0 x1 y0 y1 z0 z1
        go_wp2_with fail
        refine (K2.out _).mono ?_
        rintro e w4 ⟨rfl, hb⟩
        replace HT := Lib.hid (HT.out.below hb)
        clear hb
        clear x0 x1 y0 y1 z0 z1
        obtain ⟨⟨x0, x1⟩, ⟨y0, y1⟩, z0, z1⟩ := HT.out.cells
        simp only at x0 x1 y0 y1 z0 z1
        go_wp2_with fail
        go_ret
        exact ⟨rfl, HT.out.bl⟩
    · simp only [Bool.not_true] at K2
      rcases q with _ | _
      · clear K4 HQ
        rcases hc with c1 | ⟨c1, c2⟩
        all_goals
          go_enter Try.func6, Try.ntmps6
          go_upto_region 1 with (fail)
          generalize ((w.alloc (.cells #[.int .i64 at_, .int .i64 ai] 31)).alloc (.cells #[.int .i64 bt, .int .i64 bi] 31)).alloc (.cells #[.int .i64 ct, .int .i64 ci] 31) = w1 at HT ⊢
          generalize w.heap.size = g at HT ⊢
          go_wp2_with fail
          refine (KA.out _).mono ?_
          rintro e w2 ⟨rfl, hb⟩
          replace HT := Lib.hid (HT.out.below hb)
          clear hb
          obtain ⟨⟨x0, x1⟩, ⟨y0, y1⟩, z0, z1⟩ := HT.out.cells
          simp only at x0 x1 y0 y1 z0 z1
          go_wp2_with fail
          refine (K1.out _).mono ?_
          rintro e w3 ⟨rfl, hb⟩
          replace HT := Lib.hid (HT.out.below hb)
          clear hb
          clear x0 x1 y0 y1 z0 z1
          obtain ⟨⟨x0, x1⟩, ⟨y0, y1⟩, z0, z1⟩ := HT.out.cells
          simp only at x0 x1 y0 y1 z0 z1
          go_wp2_with fail
          refine (K2.out _).mono ?_
          rintro e w4 ⟨rfl, hb⟩
          replace HT := Lib.hid (HT.out.below hb)
          clear hb
          clear x0 x1 y0 y1 z0 z1
          obtain ⟨⟨x0, x1⟩, ⟨y0, y1⟩, z0, z1⟩ := HT.out.cells
          simp only at x0 x1 y0 y1 z0 z1
          go_wp2_with fail
          refine (K3.out _).mono ?_
          rintro e w5 ⟨rfl, hb⟩
          replace HT := Lib.hid (HT.out.below hb)
          clear hb
          clear x0 x1 y0 y1 z0 z1
          go_wp2_with fail
          go_ret
          exact ⟨rfl, HT.out.bl⟩
      · obtain rfl := HQ.out rfl rfl
        rcases hc with c1 | ⟨c1, c2⟩
        all_goals
          go_enter Try.func6, Try.ntmps6
          go_upto_region 1 with (fail)
          generalize ((w.alloc (.cells #[.int .i64 at_, .int .i64 ai] 31)).alloc (.cells #[.int .i64 bt, .int .i64 bi] 31)).alloc (.cells #[.int .i64 ct, .int .i64 ci] 31) = w1 at HT ⊢
          generalize w.heap.size = g at HT ⊢
          go_wp2_with fail
          refine (KA.out _).mono ?_
          rintro e w2 ⟨rfl, hb⟩
          replace HT := Lib.hid (HT.out.below hb)
          clear hb
          obtain ⟨⟨x0, x1⟩, ⟨y0, y1⟩, z0, z1⟩ := HT.out.cells
          simp only at x0 x1 y0 y1 z0 z1
          go_wp2_with fail
          refine (K1.out _).mono ?_
          rintro e w3 ⟨rfl, hb⟩
          replace HT := Lib.hid (HT.out.below hb)
          clear hb
          clear x0 x1 y0 y1 z0 z1
          obtain ⟨⟨x0, x1⟩, ⟨y0, y1⟩, z0, z1⟩ := HT.out.cells
          simp only at x0 x1 y0 y1 z0 z1
          go_wp2_with fail
          refine (K2.out _).mono ?_
          rintro e w4 ⟨rfl, hb⟩
          replace HT := Lib.hid (HT.out.below hb)
          clear hb
          clear x0 x1 y0 y1 z0 z1
          obtain ⟨⟨x0, x1⟩, ⟨y0, y1⟩, z0, z1⟩ := HT.out.cells
          simp only at x0 x1 y0 y1 z0 z1
          go_wp2_with fail
          refine (K3.out _).mono ?_
          rintro e w5 ⟨rfl, hb⟩
          replace HT := Lib.hid (HT.out.below hb)
          clear hb
          clear x0 x1 y0 y1 z0 z1
          obtain ⟨⟨x0, x1⟩, ⟨y0, y1⟩, z0, z1⟩ := HT.out.cells
          simp only at x0 x1 y0 y1 z0 z1
          go_wp2_with fail
          refine (K4.out _).mono ?_
          rintro e w6 ⟨rfl, hb⟩
          replace HT := Lib.hid (HT.out.below hb)
          clear hb
          clear x0 x1 y0 y1 z0 z1
          go_wp2_with fail
          go_ret
          exact ⟨rfl, HT.out.bl⟩
theorem stampOrder_walk (va : Value) (a : Sp) (vb : Value) (b : Sp) (vc : Value) (c : Sp) (w : World) (ha : SpArg va a) (hb : SpArg vb b) (hc : SpArg vc c) :
    Calls Try.prog 6 #[va, vb, vc] w fun e w' => e = .returned (.bool true) ∧ Below w.heap.size w w' := by
  obtain ⟨rfl, _⟩ := ha
  obtain ⟨rfl, _⟩ := hb
  obtain ⟨rfl, _⟩ := hc
  exact stampOrder_walk0 a b c w
end Go.Proofs.Yteenodmkpdcbaaa
