/-
  What 'some' and 'alive' of the laws answer: the chapter's disk, and true. Conditions: none.
-/
import Derived.Test.YtnbnnnphepfkkaaDiskS
namespace Go.Proofs.Ytnbnnnphepfkkaa
open Go.RowKit
set_option linter.unusedVariables false

def someDisk : List DM.Wr := [(false, [3, 4]), (true, [9]), (false, [8])]
theorem some_1 : LenIs [1, 2] [] (false, [3, 4]) [1, 2] [(false, [3, 4])] 0 := .inr (.inr ⟨by decide, by decide, rfl, rfl, rfl⟩)
theorem some_2 : LenIs [1, 2] [(false, [3, 4])] (true, [9]) [1, 2] [(false, [3, 4]), (true, [9])] 0 := .inr (.inr ⟨by decide, by decide, rfl, rfl, rfl⟩)
theorem some_3 : LenIs [1, 2] [(false, [3, 4]), (true, [9])] (false, [8]) [1, 2] someDisk 0 := .inr (.inr ⟨by decide, by decide, rfl, rfl, rfl⟩)
def SomePost (w : World) (e : Ending) (w' : World) : Prop := ∃ A c B d, e = .returned (.tuple #[.agg #[.slice A 2 c, .slice B 3 d], .bool true]) ∧ DiskOwn w' w.heap.size 5 40 (.agg #[.slice A 2 c, .slice B 3 d]) [1, 2] someDisk ∧ Below w.heap.size w w'

set_option maxRecDepth 100000 in
set_option maxHeartbeats 4000000 in
theorem some_any (w : World) : Calls Try.prog 8 #[] w (SomePost w) := by
  have hb0 : Below w.heap.size w (((w.alloc (.cells #[.slice none 0 0, .slice none 0 0] 25)).alloc (.cells #[.int .u8 1, .int .u8 2] 5)).alloc (.cells #[.int .u8 3, .int .u8 4] 5)) := ((((Below.refl _ _).alloc (Nat.le_refl _) _).alloc (by simp) _).alloc (by simp; omega) _)
  have x0 : Box (((w.alloc (.cells #[.slice none 0 0, .slice none 0 0] 25)).alloc (.cells #[.int .u8 1, .int .u8 2] 5)).alloc (.cells #[.int .u8 3, .int .u8 4] 5)) w.heap.size 25 #[.slice none 0 0, .slice none 0 0] := ((Box.new w _ _).alloc _).alloc _
  have x1 : Box (((w.alloc (.cells #[.slice none 0 0, .slice none 0 0] 25)).alloc (.cells #[.int .u8 1, .int .u8 2] 5)).alloc (.cells #[.int .u8 3, .int .u8 4] 5)) (w.heap.size + 1) 5 #[.int .u8 1, .int .u8 2] := (Box.new_at (w.heap.size + 1) (by simp)).alloc _
  have x2 : Box (((w.alloc (.cells #[.slice none 0 0, .slice none 0 0] 25)).alloc (.cells #[.int .u8 1, .int .u8 2] 5)).alloc (.cells #[.int .u8 3, .int .u8 4] 5)) (w.heap.size + 1 + 1) 5 #[.int .u8 3, .int .u8 4] := Box.new_at (w.heap.size + 1 + 1) (by simp)
  have X0 := Lib.hid x0
  have HV := Lib.hid (disk_lit (c := 2) (rd_box (xs := bc [1, 2]) x1 rfl rfl) (Nat.le_refl _) (by unfold maxLen; omega))
  have HQ := Lib.hid (rd_box (xs := bc [3, 4]) x2 rfl rfl)
  have HB0 := Lib.hid hb0
  clear x0 x1 x2 hb0
  go_enter Try.func8, Try.ntmps8
  go_wp2_with fail
  generalize (((w.alloc (.cells #[.slice none 0 0, .slice none 0 0] 25)).alloc (.cells #[.int .u8 1, .int .u8 2] 5)).alloc (.cells #[.int .u8 3, .int .u8 4] 5)) = w0 at X0 HV HQ HB0 ⊢
  refine (append_s _ _ 2 2 [1, 2] [3, 4] _ [] _ 0 2 1 _ HV HQ (Nat.le_refl _) (Lib.hid (by unfold maxLen; omega)) (Lib.hid some_1) (Lib.hid rfl) (Lib.hid rfl)).mono ?_
  rintro e w1 ⟨A1, c1, B1, d1, rfl, hown1, hb1⟩
  clear HV HQ
  have hW1 := bmore HB0.out hb1 (Nat.le_refl _)
  have x0 := X0.out.below hb1 X0.out.lt
  have hg1 : w.heap.size < w1.heap.size := x0.lt
  clear HB0 X0 hb1
  -- the variable d, and the bytes 9
  have hb2 : Below w1.heap.size w1 ((w1.alloc (.cells #[.slice A1 2 c1, .slice B1 1 d1] 25)).alloc (.cells #[.int .u8 9] 5)) := ((Below.refl _ _).alloc (Nat.le_refl _) _).alloc (by simp) _
  have y0 := (x0.alloc (.cells #[.slice A1 2 c1, .slice B1 1 d1] 25)).alloc (.cells #[.int .u8 9] 5)
  have y1 := (Box.new w1 25 #[.slice A1 2 c1, .slice B1 1 d1]).alloc (.cells #[.int .u8 9] 5)
  have y2 : Box ((w1.alloc (.cells #[.slice A1 2 c1, .slice B1 1 d1] 25)).alloc (.cells #[.int .u8 9] 5)) (w1.heap.size + 1) 5 #[.int .u8 9] := Box.new_at (w1.heap.size + 1) (by simp)
  have HV := Lib.hid (hown1.below hb2).is
  have HQ := Lib.hid (rd_box (xs := bc [9]) y2 rfl rfl)
  have Y0 := Lib.hid y0
  have Y1 := Lib.hid y1
  have HB1 := Lib.hid (bmore hW1 hb2 (Nat.le_refl _))
  clear x0 y0 y1 y2 hb2 hown1
  clear hW1
  go_wp2_with fail
  generalize ((w1.alloc (.cells #[.slice A1 2 c1, .slice B1 1 d1] 25)).alloc (.cells #[.int .u8 9] 5)) = w2 at HV HQ Y0 Y1 HB1 ⊢
  obtain ⟨g, hg⟩ : ∃ g, w1.heap.size = g := ⟨_, rfl⟩
  rw [hg] at hg1 Y1 HQ ⊢
  clear hg
  refine (swap_s _ _ 1 1 [1, 2] [9] _ [(false, [3, 4])] _ 0 2 2 _ HV HQ (Nat.le_refl _) (Lib.hid (by unfold maxLen; omega)) (Lib.hid some_2) (Lib.hid rfl) (Lib.hid rfl)).mono ?_
  rintro e w3 ⟨A3, c3, B3, d3, rfl, hown3, hb3⟩
  clear HV HQ
  have hW3 := bmore HB1.out hb3 (Nat.le_refl _)
  have y0 := Y0.out.below hb3 Y0.out.lt
  have y1 := Y1.out.below hb3 Y1.out.lt
  have hgb := Y1.out.lt
  have hown3' := (hown3.put hgb (.slice A3 2 c3) (.slice B3 2 d3))
  have z0 := y0.putFar (g' := g) (by omega) (.slice A3 2 c3) (.slice B3 2 d3)
  have z1 := y1.put (.slice A3 2 c3) (.slice B3 2 d3)
  have hW4 := below_put hW3 (g := g) (by omega) (.slice A3 2 c3) (.slice B3 2 d3)
  have k0 : w3.cell? ⟨g, 0, none⟩ = some (.slice A1 2 c1) := y1.cell 0
  have k1 : w3.cell? ⟨g, 1, none⟩ = some (.slice B1 1 d1) := y1.cell 1
  have f0 : w3.frozen? ⟨g, 0, none⟩ = false := y1.frozen 0
  have f1 : w3.frozen? ⟨g, 1, none⟩ = false := y1.frozen 1
  have HO3 := Lib.hid (hown3'.mono (Nat.zero_le _))
  have Z0 := Lib.hid z0
  have Z1 := Lib.hid z1
  have HW4 := Lib.hid hW4
  clear HB1 Y0 Y1 hb3 hW3 y0 y1 hown3 hown3' z0 z1 hW4
  go_upto_region 3 with (fail)
  generalize (w3.setCell ⟨g, 0, none⟩ (.slice A3 2 c3)).setCell ⟨g, 1, none⟩ (.slice B3 2 d3) = w4 at HO3 Z0 Z1 HW4 ⊢
  clear k0 k1 f0 f1
  have hb5 : Below w4.heap.size w4 (w4.alloc (.cells #[.int .u8 8] 5)) := (Below.refl _ _).alloc (Nat.le_refl _) _
  have u0 := Z0.out.alloc (.cells #[.int .u8 8] 5)
  have u1 := Z1.out.alloc (.cells #[.int .u8 8] 5)
  have u2 := Box.new w4 5 #[.int .u8 8]
  have k0 : w4.cell? ⟨g, 0, none⟩ = some (.slice A3 2 c3) := Z1.out.cell 0
  have k1 : w4.cell? ⟨g, 1, none⟩ = some (.slice B3 2 d3) := Z1.out.cell 1
  have HV := Lib.hid (HO3.out.below hb5).is
  have HQ := Lib.hid (rd_box (xs := bc [8]) u2 rfl rfl)
  have U0 := Lib.hid u0
  have U1 := Lib.hid u1
  have HB5 := Lib.hid (bmore HW4.out hb5 (Nat.le_refl _))
  clear u0 u1 u2 hb5 HO3 Z0 Z1 HW4
  go_wp2_with fail
  generalize w4.alloc (.cells #[.int .u8 8] 5) = w5 at HV HQ U0 U1 HB5 ⊢
  obtain ⟨h, hh⟩ : ∃ h, w4.heap.size = h := ⟨_, rfl⟩
  rw [hh] at HQ ⊢
  clear hh k0 k1
  refine (append_s _ _ 1 1 [1, 2] [8] _ [(false, [3, 4]), (true, [9])] _ 0 2 3 _ HV HQ (Nat.le_refl _) (Lib.hid (by unfold maxLen; omega)) (Lib.hid some_3) (Lib.hid rfl) (Lib.hid rfl)).mono ?_
  rintro e w6 ⟨A6, c6, B6, d6, rfl, hown6, hb6⟩
  clear HV HQ
  have hW6 := bmore HB5.out hb6 (Nat.le_refl _)
  have u0 := U0.out.below hb6 U0.out.lt
  have u1 := U1.out.below hb6 U1.out.lt
  have hgb := U1.out.lt
  have hwb := U0.out.lt
  have hown7 := (hown6.put hgb (.slice A6 2 c6) (.slice B6 3 d6))
  have z0 := u0.putFar (g' := g) (by omega) (.slice A6 2 c6) (.slice B6 3 d6)
  have z1 := u1.put (.slice A6 2 c6) (.slice B6 3 d6)
  have hW7 := below_put hW6 (g := g) (by omega) (.slice A6 2 c6) (.slice B6 3 d6)
  have k0 : w6.cell? ⟨g, 0, none⟩ = some (.slice A3 2 c3) := u1.cell 0
  have k1 : w6.cell? ⟨g, 1, none⟩ = some (.slice B3 2 d3) := u1.cell 1
  have f0 : w6.frozen? ⟨g, 0, none⟩ = false := u1.frozen 0
  have f1 : w6.frozen? ⟨g, 1, none⟩ = false := u1.frozen 1
  have HO7 := Lib.hid hown7
  have Z0 := Lib.hid z0
  have Z1 := Lib.hid z1
  have HW7 := Lib.hid hW7
  clear HB5 U0 U1 hb6 hW6 u0 u1 hown6 hown7 z0 z1 hW7
  go_upto_region 4 with (fail)
  generalize (w6.setCell ⟨g, 0, none⟩ (.slice A6 2 c6)).setCell ⟨g, 1, none⟩ (.slice B6 3 d6) = w7 at HO7 Z0 Z1 HW7 ⊢
  clear k0 k1 f0 f1
  have k0 : w7.cell? ⟨g, 0, none⟩ = some (.slice A6 2 c6) := Z1.out.cell 0
  have k1 : w7.cell? ⟨g, 1, none⟩ = some (.slice B6 3 d6) := Z1.out.cell 1
  have r0 : w7.cell? ⟨w.heap.size, 0, none⟩ = some (.slice none 0 0) := Z0.out.cell 0
  have r1 : w7.cell? ⟨w.heap.size, 1, none⟩ = some (.slice none 0 0) := Z0.out.cell 1
  have f0 : w7.frozen? ⟨w.heap.size, 0, none⟩ = false := Z0.out.frozen 0
  have f1 : w7.frozen? ⟨w.heap.size, 1, none⟩ = false := Z0.out.frozen 1
  go_wp2_with fail
  exact bodyPost_ret (v := .tuple #[.agg #[.slice A6 2 c6, .slice B6 3 d6], .bool true]) (by simp [results, Try.results8, go_sem, r0, r1]) rfl ⟨_, _, _, _, rfl, (HO7.out.put (by omega) _ _).mono (by omega), below_put HW7.out (Nat.le_refl _) _ _⟩

theorem alive_1 : SeeIs [1, 2] someDisk [9, 8] 0 := .inl ⟨by decide, rfl, rfl⟩
set_option maxRecDepth 100000 in
set_option maxHeartbeats 4000000 in
theorem alive_any (w : World) : Calls Try.prog 12 #[] w fun e w' => e = .returned (.bool true) ∧ Below w.heap.size w w' := by
  go_enter Try.func12, Try.ntmps12
  go_wp2_with fail
  refine (some_any w).mono ?_
  rintro e w1 ⟨A, c, B, d, rfl, hown, hb⟩
  have hb1 : Below w1.heap.size w1 (w1.alloc (.cells #[.slice A 2 c, .slice B 3 d] 25)) := (Below.refl _ _).alloc (Nat.le_refl _) _
  have HV := Lib.hid (hown.below hb1).is
  have X := Lib.hid (Box.new w1 25 #[.slice A 2 c, .slice B 3 d])
  have HB := Lib.hid (bmore hb hb1 (Nat.le_refl _))
  clear hb1 hown hb
  go_wp2_with fail
  generalize w1.alloc (.cells #[.slice A 2 c, .slice B 3 d] 25) = w2 at HV X HB ⊢
  obtain ⟨g, hg⟩ : ∃ g, w1.heap.size = g := ⟨_, rfl⟩
  rw [hg] at X ⊢
  clear hg
  refine (see_s _ [1, 2] [9, 8] someDisk 2 0 _ HV (Lib.hid alive_1) (Lib.hid rfl)).mono ?_
  rintro e w3 ⟨A3, c3, rfl, hown3, hb3⟩
  have x3 := X.out.below hb3 X.out.lt
  have k1 : w3.cell? ⟨g, 1, none⟩ = some (.slice B 3 d) := x3.cell 1
  have hs : ∀ W, Below w3.heap.size w3 W → (convert 22 9 (.slice A3 2 c3)).run Try.prog W = .ok (.string ⟨#[9, 8]⟩) W := fun W hW => run_string_of W _ _ 5 A3 2 c3 [9, 8] Try.underlying22 Try.underlying5 Try.underlying9 ((Rd.of_own hown3).below hW)
  have hs0 := hs w3 (Below.refl _ _)
  have HB3 := Lib.hid (bmore HB.out hb3 (Nat.le_refl _))
  clear hs x3 hown3 hb3 X HB HV
  go_wp2
  go_ret
  exact ⟨rfl, HB3.out⟩
end Go.Proofs.Ytnbnnnphepfkkaa
