/-
  The example that the statements of layer 14 begin with holds. No condition.
-/
import Derived.Test.YteenodmkpdcbaaaSpC
namespace Go.Proofs.Yteenodmkpdcbaaa.TP
open Go.RowKit
open TM (Sp)
set_option linter.unusedVariables false
set_option linter.unusedSimpArgs false
set_option maxRecDepth 100000

set_option maxHeartbeats 2000000 in
theorem alive14_any (w : World) : Calls Try.prog 11 #[] w (IsB true w) := by
  have K1 := Lib.hid (fun W => (show Calls _ _ #[.agg #[.int .i64 3, .int .i64 9], .agg #[.int .i64 4, .int .i64 1]] W (IsB true W) from pless_any ⟨3, 9⟩ ⟨4, 1⟩ W))
  have K2 := Lib.hid (fun W => (show Calls _ _ #[.agg #[.int .i64 3, .int .i64 9], .agg #[.int .i64 3, .int .i64 8]] W (IsB false W) from pless_any ⟨3, 9⟩ ⟨3, 8⟩ W))
  have K3 := Lib.hid (fun W => (show Calls _ _ #[.agg #[.int .i64 3, .int .i64 9], .agg #[.int .i64 3, .int .i64 9]] W (IsB false W) from pless_any ⟨3, 9⟩ ⟨3, 9⟩ W))
  go_enter Try.func11, Try.ntmps11
  go_upto_region 2 with (fail)
  have HB := Lib.hid (show Below w.heap.size w (w.alloc (.cells #[.int .i64 3, .int .i64 9] 31)) from (Below.refl _ _).alloc (Nat.le_refl _) _)
  have X := Lib.hid (Box.new w 31 #[.int .i64 3, .int .i64 9])
  generalize w.alloc (.cells #[.int .i64 3, .int .i64 9] 31) = w1 at HB X ⊢
  generalize hg : w.heap.size = g at X ⊢
  clear hg
  obtain ⟨x0, x1⟩ := box_2 X.out
  go_wp2_with fail
  refine (K1.out _).mono ?_
  rintro e w2 ⟨rfl, hb⟩
  replace HB := Lib.hid (bmore HB.out hb (Nat.le_refl _))
  replace X := Lib.hid (X.out.below hb X.out.lt)
  clear hb x0 x1
  obtain ⟨x0, x1⟩ := box_2 X.out
  go_wp2_with fail
  refine (K2.out _).mono ?_
  rintro e w3 ⟨rfl, hb⟩
  replace HB := Lib.hid (bmore HB.out hb (Nat.le_refl _))
  replace X := Lib.hid (X.out.below hb X.out.lt)
  clear hb x0 x1
  obtain ⟨x0, x1⟩ := box_2 X.out
  go_wp2_with fail
  refine (K3.out _).mono ?_
  rintro e w4 ⟨rfl, hb⟩
  replace HB := Lib.hid (bmore HB.out hb (Nat.le_refl _))
  replace X := Lib.hid (X.out.below hb X.out.lt)
  clear hb x0 x1
  obtain ⟨x0, x1⟩ := box_2 X.out
  go_wp2_with fail
  go_ret
  exact ⟨rfl, HB.out⟩
end Go.Proofs.Yteenodmkpdcbaaa.TP
