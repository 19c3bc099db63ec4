/-
  The walk of StampIds: ids, and whose they are, are the document's. Conditions: any numbers.
-/
import Derived.Test.YteenodmkpdcbaaaSpA
import Derived.Test.YteenodmkpdcbaaaSpR
import Derived.Test.YteenodmkpdcbaaaArgOne
namespace Go.Proofs.Yteenodmkpdcbaaa
open Go.RowKit TP
set_option linter.unusedVariables false
set_option linter.unusedSimpArgs false
set_option maxRecDepth 100000

set_option maxHeartbeats 2000000 in
theorem stampIds_walk (s n i : Int) (w : World) (hs : (Lit.int .i64 s).wf = true) (hn : (Lit.int .i64 n).wf = true) (hi : (Lit.int .i64 i).wf = true) :
    Calls Try.prog 5 #[.int .i64 s, .int .i64 n, .int .i64 i] w fun e w' => e = .returned (.bool true) ∧ Below w.heap.size w w' := by
  obtain ⟨h1, h2⟩ := range_i64 hi
  obtain ⟨x, y, hid⟩ := TM.idIs_ex s n
  obtain ⟨r, m, z, hof⟩ := TM.ofIs_ex i
  have K1 := Lib.hid (fun w => pid_any hid w)
  have K2 := Lib.hid (fun w => rid_any hid w)
  have K3 := Lib.hid (fun w => pof_any hof h1 h2 w)
  have K4 := Lib.hid (fun w => rof_any hof w)
  have e1 : (x == x) = true := by simp
  have e2 : (y == y) = true := by simp
  have e3 : (r == r) = true := by simp
  have e4 : (m == m) = true := by simp
  have e5 : (z == z) = true := by simp
  clear hid hof h1 h2 hs hn hi
  go_enter Try.func5, Try.ntmps5
  go_wp2_with fail
  refine (K1.out _).mono ?_
  rintro e w1 ⟨rfl, rfl⟩
  go_wp2_with fail
  refine (K2.out _).mono ?_
  rintro e w1 ⟨rfl, rfl⟩
  go_wp2_with fail
  refine (K3.out _).mono ?_
  rintro e w1 ⟨rfl, rfl⟩
  go_wp2_with fail
  refine (K4.out _).mono ?_
  rintro e w1 ⟨rfl, rfl⟩
  go_wp2_with fail
  go_ret
  exact ⟨rfl, Below.refl _ _⟩
end Go.Proofs.Yteenodmkpdcbaaa
