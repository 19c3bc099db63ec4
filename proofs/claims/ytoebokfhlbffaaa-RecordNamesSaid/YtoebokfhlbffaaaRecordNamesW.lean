/-
  The walk of RecordNames: the limits, the chapter's examples. No input.
-/
import Derived.Test.YtoebokfhlbffaaaRecAlive
import Derived.Test.YtoebokfhlbffaaaRecRd
namespace Go.Proofs.Ytoebokfhlbffaaa
open Go.RowKit RP
set_option linter.unusedVariables false
set_option linter.unusedSimpArgs false

theorem no_read (s : ByteArray) (hS : s.size ≤ maxLen) (h : RM.read (RM.bsz s) = none) (w : World) :
    Calls Try.prog 8 #[.string s] w fun e w' => e = .returned (.tuple #[.agg #[.int .u8 0, .int .i64 0, .int .i64 0, .int .i64 0, .string ⟨#[]⟩], .int .i64 8]) ∧ Below w.heap.size w w' := by
  have h2 := RM.readIs_read (RM.bsz s)
  rw [h] at h2
  exact read_any s (r := RM.zero) (e := 8) h2 hS w
set_option maxRecDepth 100000 in
set_option maxHeartbeats 4000000 in
theorem recordNames_walk (w : World) :
    Calls Try.prog 3 #[] w fun e w' => e = .returned (.bool true) ∧ Below w.heap.size w w' := by
  have W1 := Lib.hid (fun w => write_any 2 0 200 8 ⟨#[97, 98]⟩ (show RM.WrIs ⟨2, 0, 200, 8, ⟨#[97, 98]⟩⟩ ⟨#[2, 0, 200, 1, 8, 2, 97, 98]⟩ 0 from .inl ⟨by decide +kernel, by decide +kernel, rfl⟩) (by omega) (by omega) (by decide) w)
  have W2 := Lib.hid (fun w => write_any 3 3 1 0 ⟨#[]⟩ (show RM.WrIs ⟨3, 3, 1, 0, ⟨#[]⟩⟩ ⟨#[3, 3, 1, 0]⟩ 0 from .inl ⟨by decide +kernel, by decide +kernel, rfl⟩) (by omega) (by omega) (by decide) w)
  have R1 := Lib.hid (fun w => no_read ⟨#[1, 1, 2, 17, 0]⟩ (by decide) (by decide +kernel) w)
  have R2 := Lib.hid (fun w => no_read ⟨#[1, 1, 2, 7]⟩ (by decide) (by decide +kernel) w)
  have R3 := Lib.hid (fun w => no_read ⟨#[3, 4, 1, 0]⟩ (by decide) (by decide +kernel) w)
  have CC := Lib.hid (fun w => chk_any 0 0 0 0 ⟨#[]⟩ (show ChkIs ⟨0, 0, 0, 0, ⟨#[]⟩⟩ 8 from .inr ⟨by decide +kernel, rfl⟩) (by omega) (by omega) (by decide) w)
  go_enter Try.func3, Try.ntmps3
  go_wp2_with fail
  refine (W1.out _).mono ?_
  rintro e1 w1 ⟨rfl, hb⟩
  have HB := Lib.hid hb
  clear hb W1
  go_wp2_with fail
  refine (W2.out _).mono ?_
  rintro e1 w2 ⟨rfl, hb⟩
  replace HB := Lib.hid (bmore HB.out hb (Nat.le_refl _))
  clear hb W2
  go_wp2_with fail
  refine (R1.out _).mono ?_
  rintro e1 w3 ⟨rfl, hb⟩
  replace HB := Lib.hid (bmore HB.out hb (Nat.le_refl _))
  replace HB := Lib.hid (HB.out.alloc HB.out.size (.cells #[.int .u8 0, .int .i64 0, .int .i64 0, .int .i64 0, .string ⟨#[]⟩] 26))
  clear hb R1
  go_wp2_with fail
  refine (R2.out _).mono ?_
  rintro e1 w4 ⟨rfl, hb⟩
  replace HB := Lib.hid (bmore HB.out hb (Nat.le_refl _))
  replace HB := Lib.hid (HB.out.alloc HB.out.size (.cells #[.int .u8 0, .int .i64 0, .int .i64 0, .int .i64 0, .string ⟨#[]⟩] 26))
  clear hb R2
  go_wp2_with fail
  refine (R3.out _).mono ?_
  rintro e1 w5 ⟨rfl, hb⟩
  replace HB := Lib.hid (bmore HB.out hb (Nat.le_refl _))
  replace HB := Lib.hid (HB.out.alloc HB.out.size (.cells #[.int .u8 0, .int .i64 0, .int .i64 0, .int .i64 0, .string ⟨#[]⟩] 26))
  clear hb R3
  go_wp2_with fail
  refine (alive_any _).mono ?_
  rintro e1 w6 ⟨rfl, hb⟩
  replace HB := Lib.hid (bmore HB.out hb (Nat.le_refl _))
  clear hb
  go_wp2_with fail
  refine (CC.out _).mono ?_
  rintro e1 w7 ⟨rfl, hb⟩
  replace HB := Lib.hid (bmore HB.out hb (Nat.le_refl _))
  clear hb CC
  go_wp2_with fail
  go_ret
  exact ⟨rfl, HB.out⟩
end Go.Proofs.Ytoebokfhlbffaaa
