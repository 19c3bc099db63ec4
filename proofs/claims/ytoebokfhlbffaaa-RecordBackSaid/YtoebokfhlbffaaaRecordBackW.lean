/-
  The walk of RecordBack: what is written is read, what is read may be, and is written as just that text. Conditions: any record, any text.
-/
import Derived.Test.YtoebokfhlbffaaaRecAlive
import Derived.Test.YtoebokfhlbffaaaRecRd
import Derived.Test.YtoebokfhlbffaaaRecArg
namespace Go.Proofs.Ytoebokfhlbffaaa
open Go.RowKit RP
set_option linter.unusedVariables false
set_option linter.unusedSimpArgs false

/-- what a text is read as, and what is written of that -/
def SaidAt (s : ByteArray) : Prop :=
  (∀ w, Calls Try.prog 8 #[.string s] w fun e w' => e = .returned (.tuple #[.agg #[.int .u8 0, .int .i64 0, .int .i64 0, .int .i64 0, .string ⟨#[]⟩], .int .i64 8]) ∧ Below w.heap.size w w') ∨
  ∃ (k g p b : Int) (u : ByteArray), u.size ≤ 1024 ∧
    (∀ w, Calls Try.prog 8 #[.string s] w fun e w' => e = .returned (.tuple #[.agg #[.int .u8 k, .int .i64 g, .int .i64 p, .int .i64 b, .string u], .int .i64 0]) ∧ Below w.heap.size w w') ∧
    (∀ w, Calls Try.prog 7 #[.agg #[.int .u8 k, .int .i64 g, .int .i64 p, .int .i64 b, .string u]] w fun e w' => e = .returned (.tuple #[.string s, .int .i64 0]) ∧ Below w.heap.size w w') ∧
    (∀ w, Calls Try.prog 10 #[.agg #[.int .u8 k, .int .i64 g, .int .i64 p, .int .i64 b, .string u]] w fun e w' => e = .returned (.int .i64 0) ∧ Below w.heap.size w w')
theorem said_ex (s : ByteArray) (hS : s.size ≤ maxLen) : SaidAt s := by
  rcases RM.readIs_read (RM.bsz s) with ⟨_, hm, hw⟩ | ⟨_, hz, hno⟩
  · generalize (RM.read (RM.bsz s)).getD RM.zero = q at hm hw
    obtain ⟨k, g, p, b, u⟩ := q
    have h1 := RM.may_b hm
    have h2 := RM.may_v hm
    simp only at h1 h2
    refine .inr ⟨k, g, p, b, u, h2, fun w => read_any s (.inl ⟨rfl, hm, hw⟩) hS w, fun w => write_any k g p b u (.inl ⟨hm, ?_, rfl⟩) (by omega) (by omega) (by unfold maxLen; omega) w, fun w => chk_any k g p b u (.inl ⟨hm, rfl⟩) (by omega) (by omega) (by unfold maxLen; omega) w⟩
    rw [hw, RM.mk_bsz]
  · exact .inl fun w => read_any s (r := RM.zero) (.inr ⟨rfl, rfl, hno⟩) hS w

set_option maxRecDepth 100000 in
set_option maxHeartbeats 8000000 in
theorem recordBack_walk (v : Value) (r : RM.Rc) (s : ByteArray) (w : World) (hv : RecArg v r) (hS : s.size ≤ maxLen) :
    Calls Try.prog 5 #[v, .string s] w fun e w' => e = .returned (.bool true) ∧ Below w.heap.size w w' := by
  obtain ⟨rfl, hb1, hb2, hs⟩ := hv
  obtain ⟨k, g, p, b, u⟩ := r
  simp only at hb1 hb2 hs
  obtain ⟨t, e, hw⟩ := RM.wrIs_ex ⟨k, g, p, b, u⟩
  have CW := Lib.hid (fun w => write_any k g p b u hw hb1 hb2 hs w)
  have CS := Lib.hid (said_ex s hS)
  have HB := Lib.hid (show Below w.heap.size w (w.alloc (.cells #[.int .u8 k, .int .i64 g, .int .i64 p, .int .i64 b, .string u] 26)) from (Below.refl _ _).alloc (Nat.le_refl _) _)
  have R := Lib.hid (Box.new w 26 #[.int .u8 k, .int .i64 g, .int .i64 p, .int .i64 b, .string u])
  have hts : t.size ≤ 1040 := by
    rcases hw with ⟨hm, rfl, _⟩ | ⟨_, rfl, _⟩
    · show Array.size _ ≤ _
      have := RM.wr_len hm
      simpa using this
    · decide
  have HW := Lib.hid hw
  unfold maxLen at hS hs
  clear hw
  go_enter Try.func5, Try.ntmps5
  go_wp2_with fail
  refine (alive_any _).mono ?_
  rintro e1 w1 ⟨rfl, hb⟩
  replace HB := Lib.hid (bmore HB.out hb (by simp))
  replace R := Lib.hid (R.out.below hb R.out.lt)
  obtain ⟨⟨c0, c1, c2, c3, c4⟩, f0, f1, f2, f3, f4⟩ := box5 R.out
  clear hb
  by_cases l1 : 10000 < u.size
  · go_wp2_with fail
    go_ret
    exact ⟨rfl, HB.out⟩
  by_cases l2 : 10000 < s.size
  · go_wp2_with fail
    go_ret
    exact ⟨rfl, HB.out⟩
  go_wp2_with fail
  refine (CW.out _).mono ?_
  rintro e1 w2 ⟨rfl, hb⟩
  replace HB := Lib.hid (bmore HB.out hb (Nat.le_refl _))
  replace R := Lib.hid (R.out.below hb R.out.lt)
  clear hb c0 c1 c2 c3 c4 f0 f1 f2 f3 f4 CW
  rcases HW.out with ⟨hm, ht, rfl⟩ | ⟨_, _, rfl⟩
  · have CR := Lib.hid (fun w => (show Calls Try.prog 8 #[.string t] w fun e w' => e = .returned (.tuple #[.agg #[.int .u8 k, .int .i64 g, .int .i64 p, .int .i64 b, .string u], .int .i64 0]) ∧ Below w.heap.size w w' from read_any t (r := ⟨k, g, p, b, u⟩) (e := 0) (by rw [ht, RM.bsz_mk]; exact .inl ⟨rfl, hm, rfl⟩) (by unfold maxLen; omega) w))
    clear hm ht
    go_wp2_with fail
    refine (CR.out _).mono ?_
    rintro e1 w3 ⟨rfl, hb⟩
    replace HB := Lib.hid (bmore HB.out hb (Nat.le_refl _))
    replace R := Lib.hid (R.out.below hb R.out.lt)
    replace HB := Lib.hid (HB.out.alloc HB.out.size (.cells #[.int .u8 k, .int .i64 g, .int .i64 p, .int .i64 b, .string u] 26))
    replace R := Lib.hid (R.out.alloc (.cells #[.int .u8 k, .int .i64 g, .int .i64 p, .int .i64 b, .string u] 26))
    have X := Lib.hid (Box.new w3 26 #[.int .u8 k, .int .i64 g, .int .i64 p, .int .i64 b, .string u])
    clear hb CR
    go_upto_region 9 with (fail)
    generalize w3.alloc (.cells #[.int .u8 k, .int .i64 g, .int .i64 p, .int .i64 b, .string u] 26) = w4 at HB R X ⊢
    generalize w3.heap.size = h at X ⊢
    obtain ⟨⟨c0, c1, c2, c3, c4⟩, f0, f1, f2, f3, f4⟩ := box5 X.out
    obtain ⟨⟨d0, d1, d2, d3, d4⟩, g0, g1, g2, g3, g4⟩ := box5 R.out
    go_upto_region 11 with (fail)
    clear c0 c1 c2 c3 c4 f0 f1 f2 f3 f4 d0 d1 d2 d3 d4 g0 g1 g2 g3 g4 X R HW
    rcases CS.out with C1 | ⟨k2, g2, p2, b2, u2, hu2, C1, C2, C3⟩
    · have D1 := Lib.hid C1
      clear C1 CS
      go_wp2_with fail
      refine (D1.out _).mono ?_
      rintro e1 w5 ⟨rfl, hb⟩
      replace HB := Lib.hid (bmore HB.out hb (Nat.le_refl _))
      replace HB := Lib.hid (HB.out.alloc HB.out.size (.cells #[.int .u8 0, .int .i64 0, .int .i64 0, .int .i64 0, .string ⟨#[]⟩] 26))
      have X := Lib.hid (Box.new w5 26 #[.int .u8 0, .int .i64 0, .int .i64 0, .int .i64 0, .string ⟨#[]⟩])
      clear hb D1
      go_upto_region 12 with (fail)
      generalize w5.alloc (.cells #[.int .u8 0, .int .i64 0, .int .i64 0, .int .i64 0, .string ⟨#[]⟩] 26) = w6 at HB X ⊢
      generalize w5.heap.size = h at X ⊢
      obtain ⟨⟨c0, c1, c2, c3, c4⟩, f0, f1, f2, f3, f4⟩ := box5 X.out
      go_wp2_with fail
      go_ret
      exact ⟨rfl, HB.out⟩
    · have D1 := Lib.hid C1
      have D2 := Lib.hid C2
      have D3 := Lib.hid C3
      clear C1 C2 C3 CS
      go_wp2_with fail
      refine (D1.out _).mono ?_
      rintro e1 w5 ⟨rfl, hb⟩
      replace HB := Lib.hid (bmore HB.out hb (Nat.le_refl _))
      replace HB := Lib.hid (HB.out.alloc HB.out.size (.cells #[.int .u8 k2, .int .i64 g2, .int .i64 p2, .int .i64 b2, .string u2] 26))
      have X := Lib.hid (Box.new w5 26 #[.int .u8 k2, .int .i64 g2, .int .i64 p2, .int .i64 b2, .string u2])
      clear hb D1
      go_upto_region 12 with (fail)
      generalize w5.alloc (.cells #[.int .u8 k2, .int .i64 g2, .int .i64 p2, .int .i64 b2, .string u2] 26) = w6 at HB X ⊢
      generalize w5.heap.size = h at X ⊢
      obtain ⟨⟨c0, c1, c2, c3, c4⟩, f0, f1, f2, f3, f4⟩ := box5 X.out
      go_wp2_with fail
      clear c0 c1 c2 c3 c4 f0 f1 f2 f3 f4
      refine (D2.out _).mono ?_
      rintro e1 w7 ⟨rfl, hb⟩
      replace HB := Lib.hid (bmore HB.out hb (Nat.le_refl _))
      replace X := Lib.hid (X.out.below hb X.out.lt)
      clear hb D2
      obtain ⟨⟨c0, c1, c2, c3, c4⟩, f0, f1, f2, f3, f4⟩ := box5 X.out
      go_wp2_with fail
      clear c0 c1 c2 c3 c4 f0 f1 f2 f3 f4
      refine (D3.out _).mono ?_
      rintro e1 w8 ⟨rfl, hb⟩
      replace HB := Lib.hid (bmore HB.out hb (Nat.le_refl _))
      clear hb D3
      go_wp2_with fail
      go_ret
      exact ⟨rfl, HB.out⟩
  · clear HW R
    rcases CS.out with C1 | ⟨k2, g2, p2, b2, u2, hu2, C1, C2, C3⟩
    · have D1 := Lib.hid C1
      clear C1 CS
      go_wp2_with fail
      refine (D1.out _).mono ?_
      rintro e1 w5 ⟨rfl, hb⟩
      replace HB := Lib.hid (bmore HB.out hb (Nat.le_refl _))
      replace HB := Lib.hid (HB.out.alloc HB.out.size (.cells #[.int .u8 0, .int .i64 0, .int .i64 0, .int .i64 0, .string ⟨#[]⟩] 26))
      have X := Lib.hid (Box.new w5 26 #[.int .u8 0, .int .i64 0, .int .i64 0, .int .i64 0, .string ⟨#[]⟩])
      clear hb D1
      go_upto_region 12 with (fail)
      generalize w5.alloc (.cells #[.int .u8 0, .int .i64 0, .int .i64 0, .int .i64 0, .string ⟨#[]⟩] 26) = w6 at HB X ⊢
      generalize w5.heap.size = h at X ⊢
      obtain ⟨⟨c0, c1, c2, c3, c4⟩, f0, f1, f2, f3, f4⟩ := box5 X.out
      go_wp2_with fail
      go_ret
      exact ⟨rfl, HB.out⟩
    · have D1 := Lib.hid C1
      have D2 := Lib.hid C2
      have D3 := Lib.hid C3
      clear C1 C2 C3 CS
      go_wp2_with fail
      refine (D1.out _).mono ?_
      rintro e1 w5 ⟨rfl, hb⟩
      replace HB := Lib.hid (bmore HB.out hb (Nat.le_refl _))
      replace HB := Lib.hid (HB.out.alloc HB.out.size (.cells #[.int .u8 k2, .int .i64 g2, .int .i64 p2, .int .i64 b2, .string u2] 26))
      have X := Lib.hid (Box.new w5 26 #[.int .u8 k2, .int .i64 g2, .int .i64 p2, .int .i64 b2, .string u2])
      clear hb D1
      go_upto_region 12 with (fail)
      generalize w5.alloc (.cells #[.int .u8 k2, .int .i64 g2, .int .i64 p2, .int .i64 b2, .string u2] 26) = w6 at HB X ⊢
      generalize w5.heap.size = h at X ⊢
      obtain ⟨⟨c0, c1, c2, c3, c4⟩, f0, f1, f2, f3, f4⟩ := box5 X.out
      go_wp2_with fail
      clear c0 c1 c2 c3 c4 f0 f1 f2 f3 f4
      refine (D2.out _).mono ?_
      rintro e1 w7 ⟨rfl, hb⟩
      replace HB := Lib.hid (bmore HB.out hb (Nat.le_refl _))
      replace X := Lib.hid (X.out.below hb X.out.lt)
      clear hb D2
      obtain ⟨⟨c0, c1, c2, c3, c4⟩, f0, f1, f2, f3, f4⟩ := box5 X.out
      go_wp2_with fail
      clear c0 c1 c2 c3 c4 f0 f1 f2 f3 f4
      refine (D3.out _).mono ?_
      rintro e1 w8 ⟨rfl, hb⟩
      replace HB := Lib.hid (bmore HB.out hb (Nat.le_refl _))
      clear hb D3
      go_wp2_with fail
      go_ret
      exact ⟨rfl, HB.out⟩
end Go.Proofs.Ytoebokfhlbffaaa
