/-
  The walk of RecordApart: no beginning of a record's text is another record's. Conditions: any record, any number.
-/
import Derived.Test.YtoebokfhlbffaaaRecAlive
import Derived.Test.YtoebokfhlbffaaaRecRd
import Derived.Test.YtoebokfhlbffaaaRecArg
namespace Go.Proofs.Ytoebokfhlbffaaa
open Go.RowKit RP
set_option linter.unusedVariables false
set_option linter.unusedSimpArgs false

theorem bsz_cut (t : ByteArray) (m : Nat) : RM.bsz (t.extract 0 m) = (RM.bsz t).take m := by
  unfold RM.bsz
  simp [ByteArray.data_extract]

set_option maxRecDepth 100000 in
set_option maxHeartbeats 4000000 in
theorem recordApart_walk (v : Value) (r : RM.Rc) (n : Int) (w : World) (hv : RecArg v r) (hn : (Lit.int .i64 n).wf = true) :
    Calls Try.prog 6 #[v, .int .i64 n] w fun e w' => e = .returned (.bool true) ∧ Below w.heap.size w w' := by
  obtain ⟨rfl, hb1, hb2, hs⟩ := hv
  obtain ⟨hn1, hn2⟩ := range_i64 hn
  obtain ⟨k, g, s, b, u⟩ := r
  simp only at hb1 hb2 hs
  obtain ⟨t, e, hw⟩ := RM.wrIs_ex ⟨k, g, s, b, u⟩
  have CW := Lib.hid (fun w => write_any k g s b u hw hb1 hb2 hs w)
  have HB := Lib.hid (show Below w.heap.size w (w.alloc (.cells #[.int .u8 k, .int .i64 g, .int .i64 s, .int .i64 b, .string u] 26)) from (Below.refl _ _).alloc (Nat.le_refl _) _)
  have R := Lib.hid (Box.new w 26 #[.int .u8 k, .int .i64 g, .int .i64 s, .int .i64 b, .string u])
  have hts : t.size ≤ 1040 := by
    rcases hw with ⟨hm, rfl, _⟩ | ⟨_, rfl, _⟩
    · show Array.size _ ≤ _
      have := RM.wr_len hm
      simpa using this
    · decide
  have HW := Lib.hid hw
  clear hn hs hw
  go_enter Try.func6, Try.ntmps6
  go_wp2_with fail
  refine (alive_any _).mono ?_
  rintro e1 w1 ⟨rfl, hb⟩
  replace HB := Lib.hid (bmore HB.out hb (by simp))
  obtain ⟨⟨c0, c1, c2, c3, c4⟩, f0, f1, f2, f3, f4⟩ := box5 (R.out.below hb R.out.lt)
  clear hb R
  go_wp2_with fail
  refine (CW.out _).mono ?_
  rintro e1 w2 ⟨rfl, hb⟩
  replace HB := Lib.hid (bmore HB.out hb (Nat.le_refl _))
  clear hb c0 c1 c2 c3 c4 f0 f1 f2 f3 f4 CW
  rcases HW.out with ⟨hm, ht, rfl⟩ | ⟨_, _, rfl⟩
  · by_cases h1 : n < 0
    · clear hm ht
      go_wp2_with fail
      go_ret
      exact ⟨rfl, HB.out⟩
    · by_cases h2 : (t.size : Int) ≤ n
      · clear hm ht
        go_wp2_with fail
        go_ret
        exact ⟨rfl, HB.out⟩
      · obtain ⟨m, rfl⟩ : ∃ m : Nat, n = m := ⟨n.toNat, by omega⟩
        have hmt : m < t.size := by omega
        have CR := Lib.hid (fun w => read_any (t.extract 0 m) (r := RM.zero) (e := 8) (by
          have hl : RM.bsz t = RM.wr ⟨k, g, s, b, u⟩ := by rw [ht, RM.bsz_mk]
          have h3 := RM.readIs_read ((RM.wr ⟨k, g, s, b, u⟩).take m)
          have h4 := RM.readIs_cut hm (by rw [← hl, RM.bsz_len]; exact hmt) h3
          rw [bsz_cut, hl]
          rcases h3 with ⟨h5, _⟩ | ⟨_, h5, h6⟩
          · rw [h5] at h4; cases h4
          · exact .inr ⟨rfl, rfl, h6⟩) (by rw [ByteArray.size_extract]; unfold maxLen; omega) w)
        clear hm ht HW
        go_wp2_with fail
        refine (CR.out _).mono ?_
        rintro e1 w3 ⟨rfl, hb⟩
        replace HB := Lib.hid (bmore HB.out hb (Nat.le_refl _))
        replace HB := Lib.hid (HB.out.alloc HB.out.size (.cells #[.int .u8 0, .int .i64 0, .int .i64 0, .int .i64 0, .string ⟨#[]⟩] 26))
        clear hb CR
        go_wp2_with fail
        go_ret
        exact ⟨rfl, HB.out⟩
  · clear HW
    go_wp2_with fail
    go_ret
    exact ⟨rfl, HB.out⟩
end Go.Proofs.Ytoebokfhlbffaaa
