/-
  What package record's Read answers. Conditions: the text's length is one that Go has.
-/
import Derived.Test.YtohiemdodffhoaaRecF
import Derived.Test.YtohiemdodffhoaaRecW
import Derived.Test.YtohiemdodffhoaaConv
namespace Go.Proofs.Ytohiemdodffhoaa.RP
open Go.RowKit
set_option linter.unusedVariables false
set_option linter.unusedSimpArgs false

set_option maxRecDepth 100000 in
set_option maxHeartbeats 4000000 in
theorem read_any {r : RM.Rc} {e : Int} (s : ByteArray) (h : RM.ReadIs (RM.bsz s) r e) (hs : s.size ≤ maxLen) (w : World) :
    Calls Try.prog 34 #[.string s] w (RcAns r e w) := by
  have HB := Lib.hid (show Below w.heap.size w (w.alloc (.cells #[.int .u8 0, .int .i64 0, .int .i64 0, .int .i64 0, .string ⟨#[]⟩] 29)) from (Below.refl _ _).alloc (Nat.le_refl _) _)
  have R := Lib.hid (Box.new w 29 #[.int .u8 0, .int .i64 0, .int .i64 0, .int .i64 0, .string ⟨#[]⟩])
  by_cases hl : 1040 < s.size
  · obtain ⟨rfl, rfl⟩ := RM.readIs_eq h (RM.readIs_long (by rw [RM.bsz_len]; exact hl))
    have hs2 := hs
    unfold maxLen at hs2
    clear h
    obtain ⟨⟨d0, d1, d2, d3, d4⟩, g0, g1, g2, g3, g4⟩ := box5 R.out
    go_enter Try.func34, Try.ntmps34
    go_wp2_with fail
    exact bodyPost_ret (v := .tuple #[.agg #[.int .u8 0, .int .i64 0, .int .i64 0, .int .i64 0, .string ⟨#[]⟩], .int .i64 8]) (by simp [results, Try.results34, go_sem, d0, d1, d2, d3, d4]; try rfl) rfl ⟨rfl, HB.out⟩
  · have hs2 := hs
    unfold maxLen at hs2
    obtain ⟨A, c, w1, hcv, hR, hc1, hc2, hb1⟩ := conv_ex (w.alloc (.cells #[.int .u8 0, .int .i64 0, .int .i64 0, .int .i64 0, .string ⟨#[]⟩] 29)) s hs
    have HR := Lib.hid hR
    have R1 := Lib.hid (R.out.below hb1 R.out.lt)
    have HB1 := Lib.hid (bmore HB.out hb1 (by simp))
    clear hb1 hR R HB
    go_enter Try.func34, Try.ntmps34
    go_wp2_with fail
    refine (front_any A _ c (RM.bsz s) _ HR.out hc1 hc2).mono ?_
    rintro e1 w2 ⟨rfl, hb2⟩
    have R2 := Lib.hid ((R1.out.below hb2 R1.out.lt).alloc (.cells #[.int .u8 (RM.fk (RM.bsz s)), .int .i64 (RM.fg (RM.bsz s)), .int .i64 (RM.fs (RM.bsz s)), .int .i64 (RM.fb (RM.bsz s)), .string ⟨(RM.fv (RM.bsz s)).toArray⟩] 29))
    have B2 := Lib.hid (Box.new w2 29 #[.int .u8 (RM.fk (RM.bsz s)), .int .i64 (RM.fg (RM.bsz s)), .int .i64 (RM.fs (RM.bsz s)), .int .i64 (RM.fb (RM.bsz s)), .string ⟨(RM.fv (RM.bsz s)).toArray⟩])
    have HB2 := Lib.hid ((bmore HB1.out hb2 (by have := HB1.out.size; exact Nat.le_refl _)))
    clear hb2 HR R1
    obtain ⟨t, e2, hw⟩ := RM.wrIs_ex (RM.fr (RM.bsz s))
    have l1 := RM.fb_le (RM.bsz s)
    have CW := Lib.hid (fun w => write_any (RM.fk (RM.bsz s)) (RM.fg (RM.bsz s)) (RM.fs (RM.bsz s)) (RM.fb (RM.bsz s)) ⟨(RM.fv (RM.bsz s)).toArray⟩ hw (by omega) (by omega) (by have := RM.fv_le (RM.bsz s); unfold maxLen; show (RM.fv (RM.bsz s)).toArray.size ≤ _; simp; omega) w)
    have HC := Lib.hid (RM.readIs_fr hw)
    have HW := Lib.hid hw
    have H := Lib.hid h
    clear l1 hw h
    go_wp2_with fail
    refine (CW.out _).mono ?_
    rintro e3 w3 ⟨rfl, hb3⟩
    have R3 := Lib.hid (R2.out.below hb3 R2.out.lt)
    have B3 := Lib.hid (B2.out.below hb3 B2.out.lt)
    have HB3 := Lib.hid (bmore (HB2.out.alloc HB2.out.size (.cells #[.int .u8 (RM.fk (RM.bsz s)), .int .i64 (RM.fg (RM.bsz s)), .int .i64 (RM.fs (RM.bsz s)), .int .i64 (RM.fb (RM.bsz s)), .string ⟨(RM.fv (RM.bsz s)).toArray⟩] 29)) hb3 (Nat.le_refl _))
    clear hb3 R2 B2 HB2
    generalize w2.heap.size = g at B3 ⊢
    obtain ⟨⟨d0, d1, d2, d3, d4⟩, g0, g1, g2, g3, g4⟩ := box5 R3.out
    obtain ⟨⟨c0, c1, c2, c3, c4⟩, _, _, _, _, _⟩ := box5 B3.out
    rcases (show e2 = 0 ∨ e2 = 8 by rcases HW.out with ⟨_, _, h⟩ | ⟨_, _, h⟩; exact .inl h; exact .inr h) with rfl | rfl
    · by_cases hts : t = s
      · subst hts
        go_wp2_with fail
        obtain ⟨rfl, rfl⟩ := RM.readIs_eq H.out (HC.out.resolve_right (fun h => h.1 (by simp))).2.2
        exact bodyPost_ret (v := .tuple #[.agg #[.int .u8 (RM.fk (RM.bsz t)), .int .i64 (RM.fg (RM.bsz t)), .int .i64 (RM.fs (RM.bsz t)), .int .i64 (RM.fb (RM.bsz t)), .string ⟨(RM.fv (RM.bsz t)).toArray⟩], .int .i64 0]) (by simp [results, Try.results34, go_sem, d0, d1, d2, d3, d4]; try rfl) rfl ⟨rfl, below_put5 HB3.out (Nat.le_refl _) _ _ _ _ _⟩
      · have hne := str_ne hts
        go_wp2_with fail
        obtain ⟨rfl, rfl⟩ := RM.readIs_eq H.out (HC.out.resolve_left (fun h => hts h.2.1)).2
        exact bodyPost_ret (v := .tuple #[.agg #[.int .u8 0, .int .i64 0, .int .i64 0, .int .i64 0, .string ⟨#[]⟩], .int .i64 8]) (by simp [results, Try.results34, go_sem, d0, d1, d2, d3, d4]; try rfl) rfl ⟨rfl, below_put5 HB3.out (Nat.le_refl _) _ _ _ _ _⟩
    · go_wp2_with fail
      obtain ⟨rfl, rfl⟩ := RM.readIs_eq H.out (HC.out.resolve_left (fun h => by cases h.1)).2
      exact bodyPost_ret (v := .tuple #[.agg #[.int .u8 0, .int .i64 0, .int .i64 0, .int .i64 0, .string ⟨#[]⟩], .int .i64 8]) (by simp [results, Try.results34, go_sem, d0, d1, d2, d3, d4]; try rfl) rfl ⟨rfl, below_put5 HB3.out (Nat.le_refl _) _ _ _ _ _⟩
end Go.Proofs.Ytohiemdodffhoaa.RP
