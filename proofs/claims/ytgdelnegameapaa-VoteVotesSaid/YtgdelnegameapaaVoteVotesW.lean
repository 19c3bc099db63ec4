/-
  The walk of VoteVotes: Prepare, Accept and Check answer as the document's own. Conditions: any vote, ballot and value.
-/
import Derived.Test.YtgdelnegameapaaVoteAlive
import Derived.Test.YtgdelnegameapaaVoteR
import Derived.Test.YtgdelnegameapaaVoteArg
import Derived.Deep.RegionHeld3
namespace Go.Proofs.Ytgdelnegameapaa
open Go.RowKit
set_option linter.unusedVariables false

theorem fits_fact {z : Int} (h : (Lit.int .i64 z).wf = true) : -9223372036854775808 ≤ z ∧ z ≤ 9223372036854775807 := fits_int h
theorem chk_bool {p b : Int} {s : ByteArray} {e : Int} {x : Bool} (h : ChkIs p b s e) (hx : x = true ↔ VM.may p b s) : (e == 0) = x := by
  rcases h with ⟨h, rfl⟩ | ⟨h, rfl⟩
  · rw [hx.2 h]; rfl
  · cases x
    · rfl
    · exact absurd (hx.1 rfl) h

set_option maxRecDepth 100000 in
set_option maxHeartbeats 4000000 in
theorem voteVotes_walk (v : Value) (p b : Int) (s : ByteArray) (k : Int) (u : ByteArray) (w : World) (hv : VoteArg v p b s) (hk : (Lit.int .i64 k).wf = true) (hu : u.size ≤ maxLen) :
    Calls Try.prog 4 #[v, .int .i64 k, .string u] w fun e w' => e = .returned (.bool true) ∧ Below w.heap.size w w' := by
  obtain ⟨rfl, hp, hb, hs⟩ := hv
  obtain ⟨hp1, hp2⟩ := fits_fact hp
  obtain ⟨hb1, hb2⟩ := fits_fact hb
  obtain ⟨hk1, hk2⟩ := fits_fact hk
  obtain ⟨x1, y1, t1, e1, h1⟩ := VM.prepIs_ex p b s k
  obtain ⟨x2, y2, t2, e2, h2⟩ := VM.accIs_ex p b s k u
  obtain ⟨e3, h3⟩ := chkIs_ex p b s
  have H1 := Lib.hid h1; have H2 := Lib.hid h2; have H3 := Lib.hid h3
  have HS := Lib.hid hs; have HU := Lib.hid hu
  have hb0 : Below w.heap.size w (w.alloc (.cells #[.int .i64 p, .int .i64 b, .string s] 23)) := (Below.refl _ _).alloc (Nat.le_refl _) _
  have HB0 := Lib.hid hb0
  have R0 := Lib.hid (Box.new w 23 #[.int .i64 p, .int .i64 b, .string s])
  clear hp hb hk h1 h2 h3 hs hu hb0
  go_enter Try.func4, Try.ntmps4
  go_wp2_with fail
  refine (prep_any _ hp1 hp2 hb1 hb2 HS.out hk1 hk2 H1.out).mono ?_
  rintro e w1 ⟨rfl, hc1⟩
  have hx1 := var3 hc1 23 (.int .i64 x1) (.int .i64 y1) (.string t1)
  have R1 := Lib.hid ((R0.out.below hc1 R0.out.lt).alloc (.cells #[.int .i64 x1, .int .i64 y1, .string t1] 23))
  have V1 := Lib.hid hx1.2
  have HB1 := Lib.hid (bmore HB0.out hx1.1 (by simp))
  obtain ⟨c0, c1, c2, _, _, _⟩ := R1.out.three
  clear hc1 hx1 HB0 R0
  go_wp2_with fail
  clear c0 c1 c2
  generalize w1.alloc (.cells #[.int .i64 x1, .int .i64 y1, .string t1] 23) = w2 at R1 V1 HB1 ⊢
  generalize w1.heap.size = g1 at V1 ⊢
  refine (rPrep_any _ HS.out H1.out).mono ?_
  rintro e w3 ⟨rfl, hc1⟩
  have hx1 := var3 hc1 23 (.int .i64 x1) (.int .i64 y1) (.string t1)
  have R3 := Lib.hid (R1.out.below hx1.1 R1.out.lt)
  have V3 := Lib.hid (V1.out.below hx1.1 V1.out.lt)
  have U3 := Lib.hid hx1.2
  have HB3 := Lib.hid (bmore HB1.out hx1.1 (Nat.le_refl _))
  obtain ⟨c0, c1, c2, _, _, _⟩ := R3.out.three
  clear hc1 hx1 HB1 R1 V1
  go_wp2_with fail
  clear c0 c1 c2
  generalize w3.alloc (.cells #[.int .i64 x1, .int .i64 y1, .string t1] 23) = w4 at R3 V3 U3 HB3 ⊢
  generalize w3.heap.size = g2 at U3 ⊢
  refine (acc_any _ hp1 hp2 hb1 hb2 HS.out hk1 hk2 HU.out H2.out).mono ?_
  rintro e w5 ⟨rfl, hc1⟩
  have hx1 := var3 hc1 23 (.int .i64 x2) (.int .i64 y2) (.string t2)
  have R5 := Lib.hid (R3.out.below hx1.1 R3.out.lt)
  have V5 := Lib.hid (V3.out.below hx1.1 V3.out.lt)
  have U5 := Lib.hid (U3.out.below hx1.1 U3.out.lt)
  have T5 := Lib.hid hx1.2
  have HB5 := Lib.hid (bmore HB3.out hx1.1 (Nat.le_refl _))
  obtain ⟨c0, c1, c2, _, _, _⟩ := R5.out.three
  clear hc1 hx1 HB3 R3 V3 U3
  go_wp2_with fail
  clear c0 c1 c2
  generalize w5.alloc (.cells #[.int .i64 x2, .int .i64 y2, .string t2] 23) = w6 at R5 V5 U5 T5 HB5 ⊢
  generalize w5.heap.size = g3 at T5 ⊢
  refine (rAcc_any _ HS.out HU.out H2.out).mono ?_
  rintro e w7 ⟨rfl, hc1⟩
  have hx1 := var3 hc1 23 (.int .i64 x2) (.int .i64 y2) (.string t2)
  have R7 := Lib.hid (R5.out.below hx1.1 R5.out.lt)
  have V7 := Lib.hid (V5.out.below hx1.1 V5.out.lt)
  have U7 := Lib.hid (U5.out.below hx1.1 U5.out.lt)
  have T7 := Lib.hid (T5.out.below hx1.1 T5.out.lt)
  have S7 := Lib.hid hx1.2
  have HB7 := Lib.hid (bmore HB5.out hx1.1 (Nat.le_refl _))
  clear hc1 hx1 HB5 R5 V5 U5 T5
  go_upto_region 5 with (fail)
  generalize w7.alloc (.cells #[.int .i64 x2, .int .i64 y2, .string t2] 23) = w8 at R7 V7 U7 T7 S7 HB7 ⊢
  generalize w7.heap.size = g4 at S7 ⊢
  generalize w.heap.size = g0 at R7 ⊢
  have hS : ∀ w', Below w8.heap.size w8 w' → w'.cell? ⟨g0, 0, none⟩ = some (.int .i64 p) ∧ w'.cell? ⟨g0, 1, none⟩ = some (.int .i64 b) ∧ w'.cell? ⟨g0, 2, none⟩ = some (.string s) ∧
      w'.cell? ⟨g1, 0, none⟩ = some (.int .i64 x1) ∧ w'.cell? ⟨g1, 1, none⟩ = some (.int .i64 y1) ∧ w'.cell? ⟨g1, 2, none⟩ = some (.string t1) ∧
      w'.cell? ⟨g2, 0, none⟩ = some (.int .i64 x1) ∧ w'.cell? ⟨g2, 1, none⟩ = some (.int .i64 y1) ∧ w'.cell? ⟨g2, 2, none⟩ = some (.string t1) ∧
      w'.cell? ⟨g3, 0, none⟩ = some (.int .i64 x2) ∧ w'.cell? ⟨g3, 1, none⟩ = some (.int .i64 y2) ∧ w'.cell? ⟨g3, 2, none⟩ = some (.string t2) ∧
      w'.cell? ⟨g4, 0, none⟩ = some (.int .i64 x2) ∧ w'.cell? ⟨g4, 1, none⟩ = some (.int .i64 y2) ∧ w'.cell? ⟨g4, 2, none⟩ = some (.string t2) := fun w' h =>
    ⟨(R7.out.below h R7.out.lt).cell 0, (R7.out.below h R7.out.lt).cell 1, (R7.out.below h R7.out.lt).cell 2, (V7.out.below h V7.out.lt).cell 0, (V7.out.below h V7.out.lt).cell 1, (V7.out.below h V7.out.lt).cell 2,
      (U7.out.below h U7.out.lt).cell 0, (U7.out.below h U7.out.lt).cell 1, (U7.out.below h U7.out.lt).cell 2, (T7.out.below h T7.out.lt).cell 0, (T7.out.below h T7.out.lt).cell 1, (T7.out.below h T7.out.lt).cell 2, (S7.out.below h S7.out.lt).cell 0, (S7.out.below h S7.out.lt).cell 1, (S7.out.below h S7.out.lt).cell 2⟩
  have HSS := Lib.hid hS; clear hS
  have bb1 : Below w8.heap.size w8 w8.drew := (Below.refl _ _).drew
  obtain ⟨_, _, _, _, _, _, _, _, _, _, _, _, _, _, _⟩ := HSS.out w8 (Below.refl _ _)
  clear R7 V7 U7 T7 S7
  go_region_held3 (fun w' => w'.cell? ⟨g0, 0, none⟩ = some (.int .i64 p) ∧ w'.cell? ⟨g0, 1, none⟩ = some (.int .i64 b) ∧ w'.cell? ⟨g0, 2, none⟩ = some (.string s) ∧
      w'.cell? ⟨g1, 0, none⟩ = some (.int .i64 x1) ∧ w'.cell? ⟨g1, 1, none⟩ = some (.int .i64 y1) ∧ w'.cell? ⟨g1, 2, none⟩ = some (.string t1) ∧
      w'.cell? ⟨g2, 0, none⟩ = some (.int .i64 x1) ∧ w'.cell? ⟨g2, 1, none⟩ = some (.int .i64 y1) ∧ w'.cell? ⟨g2, 2, none⟩ = some (.string t1) ∧
      w'.cell? ⟨g3, 0, none⟩ = some (.int .i64 x2) ∧ w'.cell? ⟨g3, 1, none⟩ = some (.int .i64 y2) ∧ w'.cell? ⟨g3, 2, none⟩ = some (.string t2) ∧
      w'.cell? ⟨g4, 0, none⟩ = some (.int .i64 x2) ∧ w'.cell? ⟨g4, 1, none⟩ = some (.int .i64 y2) ∧ w'.cell? ⟨g4, 2, none⟩ = some (.string t2))
    (first | exact HSS.out _ bb3 | exact HSS.out _ bb2 | exact HSS.out _ bb1 | go_keep)
    (first
      | (go_at_call 12; ((with_reducible refine (vcheck_any _ hp1 hp2 hb1 hb2 HS.out H3.out).mono ?_); rintro e wa1 ⟨rfl, ha1⟩; have bb2 : Below w8.heap.size w8 wa1 := bb1.trans (ha1.mono bb1.size)))
      | (go_at_call 15; ((with_reducible refine (rVMay_any p b s _ HS.out).mono ?_); rintro e wa2 ⟨q, hq, rfl, ha2⟩; have hqq := Lib.hid (chk_bool H3.out hq); clear hq; have bb3 : Below w8.heap.size w8 wa2 := bb2.trans (ha2.mono bb2.size))))
  all_goals
    go_wp2_with fail
    go_ret
    refine ⟨?_, HB7.out.trans (bb3.mono HB7.out.size)⟩
    show Ending.returned (.bool ((e3 == 0) == q)) = _
    rw [hqq.out]
    simp
end Go.Proofs.Ytgdelnegameapaa
