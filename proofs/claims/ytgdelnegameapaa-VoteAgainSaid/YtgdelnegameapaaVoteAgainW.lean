/-
  The walk of VoteAgain: what was promised, or accepted, is so again, and changes nothing. Conditions: any vote, ballot and value.
-/
import Derived.Test.YtgdelnegameapaaVoteAlive
import Derived.Test.YtgdelnegameapaaVoteMore
import Derived.Test.YtgdelnegameapaaVoteArg
namespace Go.Proofs.Ytgdelnegameapaa
open Go.RowKit
set_option linter.unusedVariables false

set_option maxRecDepth 100000 in
set_option maxHeartbeats 4000000 in
theorem voteAgain_walk (v : Value) (p b : Int) (s : ByteArray) (k : Int) (u : ByteArray) (w : World) (hv : VoteArg v p b s) (hk : (Lit.int .i64 k).wf = true) (hu : u.size ≤ maxLen) :
    Calls Try.prog 6 #[v, .int .i64 k, .string u] w fun e w' => e = .returned (.bool true) ∧ Below w.heap.size w w' := by
  obtain ⟨rfl, hp, hb, hs⟩ := hv
  obtain ⟨hp1, hp2⟩ := fits_int hp
  obtain ⟨hb1, hb2⟩ := fits_int hb
  obtain ⟨hk1, hk2⟩ := fits_int hk
  have HS := Lib.hid hs; have HU := Lib.hid hu
  obtain ⟨x1, y1, t1, e1, h1⟩ := VM.prepIs_ex p b s k
  obtain ⟨x2, y2, t2, e2, h2⟩ := VM.accIs_ex p b s k u
  have H1 := Lib.hid h1; have H2 := Lib.hid h2
  clear hp hb hk h1 h2 hs hu
  have hb0 : Below w.heap.size w (w.alloc (.cells #[.int .i64 p, .int .i64 b, .string s] 23)) := (Below.refl _ _).alloc (Nat.le_refl _) _
  have HB0 := Lib.hid hb0
  have R0 := Lib.hid (Box.new w 23 #[.int .i64 p, .int .i64 b, .string s])
  clear hb0
  go_enter Try.func6, Try.ntmps6
  go_wp2_with fail
  generalize w.alloc (.cells #[.int .i64 p, .int .i64 b, .string s] 23) = w1 at R0 HB0 ⊢
  refine (alive_any _).mono ?_
  rintro e w2 ⟨rfl, hc⟩
  have R3 := Lib.hid (R0.out.below hc R0.out.lt)
  have HB4 := Lib.hid (bmore HB0.out hc (Nat.le_refl _))
  clear hc R0 HB0
  obtain ⟨ca5, cb5, cc5, fa5, fb5, fc5⟩ := R3.out.three
  go_wp2_with fail
  clear ca5 cb5 cc5 fa5 fb5 fc5
  refine (prep_any _ hp1 hp2 hb1 hb2 HS.out hk1 hk2 H1.out).mono ?_
  rintro e w6 ⟨rfl, hc⟩
  have hx := var3 hc 23 (.int .i64 x1) (.int .i64 y1) (.string t1)
  have R7 := Lib.hid (R3.out.below hx.1 R3.out.lt)
  have HB8 := Lib.hid (bmore HB4.out hx.1 (Nat.le_refl _))
  have R9 := Lib.hid hx.2
  clear hc hx R3 HB4
  obtain ⟨ca11, cb11, cc11, fa11, fb11, fc11⟩ := R7.out.three
  go_wp2_with fail
  clear ca11 cb11 cc11 fa11 fb11 fc11
  generalize w6.alloc (.cells #[.int .i64 x1, .int .i64 y1, .string t1] 23) = w12 at R7 R9 HB8 ⊢
  generalize w6.heap.size = g10 at R9 ⊢
  refine (acc_any _ hp1 hp2 hb1 hb2 HS.out hk1 hk2 HU.out H2.out).mono ?_
  rintro e w13 ⟨rfl, hc⟩
  have hx := var3 hc 23 (.int .i64 x2) (.int .i64 y2) (.string t2)
  have R14 := Lib.hid (R7.out.below hx.1 R7.out.lt)
  have R15 := Lib.hid (R9.out.below hx.1 R9.out.lt)
  have HB16 := Lib.hid (bmore HB8.out hx.1 (Nat.le_refl _))
  have R17 := Lib.hid hx.2
  clear hc hx R7 R9 HB8
  go_upto_region 4 with (fail)
  generalize w13.alloc (.cells #[.int .i64 x2, .int .i64 y2, .string t2] 23) = w19 at R14 R15 R17 HB16 ⊢
  generalize w13.heap.size = g18 at R17 ⊢
  rcases H1.out.2 with ⟨he1, _⟩ | ⟨he1, hx1, hy1, ht1⟩
  · have z1 : (e1 == 0) = false := by simpa using he1
    clear he1
    go_upto_region 8 with (fail)
    clear z1
    rcases H2.out.2 with ⟨he2, _⟩ | ⟨he2, hx2, hy2, ht2⟩
    · have z2 : (e2 == 0) = false := by simpa using he2
      clear he2
      go_wp2_with fail
      go_ret
      exact ⟨rfl, HB16.out⟩
    · have hw2 := H2.out.1
      rw [he2] at hw2
      obtain ⟨_, g2, g3, g4⟩ := VM.wrong_zero.1 hw2
      have N1 := Lib.hid (show VM.AccIs x2 y2 t2 k u x2 y2 t2 0 by rw [hx2, hy2, ht2]; exact VM.acc_again g2 g3)
      have N2 := Lib.hid (show VM.PrepIs x2 y2 t2 k x2 y2 t2 0 by rw [hx2, hy2, ht2]; exact VM.prep_again (VM.may_acc g2 g3) g2)
      have T2 := Lib.hid (show t2.size ≤ maxLen by rw [ht2]; exact HU.out)
      have l1 : -9223372036854775808 ≤ x2 := by omega
      have l2 : x2 ≤ 9223372036854775807 := by omega
      have l3 : -9223372036854775808 ≤ y2 := by omega
      have l4 : y2 ≤ 9223372036854775807 := by omega
      clear hw2 g2 g3 g4 hx2 hy2 ht2
      subst he2
      obtain ⟨ca20, cb20, cc20, fa20, fb20, fc20⟩ := R17.out.three
      go_wp2_with fail
      clear ca20 cb20 cc20 fa20 fb20 fc20
      refine (acc_any _ l1 l2 l3 l4 T2.out hk1 hk2 HU.out N1.out).mono ?_
      rintro e w21 ⟨rfl, hc⟩
      have hx := var3 hc 23 (.int .i64 x2) (.int .i64 y2) (.string t2)
      have R22 := Lib.hid (R14.out.below hx.1 R14.out.lt)
      have R23 := Lib.hid (R15.out.below hx.1 R15.out.lt)
      have R24 := Lib.hid (R17.out.below hx.1 R17.out.lt)
      have HB25 := Lib.hid (bmore HB16.out hx.1 (Nat.le_refl _))
      have R26 := Lib.hid hx.2
      clear hc hx R14 R15 R17 HB16
      obtain ⟨ca28, cb28, cc28, fa28, fb28, fc28⟩ := R24.out.three
      go_wp2_with fail
      clear ca28 cb28 cc28 fa28 fb28 fc28
      generalize w21.alloc (.cells #[.int .i64 x2, .int .i64 y2, .string t2] 23) = w29 at R22 R23 R24 R26 HB25 ⊢
      generalize w21.heap.size = g27 at R26 ⊢
      refine (prep_any _ l1 l2 l3 l4 T2.out hk1 hk2 N2.out).mono ?_
      rintro e w30 ⟨rfl, hc⟩
      have hx := var3 hc 23 (.int .i64 x2) (.int .i64 y2) (.string t2)
      have R31 := Lib.hid (R22.out.below hx.1 R22.out.lt)
      have R32 := Lib.hid (R23.out.below hx.1 R23.out.lt)
      have R33 := Lib.hid (R24.out.below hx.1 R24.out.lt)
      have R34 := Lib.hid (R26.out.below hx.1 R26.out.lt)
      have HB35 := Lib.hid (bmore HB25.out hx.1 (Nat.le_refl _))
      have R36 := Lib.hid hx.2
      clear hc hx R22 R23 R24 R26 HB25
      go_upto_region 11 with (fail)
      generalize w30.alloc (.cells #[.int .i64 x2, .int .i64 y2, .string t2] 23) = w38 at R31 R32 R33 R34 R36 HB35 ⊢
      generalize w30.heap.size = g37 at R36 ⊢
      obtain ⟨ca39, cb39, cc39, fa39, fb39, fc39⟩ := R33.out.three
      obtain ⟨ca40, cb40, cc40, fa40, fb40, fc40⟩ := R34.out.three
      obtain ⟨ca41, cb41, cc41, fa41, fb41, fc41⟩ := R36.out.three
      go_wp2_with fail
      clear ca39 cb39 cc39 fa39 fb39 fc39 ca40 cb40 cc40 fa40 fb40 fc40 ca41 cb41 cc41 fa41 fb41 fc41
      go_ret
      exact ⟨rfl, HB35.out⟩
  · have hw1 := H1.out.1
    rw [he1] at hw1
    obtain ⟨g1, g2, g3, g4⟩ := VM.wrong_zero.1 hw1
    have N1 := Lib.hid (show VM.PrepIs x1 y1 t1 k x1 y1 t1 0 by rw [hx1, hy1, ht1]; exact VM.prep_again (VM.may_prep g1 g2 g4) g2)
    have T1 := Lib.hid (show t1.size ≤ maxLen by rw [ht1]; exact HS.out)
    have l1 : -9223372036854775808 ≤ x1 := by omega
    have l2 : x1 ≤ 9223372036854775807 := by omega
    have l3 : -9223372036854775808 ≤ y1 := by omega
    have l4 : y1 ≤ 9223372036854775807 := by omega
    clear hw1 g1 g2 g3 g4 hx1 hy1 ht1
    subst he1
    obtain ⟨ca20, cb20, cc20, fa20, fb20, fc20⟩ := R15.out.three
    go_wp2_with fail
    clear ca20 cb20 cc20 fa20 fb20 fc20
    refine (prep_any _ l1 l2 l3 l4 T1.out hk1 hk2 N1.out).mono ?_
    rintro e w21 ⟨rfl, hc⟩
    have hx := var3 hc 23 (.int .i64 x1) (.int .i64 y1) (.string t1)
    have R22 := Lib.hid (R14.out.below hx.1 R14.out.lt)
    have R23 := Lib.hid (R15.out.below hx.1 R15.out.lt)
    have R24 := Lib.hid (R17.out.below hx.1 R17.out.lt)
    have HB25 := Lib.hid (bmore HB16.out hx.1 (Nat.le_refl _))
    have R26 := Lib.hid hx.2
    clear hc hx R14 R15 R17 HB16
    go_upto_region 6 with (fail)
    generalize w21.alloc (.cells #[.int .i64 x1, .int .i64 y1, .string t1] 23) = w28 at R22 R23 R24 R26 HB25 ⊢
    generalize w21.heap.size = g27 at R26 ⊢
    obtain ⟨ca29, cb29, cc29, fa29, fb29, fc29⟩ := R23.out.three
    obtain ⟨ca30, cb30, cc30, fa30, fb30, fc30⟩ := R26.out.three
    go_upto_region 8 with (fail)
    clear ca29 cb29 cc29 fa29 fb29 fc29 ca30 cb30 cc30 fa30 fb30 fc30
    rcases H2.out.2 with ⟨he2, _⟩ | ⟨he2, hx2, hy2, ht2⟩
    · have z2 : (e2 == 0) = false := by simpa using he2
      clear he2
      go_wp2_with fail
      go_ret
      exact ⟨rfl, HB25.out⟩
    · have hw2 := H2.out.1
      rw [he2] at hw2
      obtain ⟨_, g2, g3, g4⟩ := VM.wrong_zero.1 hw2
      have N1 := Lib.hid (show VM.AccIs x2 y2 t2 k u x2 y2 t2 0 by rw [hx2, hy2, ht2]; exact VM.acc_again g2 g3)
      have N2 := Lib.hid (show VM.PrepIs x2 y2 t2 k x2 y2 t2 0 by rw [hx2, hy2, ht2]; exact VM.prep_again (VM.may_acc g2 g3) g2)
      have T2 := Lib.hid (show t2.size ≤ maxLen by rw [ht2]; exact HU.out)
      have l1 : -9223372036854775808 ≤ x2 := by omega
      have l2 : x2 ≤ 9223372036854775807 := by omega
      have l3 : -9223372036854775808 ≤ y2 := by omega
      have l4 : y2 ≤ 9223372036854775807 := by omega
      clear hw2 g2 g3 g4 hx2 hy2 ht2
      subst he2
      obtain ⟨ca31, cb31, cc31, fa31, fb31, fc31⟩ := R24.out.three
      go_wp2_with fail
      clear ca31 cb31 cc31 fa31 fb31 fc31
      refine (acc_any _ l1 l2 l3 l4 T2.out hk1 hk2 HU.out N1.out).mono ?_
      rintro e w32 ⟨rfl, hc⟩
      have hx := var3 hc 23 (.int .i64 x2) (.int .i64 y2) (.string t2)
      have R33 := Lib.hid (R22.out.below hx.1 R22.out.lt)
      have R34 := Lib.hid (R23.out.below hx.1 R23.out.lt)
      have R35 := Lib.hid (R24.out.below hx.1 R24.out.lt)
      have R36 := Lib.hid (R26.out.below hx.1 R26.out.lt)
      have HB37 := Lib.hid (bmore HB25.out hx.1 (Nat.le_refl _))
      have R38 := Lib.hid hx.2
      clear hc hx R22 R23 R24 R26 HB25
      obtain ⟨ca40, cb40, cc40, fa40, fb40, fc40⟩ := R35.out.three
      go_wp2_with fail
      clear ca40 cb40 cc40 fa40 fb40 fc40
      generalize w32.alloc (.cells #[.int .i64 x2, .int .i64 y2, .string t2] 23) = w41 at R33 R34 R35 R36 R38 HB37 ⊢
      generalize w32.heap.size = g39 at R38 ⊢
      refine (prep_any _ l1 l2 l3 l4 T2.out hk1 hk2 N2.out).mono ?_
      rintro e w42 ⟨rfl, hc⟩
      have hx := var3 hc 23 (.int .i64 x2) (.int .i64 y2) (.string t2)
      have R43 := Lib.hid (R33.out.below hx.1 R33.out.lt)
      have R44 := Lib.hid (R34.out.below hx.1 R34.out.lt)
      have R45 := Lib.hid (R35.out.below hx.1 R35.out.lt)
      have R46 := Lib.hid (R36.out.below hx.1 R36.out.lt)
      have R47 := Lib.hid (R38.out.below hx.1 R38.out.lt)
      have HB48 := Lib.hid (bmore HB37.out hx.1 (Nat.le_refl _))
      have R49 := Lib.hid hx.2
      clear hc hx R33 R34 R35 R36 R38 HB37
      go_upto_region 11 with (fail)
      generalize w42.alloc (.cells #[.int .i64 x2, .int .i64 y2, .string t2] 23) = w51 at R43 R44 R45 R46 R47 R49 HB48 ⊢
      generalize w42.heap.size = g50 at R49 ⊢
      obtain ⟨ca52, cb52, cc52, fa52, fb52, fc52⟩ := R45.out.three
      obtain ⟨ca53, cb53, cc53, fa53, fb53, fc53⟩ := R47.out.three
      obtain ⟨ca54, cb54, cc54, fa54, fb54, fc54⟩ := R49.out.three
      go_wp2_with fail
      clear ca52 cb52 cc52 fa52 fb52 fc52 ca53 cb53 cc53 fa53 fb53 fc53 ca54 cb54 cc54 fa54 fb54 fc54
      go_ret
      exact ⟨rfl, HB48.out⟩
end Go.Proofs.Ytgdelnegameapaa
