/-
  The walk of VoteRises: what is answered may be, neither what is promised nor what is accepted falls, just lesser ballots are refused as old. Conditions: any vote, ballot and value.
-/
import Derived.Test.YtgdelnegameapaaVoteAlive
import Derived.Test.YtgdelnegameapaaVoteMore
import Derived.Test.YtgdelnegameapaaVoteArg
namespace Go.Proofs.Ytgdelnegameapaa
open Go.RowKit
set_option linter.unusedVariables false

set_option maxRecDepth 100000 in
set_option maxHeartbeats 4000000 in
theorem voteRises_walk (v : Value) (p b : Int) (s : ByteArray) (k : Int) (u : ByteArray) (w : World) (hv : VoteArg v p b s) (hk : (Lit.int .i64 k).wf = true) (hu : u.size ≤ maxLen) :
    Calls Try.prog 5 #[v, .int .i64 k, .string u] w fun e w' => e = .returned (.bool true) ∧ Below w.heap.size w w' := by
  obtain ⟨rfl, hp, hb, hs⟩ := hv
  obtain ⟨hp1, hp2⟩ := fits_int hp
  obtain ⟨hb1, hb2⟩ := fits_int hb
  obtain ⟨hk1, hk2⟩ := fits_int hk
  have hu9 : u.size ≤ 9223372036854775807 := by unfold maxLen at hu; omega
  have HS := Lib.hid hs; have HU := Lib.hid hu
  obtain ⟨x1, y1, t1, e1, h1⟩ := VM.prepIs_ex p b s k
  obtain ⟨x2, y2, t2, e2, h2⟩ := VM.accIs_ex p b s k u
  obtain ⟨e3, h3⟩ := chkIs_ex p b s
  obtain ⟨r4, n4, e4, h4⟩ := BM.ofIs_ex k
  have H1 := Lib.hid h1; have H2 := Lib.hid h2; have H3 := Lib.hid h3; have H4 := Lib.hid h4
  clear hp hb hk h1 h2 h3 h4 hs hu
  have hb0 : Below w.heap.size w (w.alloc (.cells #[.int .i64 p, .int .i64 b, .string s] 23)) := (Below.refl _ _).alloc (Nat.le_refl _) _
  have HB0 := Lib.hid hb0
  have R0 := Lib.hid (Box.new w 23 #[.int .i64 p, .int .i64 b, .string s])
  clear hb0
  go_enter Try.func5, Try.ntmps5
  go_wp2_with fail
  generalize w.alloc (.cells #[.int .i64 p, .int .i64 b, .string s] 23) = w1 at R0 HB0 ⊢
  refine (alive_any _).mono ?_
  rintro e w2 ⟨rfl, hc⟩
  have R3 := Lib.hid (R0.out.below hc R0.out.lt)
  have HB4 := Lib.hid (bmore HB0.out hc (Nat.le_refl _))
  clear hc R0 HB0
  obtain ⟨ca5, cb5, cc5, fa5, fb5, fc5⟩ := R3.out.three
  go_wp2_with fail
  clear ca5 cb5 cc5 fa5 fb5 fc5
  refine (prep_any _ hp1 hp2 hb1 hb2 HS.out hk1 hk2 H1.out).mono ?_
  rintro e w6 ⟨rfl, hc⟩
  have hx := var3 hc 23 (.int .i64 x1) (.int .i64 y1) (.string t1)
  have R7 := Lib.hid (R3.out.below hx.1 R3.out.lt)
  have HB8 := Lib.hid (bmore HB4.out hx.1 (Nat.le_refl _))
  have R9 := Lib.hid hx.2
  clear hc hx R3 HB4
  obtain ⟨ca11, cb11, cc11, fa11, fb11, fc11⟩ := R7.out.three
  go_wp2_with fail
  clear ca11 cb11 cc11 fa11 fb11 fc11
  generalize w6.alloc (.cells #[.int .i64 x1, .int .i64 y1, .string t1] 23) = w12 at R7 R9 HB8 ⊢
  generalize w6.heap.size = g10 at R9 ⊢
  refine (acc_any _ hp1 hp2 hb1 hb2 HS.out hk1 hk2 HU.out H2.out).mono ?_
  rintro e w13 ⟨rfl, hc⟩
  have hx := var3 hc 23 (.int .i64 x2) (.int .i64 y2) (.string t2)
  have R14 := Lib.hid (R7.out.below hx.1 R7.out.lt)
  have R15 := Lib.hid (R9.out.below hx.1 R9.out.lt)
  have HB16 := Lib.hid (bmore HB8.out hx.1 (Nat.le_refl _))
  have R17 := Lib.hid hx.2
  clear hc hx R7 R9 HB8
  go_upto_region 4 with (fail)
  generalize w13.alloc (.cells #[.int .i64 x2, .int .i64 y2, .string t2] 23) = w19 at R14 R15 R17 HB16 ⊢
  generalize w13.heap.size = g18 at R17 ⊢
  obtain ⟨ca20, cb20, cc20, fa20, fb20, fc20⟩ := R14.out.three
  go_wp2_with fail
  clear ca20 cb20 cc20 fa20 fb20 fc20
  refine (vcheck_any _ hp1 hp2 hb1 hb2 HS.out H3.out).mono ?_
  rintro e w21 ⟨rfl, hc⟩
  have R22 := Lib.hid (R14.out.below hc R14.out.lt)
  have R23 := Lib.hid (R15.out.below hc R15.out.lt)
  have R24 := Lib.hid (R17.out.below hc R17.out.lt)
  have HB25 := Lib.hid (bmore HB16.out hc (Nat.le_refl _))
  clear hc R14 R15 R17 HB16
  rcases H3.out with ⟨hm, rfl⟩ | ⟨hm, rfl⟩
  · have HM := Lib.hid hm; clear hm
    go_wp2_with fail
    refine (check_any H4.out hk1 hk2 _).mono ?_
    rintro e w_ ⟨rfl, rfl⟩
    rcases H4.out with ⟨hg, rfl, rfl, rfl⟩ | ⟨hg, rfl, rfl, rfl⟩
    · have HG := Lib.hid hg
      have hk8 : 8 ≤ k := hg.1
      clear hg
      rcases (show p ≤ k ∨ k < p by omega) with hpk | hpk
      · obtain ⟨rfl, rfl, rfl, rfl⟩ := VM.prep_good H1.out HM.out HG.out hpk
        have HX := Lib.hid (show ChkIs x1 y1 t1 0 from .inl ⟨VM.may_prep HM.out HG.out hpk, rfl⟩)
        have hyb : y1 ≤ x1 := VM.may_le HM.out hpk hk8
        rcases (show u.size ≤ 1024 ∨ 1024 < u.size by omega) with hl | hl
        · obtain ⟨hx2, hy2, ht2, rfl⟩ := VM.acc_good H2.out HM.out HG.out hl hpk
          subst hx2 hy2 ht2
          have HY := Lib.hid (show ChkIs x1 x1 u 0 from .inl ⟨VM.may_acc HG.out hl, rfl⟩)
          obtain ⟨ca26, cb26, cc26, fa26, fb26, fc26⟩ := R22.out.three
          obtain ⟨ca27, cb27, cc27, fa27, fb27, fc27⟩ := R23.out.three
          obtain ⟨ca28, cb28, cc28, fa28, fb28, fc28⟩ := R24.out.three
          go_wp2_with fail
          clear ca26 cb26 cc26 fa26 fb26 fc26 ca27 cb27 cc27 fa27 fb27 fc27 ca28 cb28 cc28 fa28 fb28 fc28
          refine (vcheck_any _ hk1 hk2 hb1 hb2 HS.out HX.out).mono ?_
          rintro e w29 ⟨rfl, hc⟩
          have R30 := Lib.hid (R22.out.below hc R22.out.lt)
          have R31 := Lib.hid (R23.out.below hc R23.out.lt)
          have R32 := Lib.hid (R24.out.below hc R24.out.lt)
          have HB33 := Lib.hid (bmore HB25.out hc (Nat.le_refl _))
          clear hc R22 R23 R24 HB25
          obtain ⟨ca34, cb34, cc34, fa34, fb34, fc34⟩ := R30.out.three
          obtain ⟨ca35, cb35, cc35, fa35, fb35, fc35⟩ := R31.out.three
          obtain ⟨ca36, cb36, cc36, fa36, fb36, fc36⟩ := R32.out.three
          go_wp2_with fail
          clear ca34 cb34 cc34 fa34 fb34 fc34 ca35 cb35 cc35 fa35 fb35 fc35 ca36 cb36 cc36 fa36 fb36 fc36
          refine (vcheck_any _ hk1 hk2 hk1 hk2 HU.out HY.out).mono ?_
          rintro e w37 ⟨rfl, hc⟩
          have R38 := Lib.hid (R30.out.below hc R30.out.lt)
          have R39 := Lib.hid (R31.out.below hc R31.out.lt)
          have R40 := Lib.hid (R32.out.below hc R32.out.lt)
          have HB41 := Lib.hid (bmore HB33.out hc (Nat.le_refl _))
          clear hc R30 R31 R32 HB33
          obtain ⟨ca42, cb42, cc42, fa42, fb42, fc42⟩ := R38.out.three
          obtain ⟨ca43, cb43, cc43, fa43, fb43, fc43⟩ := R39.out.three
          obtain ⟨ca44, cb44, cc44, fa44, fb44, fc44⟩ := R40.out.three
          go_wp2_with fail
          clear ca42 cb42 cc42 fa42 fb42 fc42 ca43 cb43 cc43 fa43 fb43 fc43 ca44 cb44 cc44 fa44 fb44 fc44
          go_ret
          exact ⟨by simp; omega, HB41.out⟩
        · obtain ⟨he2, rfl, rfl, rfl⟩ := VM.acc_long H2.out HM.out HG.out hl
          subst he2
          obtain ⟨ca26, cb26, cc26, fa26, fb26, fc26⟩ := R22.out.three
          obtain ⟨ca27, cb27, cc27, fa27, fb27, fc27⟩ := R23.out.three
          obtain ⟨ca28, cb28, cc28, fa28, fb28, fc28⟩ := R24.out.three
          go_wp2_with fail
          clear ca26 cb26 cc26 fa26 fb26 fc26 ca27 cb27 cc27 fa27 fb27 fc27 ca28 cb28 cc28 fa28 fb28 fc28
          refine (vcheck_any _ hk1 hk2 hb1 hb2 HS.out HX.out).mono ?_
          rintro e w29 ⟨rfl, hc⟩
          have R30 := Lib.hid (R22.out.below hc R22.out.lt)
          have R31 := Lib.hid (R23.out.below hc R23.out.lt)
          have R32 := Lib.hid (R24.out.below hc R24.out.lt)
          have HB33 := Lib.hid (bmore HB25.out hc (Nat.le_refl _))
          clear hc R22 R23 R24 HB25
          obtain ⟨ca34, cb34, cc34, fa34, fb34, fc34⟩ := R30.out.three
          obtain ⟨ca35, cb35, cc35, fa35, fb35, fc35⟩ := R31.out.three
          obtain ⟨ca36, cb36, cc36, fa36, fb36, fc36⟩ := R32.out.three
          go_wp2_with fail
          clear ca34 cb34 cc34 fa34 fb34 fc34 ca35 cb35 cc35 fa35 fb35 fc35 ca36 cb36 cc36 fa36 fb36 fc36
          go_ret
          exact ⟨by simp; omega, HB33.out⟩
      · obtain ⟨he1, rfl, rfl, rfl⟩ := VM.prep_old H1.out HM.out HG.out hpk
        subst he1
        obtain ⟨he2, rfl, rfl, rfl⟩ := VM.acc_old H2.out HM.out HG.out hpk
        have z2 : (e2 == 0) = false := by simpa using he2
        obtain ⟨ca26, cb26, cc26, fa26, fb26, fc26⟩ := R22.out.three
        obtain ⟨ca27, cb27, cc27, fa27, fb27, fc27⟩ := R23.out.three
        obtain ⟨ca28, cb28, cc28, fa28, fb28, fc28⟩ := R24.out.three
        go_wp2_with fail
        clear ca26 cb26 cc26 fa26 fb26 fc26 ca27 cb27 cc27 fa27 fb27 fc27 ca28 cb28 cc28 fa28 fb28 fc28
        go_ret
        exact ⟨rfl, HB25.out⟩
    · have HG := Lib.hid hg; clear hg
      have z1 := VM.prep_bad H1.out (fun h => HG.out h.2)
      have z2 := VM.acc_bad H2.out (fun h => HG.out h.2)
      obtain ⟨z1, rfl, rfl, rfl⟩ := z1
      obtain ⟨z2, rfl, rfl, rfl⟩ := z2
      have z1' : (e1 != 0) = true := by simpa using z1
      have z2' : (e2 != 0) = true := by simpa using z2
      obtain ⟨ca26, cb26, cc26, fa26, fb26, fc26⟩ := R23.out.three
      obtain ⟨ca27, cb27, cc27, fa27, fb27, fc27⟩ := R24.out.three
      go_wp2_with fail
      clear ca26 cb26 cc26 fa26 fb26 fc26 ca27 cb27 cc27 fa27 fb27 fc27
      go_ret
      exact ⟨rfl, HB25.out⟩
  · have HM := Lib.hid hm; clear hm
    have z1 := VM.prep_bad H1.out (fun h => HM.out h.1)
    have z2 := VM.acc_bad H2.out (fun h => HM.out h.1)
    obtain ⟨z1, rfl, rfl, rfl⟩ := z1
    obtain ⟨z2, rfl, rfl, rfl⟩ := z2
    have z1' : (e1 != 0) = true := by simpa using z1
    have z2' : (e2 != 0) = true := by simpa using z2
    obtain ⟨ca26, cb26, cc26, fa26, fb26, fc26⟩ := R23.out.three
    obtain ⟨ca27, cb27, cc27, fa27, fb27, fc27⟩ := R24.out.three
    go_wp2_with fail
    clear ca26 cb26 cc26 fa26 fb26 fc26 ca27 cb27 cc27 fa27 fb27 fc27
    go_ret
    exact ⟨rfl, HB25.out⟩
end Go.Proofs.Ytgdelnegameapaa
