/-
  The walk of StableGoes: what is answered may be, logs never get shorter, votes never fall; over contracts of the program's functions. Conditions: any one, record, group and slot.
-/
import Derived.Test.YtohiemdodffhoaaKStableBackW
import Derived.Test.YtohiemdodffhoaaStA
namespace Go.Proofs.Ytohiemdodffhoaa.SP
open Go.RowKit
open SM (Sn Sb Vo)
set_option linter.unusedVariables false
set_option linter.unusedSimpArgs false
set_option maxRecDepth 100000

theorem rd_front {w : World} {A : Option Addr} {l r : List ByteArray} (h : Rd w A (l ++ r).length (tc (l ++ r))) : Rd w A l.length (tc l) := by
  refine ⟨tc_length l, fun hn => ?_⟩
  obtain ⟨ad, e, hb, hc⟩ := h.2 (by rw [List.length_append]; omega)
  refine ⟨ad, e, hb, fun j u hu => hc j u ?_⟩
  rw [tc_append, List.getElem?_append_left (by have := (List.getElem?_eq_some_iff.1 hu).1; exact this)]
  exact hu
theorem texts_quiet {A B : Option Addr} {ca cb : Nat} {l : List ByteArray} {w : World} (h1 : Rd w A l.length (tc l)) (h2 : Rd w B l.length (tc l)) (hm : l.length ≤ maxLen) :
    Calls Try.prog 18 #[.slice A l.length ca, .slice B l.length cb] w fun e w' => e = .returned (.bool true) ∧ ∃ q, w' = w.drewN q :=
  (rsametexts_any A B l.length l.length ca cb l l w h1 h2 hm hm).mono fun e w' h => ⟨by rw [h.1]; simp, h.2⟩
theorem at_may {x : Sb} (hx : SM.may x) (g s : Int) : SM.atF x g s = if g < 0 ∨ (x.logs.length : Int) ≤ g then (SM.vz, 6) else if s < 1 ∨ 200 < s then (SM.vz, 2) else (SM.find x.votes g s, 0) := by
  unfold SM.atF
  rw [if_neg (fun k => k hx)]
theorem at_code {x y : Sb} (hx : SM.may x) (hy : SM.may y) (h : y.logs.length = x.logs.length) (g s : Int) : (SM.atF y g s).2 = (SM.atF x g s).2 := by
  rw [at_may hx, at_may hy, h]
  by_cases h1 : g < 0 ∨ (x.logs.length : Int) ≤ g
  · rw [if_pos h1, if_pos h1]
  · rw [if_neg h1, if_neg h1]
    by_cases h2 : s < 1 ∨ 200 < s
    · rw [if_pos h2, if_pos h2]
    · rw [if_neg h2, if_neg h2]
theorem at_find {x : Sb} {g s : Int} (h : (SM.atF x g s).2 = 0) : SM.atF x g s = (SM.find x.votes g s, 0) := by
  unfold SM.atF at h ⊢
  by_cases h0 : ¬ SM.may x
  · rw [if_pos h0] at h; exact absurd h (by decide)
  · rw [if_neg h0] at h ⊢
    by_cases h1 : g < 0 ∨ (x.logs.length : Int) ≤ g
    · rw [if_pos h1] at h; exact absurd h (by decide)
    · rw [if_neg h1] at h ⊢
      by_cases h2 : s < 1 ∨ 200 < s
      · rw [if_pos h2] at h; exact absurd h (by decide)
      · rw [if_neg h2]
theorem five_bx {w : World} {g : Nat} {t : TypeId} {a b c d f : Value} (h : Box w g t #[a, b, c, d, f]) :
    w.cell? ⟨g, 0, none⟩ = some a ∧ w.cell? ⟨g, 1, none⟩ = some b ∧ w.cell? ⟨g, 2, none⟩ = some c ∧ w.cell? ⟨g, 3, none⟩ = some d ∧ w.cell? ⟨g, 4, none⟩ = some f :=
  ⟨h.cell 0, h.cell 1, h.cell 2, h.cell 3, h.cell 4⟩
/-- StableGoes's variables -/
structure GoV (w1 : World) (g0 : Nat) (A : Option Addr) (c : Nat) (B : Option Addr) (d : Nat) (x : Sb) (R : Array Value) (wr : World) : Prop where
  bl : Below w1.heap.size w1 wr
  bx : Box wr g0 25 #[.slice A x.logs.length c, .slice B x.votes.length d]
  br : Box wr (g0 + 1) 29 R
  st : StIs wr (.agg #[.slice A x.logs.length c, .slice B x.votes.length d]) x
theorem GoV.below {w1 w w' : World} {g0 : Nat} {A : Option Addr} {c : Nat} {B : Option Addr} {d : Nat} {x : Sb} {R : Array Value} (h : GoV w1 g0 A c B d x R w) (hb : Below w.heap.size w w') : GoV w1 g0 A c B d x R w' :=
  ⟨bmore h.bl hb (Nat.le_refl _), h.bx.below hb h.bx.lt, h.br.below hb h.br.lt, h.st.below hb⟩
theorem st_logs {w : World} {A : Option Addr} {c : Nat} {B : Option Addr} {d : Nat} {x : Sb} (h : StIs w (.agg #[.slice A x.logs.length c, .slice B x.votes.length d]) x) : LogsIs w A x.logs.length c x.logs := by
  obtain ⟨A', c', B', d', e, h1, h2⟩ := h
  injection e with e
  injection e with e
  injection e with e1 e
  injection e1 with e1 _ e2
  subst e1
  subst e2
  exact h1
structure GoX (g2 : Nat) (A : Option Addr) (c : Nat) (B : Option Addr) (d : Nat) (y : Sb) (wr : World) : Prop where
  bx : Box wr g2 25 #[.slice A y.logs.length c, .slice B y.votes.length d]
  st : StIs wr (.agg #[.slice A y.logs.length c, .slice B y.votes.length d]) y
theorem GoX.below {w w' : World} {g2 : Nat} {A : Option Addr} {c : Nat} {B : Option Addr} {d : Nat} {y : Sb} (h : GoX g2 A c B d y w) (hb : Below w.heap.size w w') : GoX g2 A c B d y w' := ⟨h.bx.below hb h.bx.lt, h.st.below hb⟩
set_option maxHeartbeats 32000000 in
theorem stableGoes_of (NP : NewP) (AP : AppP) (TP : AtP) (CP : ChkP) (v : Value) (x : Sb) (k g s b : Int) (t : ByteArray) (gp sl : Int) (w : World) (hv : StArg w v x) (hb1 : -9223372036854775808 ≤ b) (hb2 : b ≤ 9223372036854775807) (ht : t.size ≤ maxLen) :
    Calls Try.prog 7 #[v, .agg #[.int .u8 k, .int .i64 g, .int .i64 s, .int .i64 b, .string t], .int .i64 gp, .int .i64 sl] w fun e w' => e = .returned (.bool true) ∧ Below w.heap.size w w' := by
  obtain ⟨⟨A, c, B, d, rfl, hL, hV⟩, F⟩ := hv
  obtain ⟨m0, m1, m2⟩ := rows_rd2 hL
  unfold maxLen at m2
  have hb0 : Below w.heap.size w ((w.alloc (.cells #[.slice A x.logs.length c, .slice B x.votes.length d] 25)).alloc (.cells #[.int .u8 k, .int .i64 g, .int .i64 s, .int .i64 b, .string t] 29)) := ((Below.refl _ _).alloc (Nat.le_refl _) _).alloc (by simp) _
  have HB := Lib.hid hb0
  have X := Lib.hid (show GoV ((w.alloc (.cells #[.slice A x.logs.length c, .slice B x.votes.length d] 25)).alloc (.cells #[.int .u8 k, .int .i64 g, .int .i64 s, .int .i64 b, .string t] 29)) w.heap.size A c B d x #[.int .u8 k, .int .i64 g, .int .i64 s, .int .i64 b, .string t] ((w.alloc (.cells #[.slice A x.logs.length c, .slice B x.votes.length d] 25)).alloc (.cells #[.int .u8 k, .int .i64 g, .int .i64 s, .int .i64 b, .string t] 29)) from
    ⟨Below.refl _ _, (Box.new w _ _).alloc _, Box.new_at _ (by simp), A, c, B, d, rfl, hL.below hb0, hV.below hb0⟩)
  have HF := Lib.hid F
  have ht2 := ht
  unfold maxLen at ht2
  clear hL hV hb0 F m0
  go_enter Try.func7, Try.ntmps7
  go_upto_region 1 with (fail)
  generalize (w.alloc (.cells #[.slice A x.logs.length c, .slice B x.votes.length d] 25)).alloc (.cells #[.int .u8 k, .int .i64 g, .int .i64 s, .int .i64 b, .string t] 29) = w1 at HB X ⊢
  obtain ⟨g0, hg0⟩ : ∃ g0, w.heap.size = g0 := ⟨_, rfl⟩
  rw [hg0] at X
  simp only [hg0]
  have HG := Lib.hid hg0
  clear hg0
  go_wp2_with fail
  refine (alive_any NP AP TP w1).mono ?_
  rintro e w2 ⟨rfl, hb⟩
  replace X := Lib.hid (X.out.below hb)
  clear hb
  obtain ⟨x0, x1, _, _⟩ := X.out.bx.two
  go_wp2_with fail
  clear x0 x1
  refine (rgreat11_any _ x w2 X.out.st HF.out).mono ?_
  rintro e w3 ⟨gr, rfl, hfew, hb⟩
  replace X := Lib.hid (X.out.below hb)
  clear hb hfew
  rcases gr with _ | _
  rotate_left
  · go_wp2_with fail
    go_ret
    exact ⟨rfl, HB.out.trans (X.out.bl.mono HB.out.size)⟩
  obtain ⟨r0, r1, r2, r3, r4⟩ := five_bx X.out.br
  by_cases h5 : 5000 < t.size
  · have t5 : decide ((5000 : Int) < (t.size : Int)) = true := by rw [decide_eq_true_iff]; omega
    go_wp2_with fail
    go_ret
    exact ⟨rfl, HB.out.trans (X.out.bl.mono HB.out.size)⟩
  have t5 : decide ((5000 : Int) < (t.size : Int)) = false := by rw [decide_eq_false_iff_not]; omega
  have CA := Lib.hid (AP _ x k g s b t w3 X.out.st HF.out ht hb1 hb2)
  obtain ⟨x0, x1, _, _⟩ := X.out.bx.two
  go_wp2_with fail
  clear x0 x1 r0 r1 r2 r3 r4 t5
  refine (CA.out).mono ?_
  rintro e w4 ⟨v4, rfl, hst, hb⟩
  obtain ⟨q, hq⟩ : ∃ q, q = SM.appF x ⟨k, g, s, b, t⟩ := ⟨_, rfl⟩
  rw [← hq] at hst ⊢
  have HQ := Lib.hid hq
  clear hq CA
  obtain ⟨y, e2⟩ := q
  simp only at hst ⊢
  obtain ⟨A2, c2, B2, d2, rfl⟩ := ty_slices hst
  have hba : Below w4.heap.size w4 (w4.alloc (.cells #[.slice A2 y.logs.length c2, .slice B2 y.votes.length d2] 25)) := (Below.refl _ _).alloc (Nat.le_refl _) _
  have Y := Lib.hid (show GoX w4.heap.size A2 c2 B2 d2 y (w4.alloc (.cells #[.slice A2 y.logs.length c2, .slice B2 y.votes.length d2] 25)) from ⟨Box.new _ _ _, (hst.below hba).is⟩)
  replace X := Lib.hid (X.out.below (bmore hb hba (Nat.le_refl _)))
  clear hst hb hba
  go_upto_region 7 with (fail)
  generalize w4.alloc (.cells #[.slice A2 y.logs.length c2, .slice B2 y.votes.length d2] 25) = w5 at X Y ⊢
  generalize w4.heap.size = g2 at Y ⊢
  obtain ⟨y0, y1, _, _⟩ := Y.out.bx.two
  by_cases he : e2 = 0
  case neg =>
    have teb : (e2 != 0) = true := by simpa using he
    have hz : y.logs.length = 0 := by
      have h1 := SM.app_zero (x := x) (r := ⟨k, g, s, b, t⟩) (by rw [← HQ.out]; exact he)
      rw [← HQ.out] at h1
      simp only at h1
      rw [h1]; rfl
    rw [hz] at y0
    clear he hz
    go_wp2_with fail
    go_ret
    exact ⟨rfl, HB.out.trans (X.out.bl.mono HB.out.size)⟩
  subst he
  have hdn := SM.app_done (x := x) (r := ⟨k, g, s, b, t⟩) (by rw [← HQ.out])
  rw [← HQ.out] at hdn
  simp only at hdn
  have DN := Lib.hid hdn
  have hlen := (SM.done_logs hdn).1
  have HLG := Lib.hid (SM.done_logs hdn).2
  have HMY := Lib.hid (SM.done_may hdn)
  have HLE := Lib.hid hlen
  clear hdn HQ hlen
  go_wp2_with fail
  clear y0 y1
  refine (CP _ y w5 Y.out.st (fit_may HMY.out)).mono ?_
  rintro e w6 ⟨z, rfl, hz, hb⟩
  obtain rfl : z = 0 := hz.2 HMY.out
  replace X := Lib.hid (X.out.below hb)
  replace Y := Lib.hid (Y.out.below hb)
  clear hb hz
  obtain ⟨y0, y1, _, _⟩ := Y.out.bx.two
  obtain ⟨x0, x1, _, _⟩ := X.out.bx.two
  have tl : ((y.logs.length : Int) != (x.logs.length : Int)) = false := by simp [HLE.out]
  go_wp2_with fail
  clear y0 y1 x0 x1 tl
  go_loopw [12] (fun i wr => ∃ j : Nat, j ≤ x.logs.length ∧ i = .int .i64 j ∧ Hid (Below w6.heap.size w6 wr)) (fun i _ => x.logs.length - (intOf i).toNat)
  case atStart => exact ⟨0, Nat.zero_le _, rfl, Lib.hid (Below.refl _ _)⟩
  case round =>
    obtain ⟨j, hj, rfl, HW⟩ := hrel
    have X2 := Lib.hid (X.out.below HW.out)
    have Y2 := Lib.hid (Y.out.below HW.out)
    obtain ⟨x0, x1, _, _⟩ := X2.out.bx.two
    by_cases hlt : j < x.logs.length
    · obtain ⟨l, hl⟩ : ∃ l, x.logs[j]? = some l := ⟨_, List.getElem?_eq_getElem hlt⟩
      have hl2 := HLG.out j l hl
      obtain ⟨ad, C, e, hA, _, q1, hrd, hq3, hq4⟩ := logs_get (st_logs X2.out.st) hl
      subst hA
      obtain ⟨ad2, C2, e2, hA, _, p1, hrd2, hp3, hp4⟩ := logs_get (st_logs Y2.out.st) hl2
      subst hA
      have hr1 := rd_front hrd2
      have CS := Lib.hid (fun nq => (texts_quiet (A := C2) (B := C) (ca := e2) (cb := e) (l := l) (w := wr.drewN nq) (hr1.drewN nq) (hrd.drewN nq) (Nat.le_trans hq3 hq4)).mono (R' := fun e w' => e = .returned (.bool true) ∧ ∃ m, w' = wr.drewN m) fun e w' ⟨a, m, b⟩ => ⟨a, nq + m, by rw [b]; simp⟩)
      unfold maxLen at hq4 hp4
      have HLE2 := Lib.hid hl2
      have j0 : (0 : Int) ≤ (j : Int) := by omega
      have j1 : (j : Int) < (x.logs.length : Int) := by omega
      have j2 : (j : Int) < (y.logs.length : Int) := by have := HLE.out; omega
      obtain ⟨y0, y1, _, _⟩ := Y2.out.bx.two
      obtain ⟨r0, r1, r2, r3, r4⟩ := five_bx X2.out.br
      clear hl hl2 hrd hrd2 hr1
      by_cases hk : k = 3
      · have tk : (k == 3) = true := by simpa using hk
        by_cases hg : (j : Int) = g
        · have tg : ((j : Int) == g) = true := by simpa using hg
          have hpl : (l ++ if k = 3 ∧ (j : Int) = g then [t] else []).length = l.length + 1 := by rw [if_pos ⟨hk, hg⟩]; simp
          try simp only at p1 hp3
          rw [hpl] at p1 hp3
          have tn : (((l.length + 1 : Nat) : Int) != (l.length : Int) + 1) = false := by simp
          have tc2 : ((l.length : Int)).toNat = l.length := by omega
          have hle : (l.length : Int) ≤ (e2 : Int) := by omega
          clear hk hg hpl
          go_wp2_with fail
          go_quiet ((go_at_call 18; with_reducible exact CS.out _))
          go_wp2_with fail
          go_roundw
          case rel => exact ⟨j + 1, by omega, by go_num, Lib.hid (below_drewN HW.out _)⟩
          case measure => simp [intOf]; omega
        · have tg : ((j : Int) == g) = false := by simpa using hg
          have hpl : (l ++ if k = 3 ∧ (j : Int) = g then [t] else []).length = l.length := by rw [if_neg (fun h => hg h.2)]; simp
          try simp only at p1 hp3
          rw [hpl] at p1 hp3
          have tn : ((l.length : Int) != (l.length : Int)) = false := by simp
          have hle : (l.length : Int) ≤ (e2 : Int) := by omega
          clear hk hg hpl
          go_wp2_with fail
          go_quiet ((go_at_call 18; with_reducible exact CS.out _))
          go_wp2_with fail
          go_roundw
          case rel => exact ⟨j + 1, by omega, by go_num, Lib.hid (below_drewN HW.out _)⟩
          case measure => simp [intOf]; omega
      · have tk : (k == 3) = false := by simpa using hk
        have hpl : (l ++ if k = 3 ∧ (j : Int) = g then [t] else []).length = l.length := by rw [if_neg (fun h => hk h.1)]; simp
        try simp only at p1 hp3
        rw [hpl] at p1 hp3
        have tn : ((l.length : Int) != (l.length : Int)) = false := by simp
        have hle : (l.length : Int) ≤ (e2 : Int) := by omega
        clear hk hpl
        go_wp2_with fail
        go_quiet ((go_at_call 18; with_reducible exact CS.out _))
        go_wp2_with fail
        go_roundw
        case rel => exact ⟨j + 1, by omega, by go_num, Lib.hid (below_drewN HW.out _)⟩
        case measure => simp [intOf]; omega
    · have CT1 := Lib.hid (fun (w : World) (h : StIs w (.agg #[.slice A x.logs.length c, .slice B x.votes.length d]) x) => TP _ x gp sl w h HF.out)
      have CT2 := Lib.hid (fun (w : World) (h : StIs w (.agg #[.slice A2 y.logs.length c2, .slice B2 y.votes.length d2]) y) => TP _ y gp sl w h (fit_may HMY.out))
      have HC := Lib.hid (at_code DN.out.mx HMY.out HLE.out gp sl)
      have HA1 := Lib.hid (fun h => at_find (x := x) (g := gp) (s := sl) h)
      have HA2 := Lib.hid (fun h => at_find (x := y) (g := gp) (s := sl) h)
      have HVT := Lib.hid (SM.done_votes DN.out gp sl)
      obtain ⟨o1, ho1⟩ : ∃ o1, o1 = SM.atF x gp sl := ⟨_, rfl⟩
      obtain ⟨o2, ho2⟩ : ∃ o2, o2 = SM.atF y gp sl := ⟨_, rfl⟩
      rw [← ho1] at HC HA1
      rw [← ho2] at HC HA2
      simp only [← ho1] at CT1
      simp only [← ho2] at CT2
      clear ho1 ho2
      obtain ⟨⟨p1, b1, v1⟩, z1⟩ := o1
      obtain ⟨⟨p2, b2, v2⟩, z2⟩ := o2
      simp only at CT1 CT2 HA1 HA2
      obtain rfl : z2 = z1 := HC.out
      clear HC
      go_wp2_with fail
      clear x0 x1
      refine (CT1.out _ X2.out.st).mono ?_
      rintro e w8 ⟨rfl, hb⟩
      have hba : Below w8.heap.size w8 (w8.alloc (.cells #[.int .i64 p1, .int .i64 b1, .string v1] 48)) := (Below.refl _ _).alloc (Nat.le_refl _) _
      have hbb := bmore hb hba (Nat.le_refl _)
      have P1 := Lib.hid (Box.new w8 48 #[.int .i64 p1, .int .i64 b1, .string v1])
      replace X2 := Lib.hid (X2.out.below hbb)
      replace Y2 := Lib.hid (Y2.out.below hbb)
      clear hb hba hbb CT1
      go_upto_region 21 with (fail)
      generalize w8.alloc (.cells #[.int .i64 p1, .int .i64 b1, .string v1] 48) = w9 at X2 Y2 P1 ⊢
      generalize w8.heap.size = g3 at P1 ⊢
      obtain ⟨y0, y1, _, _⟩ := Y2.out.bx.two
      go_wp2_with fail
      clear y0 y1
      refine (CT2.out _ Y2.out.st).mono ?_
      rintro e w10 ⟨rfl, hb⟩
      have hba : Below w10.heap.size w10 (w10.alloc (.cells #[.int .i64 p2, .int .i64 b2, .string v2] 48)) := (Below.refl _ _).alloc (Nat.le_refl _) _
      have hbb := bmore hb hba (Nat.le_refl _)
      have P2 := Lib.hid (Box.new w10 48 #[.int .i64 p2, .int .i64 b2, .string v2])
      replace X2 := Lib.hid (X2.out.below hbb)
      replace P1 := Lib.hid (P1.out.below hbb P1.out.lt)
      clear hb hba hbb CT2 Y2
      go_upto_region 22 with (fail)
      generalize w10.alloc (.cells #[.int .i64 p2, .int .i64 b2, .string v2] 48) = w11 at X2 P1 P2 ⊢
      generalize w10.heap.size = g4 at P2 ⊢
      by_cases hz : z2 = 0
      case neg =>
        have tz : (z2 != 0) = true := by simpa using hz
        have tzz : (z2 == z2) = true := by simp
        clear hz
        go_wp2_with fail
        go_ret
        exact ⟨rfl, HB.out.trans (X2.out.bl.mono HB.out.size)⟩
      subst hz
      have e1 : (⟨p1, b1, v1⟩ : Vo) = SM.find x.votes gp sl := by have := HA1.out rfl; injection this
      have e2 : (⟨p2, b2, v2⟩ : Vo) = SM.find y.votes gp sl := by have := HA2.out rfl; injection this
      have hvt := HVT.out
      rw [← e1, ← e2] at hvt
      obtain ⟨hv1, hv2⟩ := hvt
      have HV1 := Lib.hid hv1
      have HV2 := Lib.hid hv2
      clear hv1 hv2 e1 e2 HVT HA1 HA2
      obtain ⟨r0, r1, r2, r3, r4⟩ := five_bx X2.out.br
      obtain ⟨a0, a1, a2, _, _, _⟩ := P1.out.three
      obtain ⟨c0, c1, c2', _, _, _⟩ := P2.out.three
      by_cases hg : g = gp
      · by_cases hs : s = sl
        · have tg : (g != gp) = false := by simpa using hg
          have ts : (s != sl) = false := by simpa using hs
          rcases HV2.out ⟨hg, hs⟩ with ⟨hk, hvz⟩ | ⟨hk, hp, hbl, hpb⟩
          · have tk : (k == 3) = true := by simpa using hk
            injection hvz with h1 h2 h3
            try simp only at h1 h2 h3
            subst h1
            subst h2
            subst h3
            clear hg hs hk
            go_wp2_with fail
            go_ret
            exact ⟨rfl, HB.out.trans (X2.out.bl.mono HB.out.size)⟩
          · have tk : (k == 3) = false := by simpa using hk
            simp only at hp hbl hpb hk
            have u1 : decide (p1 ≤ p2) = true := by simpa using hp
            have u2 : decide (b1 ≤ b2) = true := by simpa using hbl
            have u3 : (p2 == b) = true := by simpa using hpb
            clear hg hs hk hp hbl hpb
            go_wp2_with fail
            go_ret
            exact ⟨rfl, HB.out.trans (X2.out.bl.mono HB.out.size)⟩
        · have tg : (g != gp) = false := by simpa using hg
          have ts : (s != sl) = true := by simpa using hs
          have hvz := HV1.out (fun h => hs h.2)
          injection hvz with h1 h2 h3
          subst h1
          subst h2
          subst h3
          clear hg hs
          go_wp2_with fail
          go_ret
          exact ⟨rfl, HB.out.trans (X2.out.bl.mono HB.out.size)⟩
      · have tg : (g != gp) = true := by simpa using hg
        have hvz := HV1.out (fun h => hg h.1)
        injection hvz with h1 h2 h3
        subst h1
        subst h2
        subst h3
        clear hg
        go_wp2_with fail
        go_ret
        exact ⟨rfl, HB.out.trans (X2.out.bl.mono HB.out.size)⟩
end Go.Proofs.Ytohiemdodffhoaa.SP
