/-
  Package skeen: do, wrong. Conditions: as assign and final ask.
  Package skeen: New, Local. Conditions: a clock that reads as one.
-/
import Derived.Test.YtnpgjcapekopnaaK09
import Derived.Test.YtnpgjcapekopnaaK14
import Derived.Test.YtnpgjcapekopnaaK12
import Derived.Test.YtnpgjcapekopnaaK15
import Derived.Test.YtnpgjcapekopnaaK04
namespace Go.Proofs.Ytnpgjcapekopnaa.KP
open Go.RowKit CP TP
open CM (Mg Cm)
open TM (Sp)
open KM (Wt Sk)
set_option linter.unusedVariables false
set_option linter.unusedSimpArgs false
set_option maxRecDepth 100000
theorem fnl_no {s : Sk} {c : Cm} (h : c.k ≠ 2) : KM.fnl s c = s := by
  unfold KM.fnl
  rcases s.ws[KM.wat s.ws c.id]? with _ | w
  · rfl
  · exact if_neg fun q => h q.1
theorem pre_no {s : Sk} {g : Int} {c : Cm} (h : c.k ≠ 1) : KM.pre s g c = s := by
  unfold KM.pre
  exact if_neg fun q => h q.1
/-- what do makes of it, and answers -/
def DoQ (w0 : World) (b p : Nat) (S : Sk) (g : Int) (cm : Cm) (vD : Value) (e : Ending) (w' : World) : Prop :=
  (¬ (KM.asg S g cm ∧ KM.full S) ∧ e = .returned (.int .i64 0) ∧ ∃ vW, PtC w0 b p (KM.fnl (KM.pre S g cm) cm).c vW vD (KM.fnl (KM.pre S g cm) cm).ws S.ds w') ∨
    (KM.asg S g cm ∧ KM.full S ∧ e = .returned (.int .i64 9) ∧ ∃ vW, PtC w0 b p S.c vW vD S.ws S.ds w')
set_option maxHeartbeats 8000000 in
theorem pdo15_any (w0 : World) (b p : Nat) (sc : Int) (vW vD : Value) (ws : List Wt) (ds : List Sp) (g : Int) (cm : Cm) (P0 : Option Addr) (q0 : Nat) (Q0 : Option Addr) (u0 : Nat) (W : World)
    (h : PtC w0 b p sc vW vD ws ds W) (hm : ∀ W', Below b w0 W' → RowIs W' P0 q0 cm.m.gs) (hgs : cm.m.gs.length ≤ 17592186044416) (hp : ws.Pairwise fun a b => a.m.id < b.m.id) (hn : ws.length ≤ 200) (hc : 0 ≤ sc ∧ sc ≤ 1073741824) :
    Calls Try.prog 24 #[.pointer (some ⟨p, 0, none⟩), .int .i64 g, .agg (ccells P0 q0 Q0 u0 cm)] W (DoQ w0 b p ⟨sc, ws, ds⟩ g cm vD) := by
  obtain ⟨A, n, cw, B, cd, e1, e2, e3⟩ := h.forms
  subst e1 e2
  clear e3 n
  have HT := Lib.hid h
  have KA := Lib.hid (fun (k : cm.k = 1) W' (t : PtC w0 b p sc (.slice A ws.length cw) (.slice B ds.length cd) ws ds W') => (passign15_any w0 b p sc A ws.length cw B ds.length cd ws ds g cm k P0 q0 W' t hm hgs hp hn hc).mono (R' := fun e w' => (∃ er, e = .returned (.int .i64 er)) ∧ DoQ w0 b p ⟨sc, ws, ds⟩ g cm (.slice B ds.length cd) e w') (fun e w' q => by
    have h2 : cm.k ≠ 2 := by rw [k]; decide
    rcases q with ⟨q1, q2, vW, q3⟩ | q
    · exact ⟨⟨_, q2⟩, .inl ⟨q1, q2, vW, by rw [fnl_no h2]; exact q3⟩⟩
    · exact ⟨⟨_, q.2.2.1⟩, .inr q⟩))
  have KF := Lib.hid (fun (k : cm.k = 2) W' (t : PtC w0 b p sc (.slice A ws.length cw) (.slice B ds.length cd) ws ds W') => pfinal15_any w0 b p sc A ws.length cw (.slice B ds.length cd) ws ds cm k W' t hp hn)
  have HF2 := Lib.hid (fun (k : cm.k ≠ 1) w' vW (t : PtC w0 b p (KM.fnl ⟨sc, ws, ds⟩ cm).c vW (.slice B ds.length cd) (KM.fnl ⟨sc, ws, ds⟩ cm).ws ds w') => show DoQ w0 b p ⟨sc, ws, ds⟩ g cm (.slice B ds.length cd) (.returned (.int .i64 0)) w' from .inl ⟨fun q => k q.1.1, rfl, vW, by rw [pre_no k]; exact t⟩)
  have HF0 := Lib.hid (fun (k : cm.k ≠ 1) (k2 : cm.k ≠ 2) w' vW (t : PtC w0 b p sc vW (.slice B ds.length cd) ws ds w') => show DoQ w0 b p ⟨sc, ws, ds⟩ g cm (.slice B ds.length cd) (.returned (.int .i64 0)) w' from .inl ⟨fun q => k q.1.1, rfl, vW, by rw [pre_no k, fnl_no k2]; exact t⟩)
  obtain ⟨QQ, hQQ⟩ : ∃ QQ, QQ = DoQ w0 b p ⟨sc, ws, ds⟩ g cm (.slice B ds.length cd) := ⟨_, rfl⟩
  rw [← hQQ] at KA HF2 HF0 ⊢
  obtain ⟨S2, hS2⟩ : ∃ S2, S2 = KM.fnl ⟨sc, ws, ds⟩ cm := ⟨_, rfl⟩
  rw [← hS2] at KF HF2
  clear hQQ hS2 h hm hgs hp hn hc
  obtain ⟨ck, ⟨ai, ag, at_, ak, ab⟩, bid, btm, bms, btp, bwh, bn⟩ := cm
  unfold ccells
  unfold mcells at KA
  simp only at KA KF HF2 HF0 ⊢
  have HB := Lib.hid (show Below W.heap.size W (W.alloc (.cells #[.int .u8 ck, .int .i64 ai, .slice P0 ag.length q0, .int .i64 at_, .string ak, .string ab, .int .i64 bid, .int .i64 btm, .slice Q0 bms.length u0, .int .i64 btp, .int .i64 bwh, .int .i64 bn] 33)) from (Below.refl _ _).alloc (Nat.le_refl _) _)
  have Y := Lib.hid (Box.new W 33 #[.int .u8 ck, .int .i64 ai, .slice P0 ag.length q0, .int .i64 at_, .string ak, .string ab, .int .i64 bid, .int .i64 btm, .slice Q0 bms.length u0, .int .i64 btp, .int .i64 bwh, .int .i64 bn])
  go_enter Try.func24, Try.ntmps24
  go_upto_region 1 with (fail)
  replace HT := Lib.hid (HT.out.below HB.out)
  generalize W.alloc (.cells #[.int .u8 ck, .int .i64 ai, .slice P0 ag.length q0, .int .i64 at_, .string ak, .string ab, .int .i64 bid, .int .i64 btm, .slice Q0 bms.length u0, .int .i64 btp, .int .i64 bwh, .int .i64 bn] 33) = w1 at HB Y HT ⊢
  generalize W.heap.size = g5 at Y ⊢
  have y0 := Y.out.cell 0
  have y1 := Y.out.cell 1
  have y2 := Y.out.cell 2
  have y3 := Y.out.cell 3
  have y4 := Y.out.cell 4
  have y5 := Y.out.cell 5
  have y6 := Y.out.cell 6
  have y7 := Y.out.cell 7
  simp at y0 y1 y2 y3 y4 y5 y6 y7
  by_cases k1 : ck = 1
  · have CA := Lib.hid (KA.out k1 w1 HT.out)
    subst k1
    go_wp2_with fail
    refine (CA.out).mono ?_
    rintro e w2 ⟨⟨er, rfl⟩, hq⟩
    have HQ := Lib.hid hq
    clear hq CA y0 y1 y2 y3 y4 y5 y6 y7
    go_wp2_with fail
    exact HQ.out
  by_cases k2 : ck = 2
  · have CF := Lib.hid (KF.out k2 w1 HT.out)
    have HE := Lib.hid (HF2.out k1)
    subst k2
    go_wp2_with fail
    refine (CF.out).mono ?_
    rintro e w2 ⟨rfl, hq⟩
    have HQ := Lib.hid hq
    clear hq CF y0 y1 y2 y3 y4 y5 y6 y7
    go_wp2_with fail
    exact HE.out _ _ HQ.out
  have HE := Lib.hid (HF0.out k1 k2)
  have j1 : (ck == 1) = false := by simpa using k1
  have j2 : (ck == 2) = false := by simpa using k2
  go_wp2_with fail
  exact HE.out _ _ HT.out
end Go.Proofs.Ytnpgjcapekopnaa.KP

namespace Go.Proofs.Ytnpgjcapekopnaa.KP
open Go.RowKit CP TP
open CM (Mg Cm)
open TM (Sp)
open KM (Wt Sk)
set_option linter.unusedVariables false
set_option linter.unusedSimpArgs false
set_option maxRecDepth 100000
set_option maxHeartbeats 1000000 in
theorem pnew15_any (w : World) : Calls Try.prog 20 #[] w (SkNew KM.zero w) := by
  have HB := Lib.hid (show Below w.heap.size w (w.alloc (.cells #[.int .i64 0, .slice none 0 0, .slice none 0 0] 25)) from (Below.refl _ _).alloc (Nat.le_refl _) _)
  have X := Lib.hid (Box.new w 25 #[.int .i64 0, .slice none 0 0, .slice none 0 0])
  go_enter Try.func20, Try.ntmps20
  go_upto_region 1 with (fail)
  generalize w.alloc (.cells #[.int .i64 0, .slice none 0 0, .slice none 0 0] 25) = w1 at HB X ⊢
  obtain ⟨g0, hg0⟩ : ∃ g0, w.heap.size = g0 := ⟨_, rfl⟩
  rw [hg0] at X
  simp only [hg0]
  have HG := Lib.hid hg0
  clear hg0
  obtain ⟨x0, x1, x2, f0, f1, f2⟩ := X.out.three
  have ZP := Lib.hid (Box.put3 X.out (.int .i64 0) (.slice none 0 0) (.slice none 0 0))
  have ZL := Lib.hid (below_put3 HB.out (by have := HG.out; omega) (.int .i64 0) (.slice none 0 0) (.slice none 0 0) (g := g0))
  go_wp2_with fail
  obtain ⟨u0, u1, u2⟩ := box_sk ZP.out
  exact bodyPost_ret (v := .agg #[.int .i64 0, .slice none 0 0, .slice none 0 0]) (by simp [results, Try.results20, go_sem, u0, u1, u2]; try rfl) rfl ⟨_, rfl, skO_zero _ _, ZL.out⟩
/-- what Local answers -/
def LocQ (x : Int × Bool × Int) (w : World) (e : Ending) (w' : World) : Prop := e = .returned (.tuple #[.int .i64 x.1, .bool x.2.1, .int .i64 x.2.2]) ∧ Below w.heap.size w w'
set_option maxHeartbeats 8000000 in
theorem plocal15_any (v : Value) (s : Sk) (id : Int) (w : World) (h : SkIs w v s) (hf : SkFit s) : Calls Try.prog 9 #[v, .int .i64 id] w (LocQ (KM.localF s id) w) := by
  have KM1 := Lib.hid (fun W (hb : Below w.heap.size w W) => pcheck15_any v s W (h.below hb) hf)
  obtain ⟨y, hy⟩ : ∃ y, y = KM.localF s id := ⟨_, rfl⟩
  rw [← hy]
  have HY := Lib.hid hy
  obtain ⟨er, her⟩ : ∃ q : Int, q = if KM.may s then 0 else 8 := ⟨_, rfl⟩
  rw [← her] at KM1
  have HER := Lib.hid her
  clear hy her hf
  obtain ⟨A, c, B, d, rfl, r1, d1⟩ := h
  obtain ⟨n, hna⟩ : ∃ n, n = s.ws.length := ⟨_, rfl⟩
  have HLA := Lib.hid hna
  have H := Lib.hid (fun W (hb : Below w.heap.size w W) => r1.below hb)
  unfold vsk at KM1 ⊢
  rw [← hna] at KM1 H ⊢
  clear hna r1 d1
  obtain ⟨m, hmb⟩ : ∃ m, m = s.ds.length := ⟨_, rfl⟩
  rw [← hmb] at KM1 ⊢
  clear hmb
  obtain ⟨sc, ws, ds⟩ := s
  simp only at KM1 HLA H ⊢
  have HB := Lib.hid (show Below w.heap.size w (w.alloc (.cells #[.int .i64 sc, .slice A n c, .slice B m d] 25)) from (Below.refl _ _).alloc (Nat.le_refl _) _)
  have X := Lib.hid (Box.new w 25 #[.int .i64 sc, .slice A n c, .slice B m d])
  go_enter Try.func9, Try.ntmps9
  go_upto_region 1 with (fail)
  generalize w.alloc (.cells #[.int .i64 sc, .slice A n c, .slice B m d] 25) = w1 at HB X ⊢
  generalize hg : w.heap.size = g at X ⊢
  clear hg
  obtain ⟨x0, x1, x2⟩ := box_sk X.out
  go_wp2_with fail
  refine (KM1.out _ HB.out).mono ?_
  rintro e w2 ⟨rfl, hb⟩
  replace HB := Lib.hid (bmore HB.out hb (Nat.le_refl _))
  replace X := Lib.hid (X.out.below hb X.out.lt)
  clear hb x0 x1 x2 KM1
  by_cases hm : KM.may (⟨sc, ws, ds⟩ : Sk)
  · have e : er = 0 := by rw [HER.out, if_pos hm]
    subst e
    have HM := Lib.hid hm
    have hp := (KM.may_iff.1 hm).2.1.2.2
    have hl := (KM.may_iff.1 hm).2.1.1
    simp only at hp hl
    have KP1 := Lib.hid (fun W (hb : Below w.heap.size w W) => pplace_any A n c ws id W (H.out W hb) hp (by have := HLA.out; omega))
    have HWW := Lib.hid (KM.whit_wat (l := ws) (id := id) hp)
    have HWN := Lib.hid (KM.whit_no (l := ws) (id := id) hp)
    have HWS := Lib.hid (KM.whit_some (l := ws) (id := id))
    clear hp hl hm
    generalize KM.wpos ws id = k at KP1 HWW HWS
    generalize KM.whit ws id = R at KP1 HWW HWN HWS
    obtain ⟨x0, x1, x2⟩ := box_sk X.out
    go_wp2_with fail
    refine (KP1.out _ HB.out).mono ?_
    rintro e w3 ⟨rfl, hb⟩
    replace HB := Lib.hid (bmore HB.out hb (Nat.le_refl _))
    replace X := Lib.hid (X.out.below hb X.out.lt)
    clear hb x0 x1 x2 KP1
    obtain ⟨x0, x1, x2⟩ := box_sk X.out
    rcases R with _ | _
    · have HF := Lib.hid (show y = (0, false, 6) by rw [HY.out, KM.localF, if_neg (fun h => h HM.out), show (⟨sc, ws, ds⟩ : Sk).ws[KM.wat ws id]? = none from List.getElem?_eq_none (by show ws.length ≤ _; have := HWN.out rfl; omega)])
      go_wp2_with fail
      go_ret3
      exact ⟨by rw [HF.out]; rfl, HB.out⟩
    · obtain ⟨x, hx, hxi⟩ := HWS.out rfl
      have HF := Lib.hid (show y = (x.t, x.f, 0) by rw [HY.out, KM.localF, if_neg (fun h => h HM.out), show KM.wat (⟨sc, ws, ds⟩ : Sk).ws id = k from HWW.out rfl, show (⟨sc, ws, ds⟩ : Sk).ws[k]? = some x from hx])
      obtain ⟨bl, o, P, q, rfl, hkn, _, hat, _⟩ := wts_at (H.out _ HB.out) hx
      obtain ⟨a0, a1, a2, a3, a4, a5, a6⟩ := hat
      have hk0 : (0 : Int) ≤ (k : Int) := by omega
      have hk1 : (k : Int) < (n : Int) := by omega
      clear hx hkn hxi
      obtain ⟨⟨xi, xg, xt, xk, xb⟩, xm, xf⟩ := x
      simp only at a0 a1 a2 a3 a4 a5 a6 HF
      go_wp2_with fail
      go_quiet (fail)
      have HB2 := Lib.hid (below_drewN HB.out 1)
      go_wp2_with fail
      go_ret3
      exact ⟨by rw [HF.out]; rfl, below_drewN HB.out _⟩
  · have e : er = 8 := by rw [HER.out, if_neg hm]
    subst e
    have HF := Lib.hid (show y = (0, false, 8) by rw [HY.out, KM.localF, if_pos hm])
    clear hm
    go_wp2_with fail
    go_ret3
    exact ⟨by rw [HF.out]; rfl, HB.out⟩
end Go.Proofs.Ytnpgjcapekopnaa.KP
