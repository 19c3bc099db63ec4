/-
  A clock that may be fits; so does what a command answers. No walk.
  Package skeen: New, Local. Conditions: a clock that reads as one.
  Package skeen: do, wrong. Conditions: as assign and final ask.
  Package skeen: wrong, Apply. Conditions: a clock, a command that read as such; at most 2^44 groups.
-/
import Derived.Test.YtnpgjcapekopnaaGreatSkDef
import Derived.Test.YtnpgjcapekopnaaGreatSkGoes
import Derived.Test.YtnpgjcapekopnaaGreatK11
import Derived.Test.YtnpgjcapekopnaaGreatK03
import Derived.Test.YtnpgjcapekopnaaGreatK07
import Derived.Test.YtnpgjcapekopnaaGreatK09
import Derived.Lib.MinMax
namespace Go.Proofs.YtnpgjcapekopnaaGreat.KP
open CP TP
open CM (Mg Cm)
open TM (Sp)
open KM (Wt Sk)

theorem fit_mg {m : Mg} (h : CM.mgOk m) : MgFit m ∧ m.gs.length ≤ 4 := by
  obtain ⟨h1, h2, h3, h4, h5, h6⟩ := h
  have h7 := CM.riseG_len h3 (by decide)
  unfold CM.idOk at h1
  unfold MgFit i64In maxLen
  omega
theorem fit_may {s : Sk} (h : KM.may s) : SkFit s := by
  obtain ⟨⟨h1, h2, h3, h4⟩, ⟨h5, h6, h7⟩, ⟨h8, h9⟩, h10⟩ := h
  refine ⟨⟨by omega, by omega⟩, fun x hx => ?_, fun x hx => ?_⟩
  · obtain ⟨k1, ⟨k2, k3⟩, _⟩ := h8 x hx
    have := fit_mg k1
    exact ⟨⟨this.1, by omega, by omega⟩, by omega⟩
  · obtain ⟨k1, k2, k3⟩ := h5 x hx
    obtain ⟨k4, k5, k6, k7⟩ := k1
    exact ⟨⟨by omega, by omega⟩, ⟨by omega, by omega⟩⟩
theorem fit_zero : SkFit KM.zero := ⟨⟨by decide, by decide⟩, ⟨fun x hx => (by cases hx), fun x hx => (by cases hx)⟩⟩
theorem fit_apply (s : Sk) (g : Int) (c : Cm) : SkFit (KM.applyF s g c).1 := by
  by_cases h : (KM.applyF s g c).2.2 = 0
  · exact fit_may (KM.apply_ok h).2.1
  · unfold KM.applyF at h ⊢
    split
    · exact fit_zero
    · split
      · exact fit_zero
      · split
        · exact fit_zero
        · split
          · rename_i h1 h2 h3 h4
            rw [if_neg h1, if_neg h2, if_neg h3, if_pos h4] at h
            exact absurd rfl h
          · exact fit_zero
/-- the program's own, as the document asks -/
def PApply : Prop := ∀ (vs : Value) (s : Sk) (g : Int) (vc : Value) (c : Cm) (w : World), SkIs w vs s → SkFit s → CmIs w vc c → CmFit c → c.m.gs.length ≤ 17592186044416 → Calls Tryz.prog 7 #[vs, .int .i64 g, vc] w (ApIs (KM.applyF s g c) w)
end Go.Proofs.YtnpgjcapekopnaaGreat.KP

namespace Go.Proofs.YtnpgjcapekopnaaGreat.KP
open Go.RowKit CP TP
open CM (Mg Cm)
open TM (Sp)
open KM (Wt Sk)
set_option linter.unusedVariables false
set_option linter.unusedSimpArgs false
set_option maxRecDepth 100000
set_option maxHeartbeats 1000000 in
theorem pnew15_any (w : World) : Calls Tryz.prog 17 #[] w (SkNew KM.zero w) := by
  have HB := Lib.hid (show Below w.heap.size w (w.alloc (.cells #[.int .i64 0, .slice none 0 0, .slice none 0 0] 25)) from (Below.refl _ _).alloc (Nat.le_refl _) _)
  have X := Lib.hid (Box.new w 25 #[.int .i64 0, .slice none 0 0, .slice none 0 0])
  go_enter Tryz.func17, Tryz.ntmps17
  go_upto_region 1 with (fail)
  generalize w.alloc (.cells #[.int .i64 0, .slice none 0 0, .slice none 0 0] 25) = w1 at HB X ⊢
  obtain ⟨g0, hg0⟩ : ∃ g0, w.heap.size = g0 := ⟨_, rfl⟩
  rw [hg0] at X
  simp only [hg0]
  have HG := Lib.hid hg0
  clear hg0
  obtain ⟨x0, x1, x2, f0, f1, f2⟩ := X.out.three
  have ZP := Lib.hid (Box.put3 X.out (.int .i64 0) (.slice none 0 0) (.slice none 0 0))
  have ZL := Lib.hid (below_put3 HB.out (by have := HG.out; omega) (.int .i64 0) (.slice none 0 0) (.slice none 0 0) (g := g0))
  go_wp2_with fail
  obtain ⟨u0, u1, u2⟩ := box_sk ZP.out
  exact bodyPost_ret (v := .agg #[.int .i64 0, .slice none 0 0, .slice none 0 0]) (by simp [results, Tryz.results17, go_sem, u0, u1, u2]; try rfl) rfl ⟨_, rfl, skO_zero _ _, ZL.out⟩
/-- what Local answers -/
def LocQ (x : Int × Bool × Int) (w : World) (e : Ending) (w' : World) : Prop := e = .returned (.tuple #[.int .i64 x.1, .bool x.2.1, .int .i64 x.2.2]) ∧ Below w.heap.size w w'
set_option maxHeartbeats 8000000 in
theorem plocal15_any (v : Value) (s : Sk) (id : Int) (w : World) (h : SkIs w v s) (hf : SkFit s) : Calls Tryz.prog 9 #[v, .int .i64 id] w (LocQ (KM.localF s id) w) := by
  have KM1 := Lib.hid (fun W (hb : Below w.heap.size w W) => pcheck15_any v s W (h.below hb) hf)
  obtain ⟨y, hy⟩ : ∃ y, y = KM.localF s id := ⟨_, rfl⟩
  rw [← hy]
  have HY := Lib.hid hy
  obtain ⟨er, her⟩ : ∃ q : Int, q = if KM.may s then 0 else 8 := ⟨_, rfl⟩
  rw [← her] at KM1
  have HER := Lib.hid her
  clear hy her hf
  obtain ⟨A, c, B, d, rfl, r1, d1⟩ := h
  obtain ⟨n, hna⟩ : ∃ n, n = s.ws.length := ⟨_, rfl⟩
  have HLA := Lib.hid hna
  have H := Lib.hid (fun W (hb : Below w.heap.size w W) => r1.below hb)
  unfold vsk at KM1 ⊢
  rw [← hna] at KM1 H ⊢
  clear hna r1 d1
  obtain ⟨m, hmb⟩ : ∃ m, m = s.ds.length := ⟨_, rfl⟩
  rw [← hmb] at KM1 ⊢
  clear hmb
  obtain ⟨sc, ws, ds⟩ := s
  simp only at KM1 HLA H ⊢
  have HB := Lib.hid (show Below w.heap.size w (w.alloc (.cells #[.int .i64 sc, .slice A n c, .slice B m d] 25)) from (Below.refl _ _).alloc (Nat.le_refl _) _)
  have X := Lib.hid (Box.new w 25 #[.int .i64 sc, .slice A n c, .slice B m d])
  go_enter Tryz.func9, Tryz.ntmps9
  go_upto_region 1 with (fail)
  generalize w.alloc (.cells #[.int .i64 sc, .slice A n c, .slice B m d] 25) = w1 at HB X ⊢
  generalize hg : w.heap.size = g at X ⊢
  clear hg
  obtain ⟨x0, x1, x2⟩ := box_sk X.out
  go_wp2_with fail
  refine (KM1.out _ HB.out).mono ?_
  rintro e w2 ⟨rfl, hb⟩
  replace HB := Lib.hid (bmore HB.out hb (Nat.le_refl _))
  replace X := Lib.hid (X.out.below hb X.out.lt)
  clear hb x0 x1 x2 KM1
  by_cases hm : KM.may (⟨sc, ws, ds⟩ : Sk)
  · have e : er = 0 := by rw [HER.out, if_pos hm]
    subst e
    have HM := Lib.hid hm
    have hp := (KM.may_iff.1 hm).2.1.2.2
    have hl := (KM.may_iff.1 hm).2.1.1
    simp only at hp hl
    have KP1 := Lib.hid (fun W (hb : Below w.heap.size w W) => pplace_any A n c ws id W (H.out W hb) hp (by have := HLA.out; omega))
    have HWW := Lib.hid (KM.whit_wat (l := ws) (id := id) hp)
    have HWN := Lib.hid (KM.whit_no (l := ws) (id := id) hp)
    have HWS := Lib.hid (KM.whit_some (l := ws) (id := id))
    clear hp hl hm
    generalize KM.wpos ws id = k at KP1 HWW HWS
    generalize KM.whit ws id = R at KP1 HWW HWN HWS
    obtain ⟨x0, x1, x2⟩ := box_sk X.out
    go_wp2_with fail
    refine (KP1.out _ HB.out).mono ?_
    rintro e w3 ⟨rfl, hb⟩
    replace HB := Lib.hid (bmore HB.out hb (Nat.le_refl _))
    replace X := Lib.hid (X.out.below hb X.out.lt)
    clear hb x0 x1 x2 KP1
    obtain ⟨x0, x1, x2⟩ := box_sk X.out
    rcases R with _ | _
    · have HF := Lib.hid (show y = (0, false, 6) by rw [HY.out, KM.localF, if_neg (fun h => h HM.out), show (⟨sc, ws, ds⟩ : Sk).ws[KM.wat ws id]? = none from List.getElem?_eq_none (by show ws.length ≤ _; have := HWN.out rfl; omega)])
      go_wp2_with fail
      go_ret3
      exact ⟨by rw [HF.out]; rfl, HB.out⟩
    · obtain ⟨x, hx, hxi⟩ := HWS.out rfl
      have HF := Lib.hid (show y = (x.t, x.f, 0) by rw [HY.out, KM.localF, if_neg (fun h => h HM.out), show KM.wat (⟨sc, ws, ds⟩ : Sk).ws id = k from HWW.out rfl, show (⟨sc, ws, ds⟩ : Sk).ws[k]? = some x from hx])
      obtain ⟨bl, o, P, q, rfl, hkn, _, hat, _⟩ := wts_at (H.out _ HB.out) hx
      obtain ⟨a0, a1, a2, a3, a4, a5, a6⟩ := hat
      have hk0 : (0 : Int) ≤ (k : Int) := by omega
      have hk1 : (k : Int) < (n : Int) := by omega
      clear hx hkn hxi
      obtain ⟨⟨xi, xg, xt, xk, xb⟩, xm, xf⟩ := x
      simp only at a0 a1 a2 a3 a4 a5 a6 HF
      go_wp2_with fail
      go_quiet (fail)
      have HB2 := Lib.hid (below_drewN HB.out 1)
      go_wp2_with fail
      go_ret3
      exact ⟨by rw [HF.out]; rfl, below_drewN HB.out _⟩
  · have e : er = 8 := by rw [HER.out, if_neg hm]
    subst e
    have HF := Lib.hid (show y = (0, false, 8) by rw [HY.out, KM.localF, if_pos hm])
    clear hm
    go_wp2_with fail
    go_ret3
    exact ⟨by rw [HF.out]; rfl, HB.out⟩
end Go.Proofs.YtnpgjcapekopnaaGreat.KP

namespace Go.Proofs.YtnpgjcapekopnaaGreat.KP
open Go.RowKit CP TP
open CM (Mg Cm)
open TM (Sp)
open KM (Wt Sk)
set_option linter.unusedVariables false
set_option linter.unusedSimpArgs false
set_option maxRecDepth 100000
theorem fnl_no {s : Sk} {c : Cm} (h : c.k ≠ 2) : KM.fnl s c = s := by
  unfold KM.fnl
  rcases s.ws[KM.wat s.ws c.id]? with _ | w
  · rfl
  · exact if_neg fun q => h q.1
theorem pre_no {s : Sk} {g : Int} {c : Cm} (h : c.k ≠ 1) : KM.pre s g c = s := by
  unfold KM.pre
  exact if_neg fun q => h q.1
/-- what do makes of it, and answers -/
def DoQ (w0 : World) (b p : Nat) (S : Sk) (g : Int) (cm : Cm) (vD : Value) (e : Ending) (w' : World) : Prop :=
  (¬ (KM.asg S g cm ∧ KM.full S) ∧ e = .returned (.int .i64 0) ∧ ∃ vW, PtC w0 b p (KM.fnl (KM.pre S g cm) cm).c vW vD (KM.fnl (KM.pre S g cm) cm).ws S.ds w') ∨
    (KM.asg S g cm ∧ KM.full S ∧ e = .returned (.int .i64 9) ∧ ∃ vW, PtC w0 b p S.c vW vD S.ws S.ds w')
set_option maxHeartbeats 8000000 in
theorem pdo15_any (w0 : World) (b p : Nat) (sc : Int) (vW vD : Value) (ws : List Wt) (ds : List Sp) (g : Int) (cm : Cm) (P0 : Option Addr) (q0 : Nat) (Q0 : Option Addr) (u0 : Nat) (W : World)
    (h : PtC w0 b p sc vW vD ws ds W) (hm : ∀ W', Below b w0 W' → RowIs W' P0 q0 cm.m.gs) (hgs : cm.m.gs.length ≤ 17592186044416) (hp : ws.Pairwise fun a b => a.m.id < b.m.id) (hn : ws.length ≤ 200) (hc : 0 ≤ sc ∧ sc ≤ 1073741824) :
    Calls Tryz.prog 22 #[.pointer (some ⟨p, 0, none⟩), .int .i64 g, .agg (ccells P0 q0 Q0 u0 cm)] W (DoQ w0 b p ⟨sc, ws, ds⟩ g cm vD) := by
  obtain ⟨A, n, cw, B, cd, e1, e2, e3⟩ := h.forms
  subst e1 e2
  clear e3 n
  have HT := Lib.hid h
  have KA := Lib.hid (fun (k : cm.k = 1) W' (t : PtC w0 b p sc (.slice A ws.length cw) (.slice B ds.length cd) ws ds W') => (passign15_any w0 b p sc A ws.length cw B ds.length cd ws ds g cm k P0 q0 W' t hm hgs hp hn hc).mono (R' := fun e w' => (∃ er, e = .returned (.int .i64 er)) ∧ DoQ w0 b p ⟨sc, ws, ds⟩ g cm (.slice B ds.length cd) e w') (fun e w' q => by
    have h2 : cm.k ≠ 2 := by rw [k]; decide
    rcases q with ⟨q1, q2, vW, q3⟩ | q
    · exact ⟨⟨_, q2⟩, .inl ⟨q1, q2, vW, by rw [fnl_no h2]; exact q3⟩⟩
    · exact ⟨⟨_, q.2.2.1⟩, .inr q⟩))
  have KF := Lib.hid (fun (k : cm.k = 2) W' (t : PtC w0 b p sc (.slice A ws.length cw) (.slice B ds.length cd) ws ds W') => pfinal15_any w0 b p sc A ws.length cw (.slice B ds.length cd) ws ds cm k W' t hp hn)
  have HF2 := Lib.hid (fun (k : cm.k ≠ 1) w' vW (t : PtC w0 b p (KM.fnl ⟨sc, ws, ds⟩ cm).c vW (.slice B ds.length cd) (KM.fnl ⟨sc, ws, ds⟩ cm).ws ds w') => show DoQ w0 b p ⟨sc, ws, ds⟩ g cm (.slice B ds.length cd) (.returned (.int .i64 0)) w' from .inl ⟨fun q => k q.1.1, rfl, vW, by rw [pre_no k]; exact t⟩)
  have HF0 := Lib.hid (fun (k : cm.k ≠ 1) (k2 : cm.k ≠ 2) w' vW (t : PtC w0 b p sc vW (.slice B ds.length cd) ws ds w') => show DoQ w0 b p ⟨sc, ws, ds⟩ g cm (.slice B ds.length cd) (.returned (.int .i64 0)) w' from .inl ⟨fun q => k q.1.1, rfl, vW, by rw [pre_no k, fnl_no k2]; exact t⟩)
  obtain ⟨QQ, hQQ⟩ : ∃ QQ, QQ = DoQ w0 b p ⟨sc, ws, ds⟩ g cm (.slice B ds.length cd) := ⟨_, rfl⟩
  rw [← hQQ] at KA HF2 HF0 ⊢
  obtain ⟨S2, hS2⟩ : ∃ S2, S2 = KM.fnl ⟨sc, ws, ds⟩ cm := ⟨_, rfl⟩
  rw [← hS2] at KF HF2
  clear hQQ hS2 h hm hgs hp hn hc
  obtain ⟨ck, ⟨ai, ag, at_, ak, ab⟩, bid, btm, bms, btp, bwh, bn⟩ := cm
  unfold ccells
  unfold mcells at KA
  simp only at KA KF HF2 HF0 ⊢
  have HB := Lib.hid (show Below W.heap.size W (W.alloc (.cells #[.int .u8 ck, .int .i64 ai, .slice P0 ag.length q0, .int .i64 at_, .string ak, .string ab, .int .i64 bid, .int .i64 btm, .slice Q0 bms.length u0, .int .i64 btp, .int .i64 bwh, .int .i64 bn] 30)) from (Below.refl _ _).alloc (Nat.le_refl _) _)
  have Y := Lib.hid (Box.new W 30 #[.int .u8 ck, .int .i64 ai, .slice P0 ag.length q0, .int .i64 at_, .string ak, .string ab, .int .i64 bid, .int .i64 btm, .slice Q0 bms.length u0, .int .i64 btp, .int .i64 bwh, .int .i64 bn])
  go_enter Tryz.func22, Tryz.ntmps22
  go_upto_region 1 with (fail)
  replace HT := Lib.hid (HT.out.below HB.out)
  generalize W.alloc (.cells #[.int .u8 ck, .int .i64 ai, .slice P0 ag.length q0, .int .i64 at_, .string ak, .string ab, .int .i64 bid, .int .i64 btm, .slice Q0 bms.length u0, .int .i64 btp, .int .i64 bwh, .int .i64 bn] 30) = w1 at HB Y HT ⊢
  generalize W.heap.size = g5 at Y ⊢
  have y0 := Y.out.cell 0
  have y1 := Y.out.cell 1
  have y2 := Y.out.cell 2
  have y3 := Y.out.cell 3
  have y4 := Y.out.cell 4
  have y5 := Y.out.cell 5
  have y6 := Y.out.cell 6
  have y7 := Y.out.cell 7
  simp at y0 y1 y2 y3 y4 y5 y6 y7
  by_cases k1 : ck = 1
  · have CA := Lib.hid (KA.out k1 w1 HT.out)
    subst k1
    go_wp2_with fail
    refine (CA.out).mono ?_
    rintro e w2 ⟨⟨er, rfl⟩, hq⟩
    have HQ := Lib.hid hq
    clear hq CA y0 y1 y2 y3 y4 y5 y6 y7
    go_wp2_with fail
    exact HQ.out
  by_cases k2 : ck = 2
  · have CF := Lib.hid (KF.out k2 w1 HT.out)
    have HE := Lib.hid (HF2.out k1)
    subst k2
    go_wp2_with fail
    refine (CF.out).mono ?_
    rintro e w2 ⟨rfl, hq⟩
    have HQ := Lib.hid hq
    clear hq CF y0 y1 y2 y3 y4 y5 y6 y7
    go_wp2_with fail
    exact HE.out _ _ HQ.out
  have HE := Lib.hid (HF0.out k1 k2)
  have j1 : (ck == 1) = false := by simpa using k1
  have j2 : (ck == 2) = false := by simpa using k2
  go_wp2_with fail
  exact HE.out _ _ HT.out
end Go.Proofs.YtnpgjcapekopnaaGreat.KP

namespace Go.Proofs.YtnpgjcapekopnaaGreat.KP
open Go.RowKit CP TP
open CM (Mg Cm)
open TM (Sp)
open KM (Wt Sk)
set_option linter.unusedVariables false
set_option linter.unusedSimpArgs false
set_option maxRecDepth 100000
def wrongF (s : Sk) (g : Int) (c : Cm) : Int := if ¬ KM.may s then 8 else if ¬ (0 ≤ g ∧ g < 4) then 2 else if CM.may c then 0 else 120
set_option maxHeartbeats 8000000 in
theorem pwrong15_any (vs : Value) (s : Sk) (g : Int) (vc : Value) (c : Cm) (w : World) (hs : SkIs w vs s) (hf : SkFit s) (hc : CmIs w vc c) (hcf : CmFit c) : Calls Tryz.prog 21 #[vs, .int .i64 g, vc] w (IsN (wrongF s g c) w) := by
  have K1 := Lib.hid (fun W (hb : Below w.heap.size w W) => pcheck15_any vs s W (hs.below hb) hf)
  have K2 := Lib.hid (fun W (hb : Below w.heap.size w W) => pcheck_any c vc W (hc.below hb) hcf)
  obtain ⟨r, hr⟩ : ∃ r, r = wrongF s g c := ⟨_, rfl⟩
  have HR := Lib.hid hr
  rw [← hr]
  obtain ⟨e1, he1⟩ : ∃ e1 : Int, e1 = if KM.may s then 0 else 8 := ⟨_, rfl⟩
  obtain ⟨e2, he2⟩ : ∃ e2 : Int, e2 = if CM.may c then 0 else 120 := ⟨_, rfl⟩
  rw [← he1] at K1
  rw [← he2] at K2
  have H8 := Lib.hid (fun (k : ¬ KM.may s) => show e1 = 8 ∧ r = 8 from ⟨by rw [he1, if_neg k], by rw [hr]; unfold wrongF; rw [if_pos k]⟩)
  have H2 := Lib.hid (fun (k : KM.may s) (k2 : ¬ (0 ≤ g ∧ g < 4)) => show r = 2 from by rw [hr]; unfold wrongF; rw [if_neg (fun q => q k), if_pos k2])
  have H0 := Lib.hid (fun (k : KM.may s) => show e1 = 0 from by rw [he1, if_pos k])
  have HL := Lib.hid (fun (k : KM.may s) (k2 : 0 ≤ g ∧ g < 4) => show r = e2 from by rw [hr, he2]; unfold wrongF; rw [if_neg (fun q => q k), if_neg (fun q => q k2)])
  obtain ⟨M, hM⟩ : ∃ M, M = KM.may s := ⟨_, rfl⟩
  rw [← hM] at H8 H2 H0 HL
  obtain ⟨A, cw, B, cd, rfl, r1, d1⟩ := hs
  obtain ⟨P0, q0, Q0, u0, rfl, r2, r3⟩ := hc
  clear hr he1 he2 hM hf hcf r1 d1 r2 r3
  obtain ⟨sc, ws, ds⟩ := s
  obtain ⟨n, hna⟩ : ∃ n, n = ws.length := ⟨_, rfl⟩
  obtain ⟨m, hmb⟩ : ∃ m, m = ds.length := ⟨_, rfl⟩
  unfold vsk at K1 ⊢
  simp only at K1 ⊢
  rw [← hna, ← hmb] at K1 ⊢
  clear hna hmb
  obtain ⟨ck, ⟨ai, ag, at_, ak, ab⟩, bid, btm, bms, btp, bwh, bn⟩ := c
  unfold ccells at K2 ⊢
  simp only at K2 ⊢
  have HB := Lib.hid (show Below w.heap.size w ((w.alloc (.cells #[.int .i64 sc, .slice A n cw, .slice B m cd] 25)).alloc (.cells #[.int .u8 ck, .int .i64 ai, .slice P0 ag.length q0, .int .i64 at_, .string ak, .string ab, .int .i64 bid, .int .i64 btm, .slice Q0 bms.length u0, .int .i64 btp, .int .i64 bwh, .int .i64 bn] 30)) from ((Below.refl _ _).alloc (Nat.le_refl _) _).alloc (by simp) _)
  have X := Lib.hid ((Box.new w 25 #[.int .i64 sc, .slice A n cw, .slice B m cd]).alloc (.cells #[.int .u8 ck, .int .i64 ai, .slice P0 ag.length q0, .int .i64 at_, .string ak, .string ab, .int .i64 bid, .int .i64 btm, .slice Q0 bms.length u0, .int .i64 btp, .int .i64 bwh, .int .i64 bn] 30))
  have Y := Lib.hid (Box.new_at (w := (w.alloc (.cells #[.int .i64 sc, .slice A n cw, .slice B m cd] 25))) (t := 30) (cs := #[.int .u8 ck, .int .i64 ai, .slice P0 ag.length q0, .int .i64 at_, .string ak, .string ab, .int .i64 bid, .int .i64 btm, .slice Q0 bms.length u0, .int .i64 btp, .int .i64 bwh, .int .i64 bn]) (w.heap.size + 1) (by simp))
  go_enter Tryz.func21, Tryz.ntmps21
  go_upto_region 1 with (fail)
  generalize (w.alloc (.cells #[.int .i64 sc, .slice A n cw, .slice B m cd] 25)).alloc (.cells #[.int .u8 ck, .int .i64 ai, .slice P0 ag.length q0, .int .i64 at_, .string ak, .string ab, .int .i64 bid, .int .i64 btm, .slice Q0 bms.length u0, .int .i64 btp, .int .i64 bwh, .int .i64 bn] 30) = w1 at HB X Y ⊢
  generalize w.heap.size + 1 = g5 at Y ⊢
  obtain ⟨g3, hg3⟩ : ∃ g3, w.heap.size = g3 := ⟨_, rfl⟩
  rw [hg3] at X
  simp only [hg3]
  clear hg3
  obtain ⟨x0, x1, x2⟩ := box_sk X.out
  go_wp2_with fail
  refine (K1.out _ HB.out).mono ?_
  rintro e w2 ⟨rfl, hb⟩
  have HB2 := Lib.hid (bmore HB.out hb (Nat.le_refl _))
  have Y2 := Lib.hid (Y.out.below hb Y.out.lt)
  clear hb x0 x1 x2 K1 X Y
  rcases Classical.em M with hM | hM
  rotate_left
  · obtain ⟨h1, h2⟩ := H8.out hM
    subst h1 h2
    clear hM
    go_wp2_with fail
    go_ret
    exact ⟨rfl, HB2.out⟩
  have h1 := H0.out hM
  subst h1
  by_cases k2 : 0 ≤ g ∧ g < 4
  rotate_left
  · have h2 := H2.out hM k2
    subst h2
    clear hM
    by_cases k3 : g < 0
    · go_wp2_with fail
      go_ret
      exact ⟨rfl, HB2.out⟩
    · have k4 : 4 ≤ g := by omega
      go_wp2_with fail
      go_ret
      exact ⟨rfl, HB2.out⟩
  have h2 := HL.out hM k2
  subst h2
  obtain ⟨k3, k4⟩ := k2
  have k5 : ¬ g < 0 := by omega
  have k6 : ¬ 4 ≤ g := by omega
  clear hM
  have y0 := Y2.out.cell 0
  have y1 := Y2.out.cell 1
  have y2 := Y2.out.cell 2
  have y3 := Y2.out.cell 3
  have y4 := Y2.out.cell 4
  have y5 := Y2.out.cell 5
  have y6 := Y2.out.cell 6
  have y7 := Y2.out.cell 7
  have y8 := Y2.out.cell 8
  have y9 := Y2.out.cell 9
  have y10 := Y2.out.cell 10
  have y11 := Y2.out.cell 11
  simp at y0 y1 y2 y3 y4 y5 y6 y7 y8 y9 y10 y11
  go_wp2_with fail
  refine (K2.out _ HB2.out).mono ?_
  rintro e w3 ⟨rfl, hb⟩
  have HB3 := Lib.hid (bmore HB2.out hb (Nat.le_refl _))
  clear y0 y1 y2 y3 y4 y5 y6 y7 y8 y9 y10 y11 hb K2
  go_wp2_with fail
  go_ret
  exact ⟨rfl, HB3.out⟩
theorem apply_wrong {s : Sk} {g : Int} {c : Cm} (h : wrongF s g c ≠ 0) : KM.applyF s g c = (KM.zero, [], wrongF s g c) := by
  unfold wrongF at h ⊢
  unfold KM.applyF
  by_cases h1 : ¬ KM.may s
  · rw [if_pos h1, if_pos h1]
  · rw [if_neg h1, if_neg h1]
    by_cases h2 : ¬ (0 ≤ g ∧ g < 4)
    · rw [if_pos h2, if_pos h2]
    · rw [if_neg h2, if_neg h2]
      by_cases h3 : CM.may c
      · rw [if_neg h1, if_neg h2, if_pos h3] at h; exact absurd rfl h
      · rw [if_pos h3, if_neg h3]
theorem wrong_no {s : Sk} {g : Int} {c : Cm} (h : wrongF s g c = 0) : KM.may s ∧ (0 ≤ g ∧ g < 4) ∧ CM.may c := by
  unfold wrongF at h
  by_cases h1 : ¬ KM.may s
  · rw [if_pos h1] at h; exact absurd h (by decide)
  · rw [if_neg h1] at h
    by_cases h2 : ¬ (0 ≤ g ∧ g < 4)
    · rw [if_pos h2] at h; exact absurd h (by decide)
    · rw [if_neg h2] at h
      by_cases h3 : CM.may c
      · exact ⟨Classical.not_not.1 h1, Classical.not_not.1 h2, h3⟩
      · rw [if_neg h3] at h; exact absurd h (by decide)
theorem apply_right {s : Sk} {g : Int} {c : Cm} (h1 : KM.may s) (h2 : 0 ≤ g ∧ g < 4) (h3 : CM.may c) : KM.applyF s g c = if (KM.putF s g c).2.2 = true then ((KM.putF s g c).1, (KM.putF s g c).2.1, 0) else (KM.zero, [], 9) := by
  unfold KM.applyF
  rw [if_neg (fun q => q h1), if_neg (fun q => q h2), if_neg (fun q => q h3)]
theorem putF_full {s : Sk} {g : Int} {c : Cm} (h : KM.asg s g c ∧ KM.full s) : KM.putF s g c = (s, [], false) := by
  unfold KM.putF
  exact if_pos h
theorem putF_go {s : Sk} {g : Int} {c : Cm} (h : ¬ (KM.asg s g c ∧ KM.full s)) {F : Sk} (hF : F = KM.fnl (KM.pre s g c) c) {D : List Wt × List Sp × List Mg} (hD : D = KM.drain F.ws.length F.ws F.ds []) : KM.putF s g c = (⟨F.c, D.1, D.2.1⟩, D.2.2, decide (D.2.1.length ≤ 200)) := by
  subst hF hD
  unfold KM.putF
  exact if_neg h
/-- what comes behind do -/
theorem mid_of {s : Sk} {g : Int} {c : Cm} (h1 : KM.may s) (h3 : CM.may c) (hf : ¬ (KM.asg s g c ∧ KM.full s)) :
    ((KM.fnl (KM.pre s g c) c).ws.Pairwise fun a b => a.m.id < b.m.id) ∧ (KM.fnl (KM.pre s g c) c).ws.length ≤ 200 ∧ (KM.fnl (KM.pre s g c) c).ds = s.ds := by
  refine ⟨(KM.half_fnl (KM.half_pre (KM.may_half h1) h3 hf) h3).2.2.2.2, ?_, KM.fnl_c.2.trans KM.pre_c.2⟩
  rw [KM.fnl_len]
  rcases KM.pre_len (s := s) (g := g) (c := c) with h | ⟨h, h4⟩
  · rw [h]; exact h1.1.2.2.1
  · have h5 : ¬ KM.full s := fun q => hf ⟨h, q⟩
    have h6 : s.ws.length ≠ 200 := fun q => h5 (.inr q)
    have := h1.1.2.2.1
    rw [h4]
    omega
set_option maxHeartbeats 16000000 in
theorem papply15 : PApply := by
  intro vs s g vc c w hs hf hc hcf hgs
  have K1 := Lib.hid (fun W (hb : Below w.heap.size w W) => pwrong15_any vs s g vc c W (hs.below hb) hf (hc.below hb) hcf)
  have KT := Lib.hid (fun (h1 : s.ws.length ≤ 4096) (h2 : s.ds.length ≤ 4096) W (hb : Below w.heap.size w W) => ptwin15_any vs s W (hs.below hb) h1 h2 (fun x hx => (hf.2.1 x hx).2))
  obtain ⟨r, hr⟩ : ∃ r, r = KM.applyF s g c := ⟨_, rfl⟩
  rw [← hr]
  have HR := Lib.hid hr
  obtain ⟨e1, he1⟩ : ∃ e1, e1 = wrongF s g c := ⟨_, rfl⟩
  rw [← he1] at K1
  have HE1 := Lib.hid he1
  clear hr he1
  obtain ⟨A, cw, B, cd, rfl, r1, d1⟩ := hs
  obtain ⟨P0, q0, Q0, u0, rfl, r2, r3⟩ := hc
  have HROW := Lib.hid (fun W (hb : Below w.heap.size w W) => r2.below hb)
  obtain ⟨n, hna⟩ : ∃ n, n = s.ws.length := ⟨_, rfl⟩
  obtain ⟨m, hmb⟩ : ∃ m, m = s.ds.length := ⟨_, rfl⟩
  obtain ⟨sc, hsc⟩ : ∃ sc, sc = s.c := ⟨_, rfl⟩
  unfold vsk at K1 KT ⊢
  rw [← hna, ← hmb, ← hsc] at K1 ⊢
  have HNA := Lib.hid hna
  have HMB := Lib.hid hmb
  have HSC := Lib.hid hsc
  have KT2 := Lib.hid (fun (h1 : n ≤ 4096) (h2 : m ≤ 4096) W (hb : Below w.heap.size w W) => show Calls Tryz.prog 11 #[.agg #[.int .i64 sc, .slice A n cw, .slice B m cd]] W (SkNew s W) from by rw [hna, hmb, hsc]; exact KT.out (by omega) (by omega) W hb)
  clear hf hcf r1 d1 r2 r3 hna hmb hsc KT
  obtain ⟨cc, hcc⟩ : ∃ cc, cc = c := ⟨_, rfl⟩
  have KD := Lib.hid (fun w0 b p W vW vD (hb : Below w.heap.size w w0) (hbb : w.heap.size ≤ b) (t : PtC w0 b p s.c vW vD s.ws s.ds W) (h1 : KM.may s) => pdo15_any w0 b p s.c vW vD s.ws s.ds g c P0 q0 Q0 u0 W t (fun W' hb' => HROW.out W' (hb.trans (hb'.mono hbb))) hgs (KM.may_iff.1 h1).2.1.2.2 (KM.may_iff.1 h1).2.1.1 (KM.may_iff.1 h1).1)
  clear hcc cc hgs
  obtain ⟨ck, ⟨ai, ag, at_, ak, ab⟩, bid, btm, bms, btp, bwh, bn⟩ := c
  unfold ccells at K1 KD ⊢
  simp only at K1 KD HROW ⊢
  have HB := Lib.hid (show Below w.heap.size w (((w.alloc (.cells #[.int .i64 sc, .slice A n cw, .slice B m cd] 25)).alloc (.cells #[.int .u8 ck, .int .i64 ai, .slice P0 ag.length q0, .int .i64 at_, .string ak, .string ab, .int .i64 bid, .int .i64 btm, .slice Q0 bms.length u0, .int .i64 btp, .int .i64 bwh, .int .i64 bn] 30)).alloc (.cells #[.int .i64 0, .slice none 0 0, .slice none 0 0] 25)) from (((Below.refl _ _).alloc (Nat.le_refl _) _).alloc (by simp) _).alloc (by simp; omega) _)
  have X := Lib.hid (((Box.new w 25 #[.int .i64 sc, .slice A n cw, .slice B m cd]).alloc (.cells #[.int .u8 ck, .int .i64 ai, .slice P0 ag.length q0, .int .i64 at_, .string ak, .string ab, .int .i64 bid, .int .i64 btm, .slice Q0 bms.length u0, .int .i64 btp, .int .i64 bwh, .int .i64 bn] 30)).alloc (.cells #[.int .i64 0, .slice none 0 0, .slice none 0 0] 25))
  have Y := Lib.hid ((Box.new_at (w := (w.alloc (.cells #[.int .i64 sc, .slice A n cw, .slice B m cd] 25))) (t := 30) (cs := #[.int .u8 ck, .int .i64 ai, .slice P0 ag.length q0, .int .i64 at_, .string ak, .string ab, .int .i64 bid, .int .i64 btm, .slice Q0 bms.length u0, .int .i64 btp, .int .i64 bwh, .int .i64 bn]) (w.heap.size + 1) (by simp)).alloc (.cells #[.int .i64 0, .slice none 0 0, .slice none 0 0] 25))
  have Z := Lib.hid (Box.new_at (w := ((w.alloc (.cells #[.int .i64 sc, .slice A n cw, .slice B m cd] 25)).alloc (.cells #[.int .u8 ck, .int .i64 ai, .slice P0 ag.length q0, .int .i64 at_, .string ak, .string ab, .int .i64 bid, .int .i64 btm, .slice Q0 bms.length u0, .int .i64 btp, .int .i64 bwh, .int .i64 bn] 30))) (t := 25) (cs := #[.int .i64 0, .slice none 0 0, .slice none 0 0]) (w.heap.size + 1 + 1) (by simp))
  go_enter Tryz.func7, Tryz.ntmps7
  go_upto_region 1 with (fail)
  generalize ((w.alloc (.cells #[.int .i64 sc, .slice A n cw, .slice B m cd] 25)).alloc (.cells #[.int .u8 ck, .int .i64 ai, .slice P0 ag.length q0, .int .i64 at_, .string ak, .string ab, .int .i64 bid, .int .i64 btm, .slice Q0 bms.length u0, .int .i64 btp, .int .i64 bwh, .int .i64 bn] 30)).alloc (.cells #[.int .i64 0, .slice none 0 0, .slice none 0 0] 25) = w1 at HB X Y Z ⊢
  have HG6 := Lib.hid (show w.heap.size ≤ w.heap.size + 1 + 1 by omega)
  obtain ⟨g6, hg6⟩ : ∃ g6, w.heap.size + 1 + 1 = g6 := ⟨_, rfl⟩
  rw [hg6] at Z HG6
  simp only [hg6]
  clear hg6
  generalize w.heap.size + 1 = g5 at Y ⊢
  obtain ⟨g3, hg3⟩ : ∃ g3, w.heap.size = g3 := ⟨_, rfl⟩
  rw [hg3] at X
  simp only [hg3]
  have HG3 := Lib.hid hg3
  clear hg3
  obtain ⟨x0, x1, x2⟩ := box_sk X.out
  have y0 := Y.out.cell 0
  have y1 := Y.out.cell 1
  have y2 := Y.out.cell 2
  have y3 := Y.out.cell 3
  have y4 := Y.out.cell 4
  have y5 := Y.out.cell 5
  have y6 := Y.out.cell 6
  have y7 := Y.out.cell 7
  have y8 := Y.out.cell 8
  have y9 := Y.out.cell 9
  have y10 := Y.out.cell 10
  have y11 := Y.out.cell 11
  simp at y0 y1 y2 y3 y4 y5 y6 y7 y8 y9 y10 y11
  go_wp2_with fail
  refine (K1.out _ HB.out).mono ?_
  rintro e w2 ⟨rfl, hb⟩
  have HB2 := Lib.hid (bmore HB.out hb (Nat.le_refl _))
  have X2 := Lib.hid (X.out.below hb X.out.lt)
  have Y2 := Lib.hid (Y.out.below hb Y.out.lt)
  have Z2 := Lib.hid (Z.out.below hb Z.out.lt)
  clear hb x0 x1 x2 y0 y1 y2 y3 y4 y5 y6 y7 y8 y9 y10 y11 K1 X Y Z HB
  by_cases k0 : e1 = 0
  rotate_left
  · have HF := Lib.hid (show r = (KM.zero, [], e1) by rw [HR.out, HE1.out]; exact apply_wrong (by rw [← HE1.out]; exact k0))
    have k1 : (e1 == 0) = false := by simpa using k0
    have ZB := Z2.out
    have ZW := HB2.out
    have ZP := Lib.hid (Box.put3 ZB (.int .i64 0) (.slice none 0 0) (.slice none 0 0))
    have ZL := Lib.hid (below_put3 ZW (by have := HG6.out; omega) (.int .i64 0) (.slice none 0 0) (.slice none 0 0) (g := g6))
    obtain ⟨z0, z1, z2, f0, f1, f2⟩ := ZB.three
    clear ZB ZW
    go_wp2_with fail
    obtain ⟨u0', u1, u2⟩ := box_sk ZP.out
    exact bodyPost_ret (v := .tuple #[.agg #[.int .i64 0, .slice none 0 0, .slice none 0 0], .slice none 0 0, .int .i64 e1]) (by simp [results, Tryz.results7, go_sem, u0', u1, u2]; try rfl) rfl ⟨_, _, by rw [HF.out], by rw [HF.out]; exact skO_zero _ _, by rw [HF.out]; exact kO_nil KM_ _ _ _, ZL.out⟩
  have HW3 := Lib.hid (wrong_no (by rw [← HE1.out]; exact k0))
  subst k0
  obtain ⟨x0, x1, x2⟩ := box_sk X2.out
  go_wp2_with fail
  refine (KT2.out (by have := HW3.out.1.1.2.2.1; have := HNA.out; omega) (by have := HW3.out.1.1.2.2.2; have := HMB.out; omega) _ HB2.out).mono ?_
  rintro e w4 ⟨v4, rfl, ⟨vW, vD, rfl, hkw, hkd⟩, hb⟩
  obtain ⟨A4, c4, rfl, _⟩ := hkw.g
  obtain ⟨B4, d4, rfl, _, _⟩ := own_form hkd
  unfold vsk
  clear x0 x1 x2 KT2
  have hal : Below w4.heap.size w4 (w4.alloc (.cells #[.int .i64 s.c, .slice A4 s.ws.length c4, .slice B4 s.ds.length d4] 55)) := (Below.refl _ _).alloc (Nat.le_refl _) _
  have HP5 := Lib.hid (show PtC w2 w2.heap.size w4.heap.size s.c (.slice A4 s.ws.length c4) (.slice B4 s.ds.length d4) s.ws s.ds (w4.alloc (.cells #[.int .i64 s.c, .slice A4 s.ws.length c4, .slice B4 s.ds.length d4] 55)) from ⟨bmore hb hal (Nat.le_refl _), ⟨hb.size, Nat.le_trans hb.size hal.size⟩, Box.new _ _ _, hkw.below hal, own_below3 hkd hal⟩)
  clear hal hb hkw hkd
  go_upto_region 5 with (fail)
  generalize w4.alloc (.cells #[.int .i64 s.c, .slice A4 s.ws.length c4, .slice B4 s.ds.length d4] 55) = w5 at HP5 ⊢
  generalize w4.heap.size = p at HP5 ⊢
  have Y5 := Lib.hid (Y2.out.below HP5.out.bl Y2.out.lt)
  have HLO := Lib.hid HB2.out.size
  have y0 := Y5.out.cell 0
  have y1 := Y5.out.cell 1
  have y2 := Y5.out.cell 2
  have y3 := Y5.out.cell 3
  have y4 := Y5.out.cell 4
  have y5 := Y5.out.cell 5
  have y6 := Y5.out.cell 6
  have y7 := Y5.out.cell 7
  have y8 := Y5.out.cell 8
  have y9 := Y5.out.cell 9
  have y10 := Y5.out.cell 10
  have y11 := Y5.out.cell 11
  simp at y0 y1 y2 y3 y4 y5 y6 y7 y8 y9 y10 y11
  go_wp2_with fail
  refine (KD.out w2 w2.heap.size p w5 _ _ HB2.out HLO.out HP5.out HW3.out.1).mono ?_
  clear y0 y1 y2 y3 y4 y5 y6 y7 y8 y9 y10 y11
  rintro e w6 (⟨nf, rfl, vW6, t6⟩ | ⟨ha, hfu, rfl, vW6, t6⟩)
  rotate_left
  · have HF := Lib.hid (show r = (KM.zero, [], 9) by rw [HR.out, apply_right HW3.out.1 HW3.out.2.1 HW3.out.2.2]; rw [putF_full ⟨ha, hfu⟩]; rfl)
    have ZB := Z2.out.below t6.bl Z2.out.lt
    have ZW := bmore HB2.out t6.bl (Nat.le_refl _)
    clear ha hfu t6
    have ZP := Lib.hid (Box.put3 ZB (.int .i64 0) (.slice none 0 0) (.slice none 0 0))
    have ZL := Lib.hid (below_put3 ZW (by have := HG6.out; omega) (.int .i64 0) (.slice none 0 0) (.slice none 0 0) (g := g6))
    obtain ⟨z0, z1, z2, f0, f1, f2⟩ := ZB.three
    clear ZB ZW
    go_wp2_with fail
    obtain ⟨u0', u1, u2⟩ := box_sk ZP.out
    exact bodyPost_ret (v := .tuple #[.agg #[.int .i64 0, .slice none 0 0, .slice none 0 0], .slice none 0 0, .int .i64 9]) (by simp [results, Tryz.results7, go_sem, u0', u1, u2]; try rfl) rfl ⟨_, _, by rw [HF.out], by rw [HF.out]; exact skO_zero _ _, by rw [HF.out]; exact kO_nil KM_ _ _ _, ZL.out⟩
  have HMD := Lib.hid (mid_of HW3.out.1 HW3.out.2.2 nf)
  have HRV := Lib.hid (apply_right HW3.out.1 HW3.out.2.1 HW3.out.2.2)
  obtain ⟨F, hF⟩ : ∃ F, F = KM.fnl (KM.pre s g ⟨ck, ⟨ai, ag, at_, ak, ab⟩, bid, btm, bms, btp, bwh, bn⟩) ⟨ck, ⟨ai, ag, at_, ak, ab⟩, bid, btm, bms, btp, bwh, bn⟩ := ⟨_, rfl⟩
  rw [← hF] at HMD
  have HPF := Lib.hid (fun D hD => putF_go nf hF (D := D) hD)
  clear nf
  have t6' : PtC w2 w2.heap.size p F.c vW6 (.slice B4 s.ds.length d4) F.ws F.ds w6 := by
    have h1 := HMD.out.2.2
    rw [h1, hF]
    exact t6
  clear hF t6
  have CV := Lib.hid (pdeliver15_any w2 w2.heap.size p F.c vW6 (.slice B4 s.ds.length d4) F.ws F.ds w6 t6' HMD.out.1 HMD.out.2.1 (by rw [HMD.out.2.2]; exact HW3.out.1.1.2.2.2))
  clear t6' HMD
  obtain ⟨D, hD⟩ : ∃ D, D = KM.drain F.ws.length F.ws F.ds [] := ⟨_, rfl⟩
  rw [← hD] at CV
  replace HPF := Lib.hid (HPF.out D hD)
  clear hD
  go_wp2_with fail
  refine (CV.out).mono ?_
  clear CV
  rintro e w7 (⟨hle, vm, rfl, hkm, vW7, vD7, t7⟩ | ⟨hgt, rfl, vW7, vD7, ws7, ds7, t7⟩)
  rotate_left
  · have HF := Lib.hid (show r = (KM.zero, [], 9) by
      rw [HR.out, HRV.out, HPF.out]
      show (if decide (D.2.1.length ≤ 200) = true then _ else _) = _
      rw [if_neg (by simp; omega)])
    have ZB := Z2.out.below t7.bl Z2.out.lt
    have ZW := bmore HB2.out t7.bl (Nat.le_refl _)
    clear hgt t7
    have ZP := Lib.hid (Box.put3 ZB (.int .i64 0) (.slice none 0 0) (.slice none 0 0))
    have ZL := Lib.hid (below_put3 ZW (by have := HG6.out; omega) (.int .i64 0) (.slice none 0 0) (.slice none 0 0) (g := g6))
    obtain ⟨z0, z1, z2, f0, f1, f2⟩ := ZB.three
    clear ZB ZW
    go_wp2_with fail
    obtain ⟨u0', u1, u2⟩ := box_sk ZP.out
    exact bodyPost_ret (v := .tuple #[.agg #[.int .i64 0, .slice none 0 0, .slice none 0 0], .slice none 0 0, .int .i64 9]) (by simp [results, Tryz.results7, go_sem, u0', u1, u2]; try rfl) rfl ⟨_, _, by rw [HF.out], by rw [HF.out]; exact skO_zero _ _, by rw [HF.out]; exact kO_nil KM_ _ _ _, ZL.out⟩
  have HF := Lib.hid (show r = (⟨F.c, D.1, D.2.1⟩, D.2.2, 0) by
    rw [HR.out, HRV.out, HPF.out]
    show (if decide (D.2.1.length ≤ 200) = true then _ else _) = _
    rw [if_pos (by simp; omega)])
  clear HRV HPF hle
  obtain ⟨A8, n8, c8, B8, d8, f1', f2', f3'⟩ := t7.forms
  subst f1' f2'
  clear f3' n8
  obtain ⟨E8, e8, rfl, _⟩ := hkm.g
  have HT7 := Lib.hid t7
  have HKM := Lib.hid hkm
  have ZB := Lib.hid (Z2.out.below t7.bl Z2.out.lt)
  have ZW := Lib.hid (bmore HB2.out t7.bl (Nat.le_refl _))
  clear t7 hkm
  have hpg : p ≠ g6 := fun e => by
    have h1 := HT7.out.ord.1
    have h2 := Z2.out.lt
    omega
  have hpg2 : g6 ≠ p := Ne.symm hpg
  obtain ⟨x0, x1, x2⟩ := box_sk HT7.out.bx
  obtain ⟨z0, z1, z2, f0, f1, f2⟩ := ZB.out.three
  have ZP := Lib.hid (Box.put3 ZB.out (.int .i64 F.c) (.slice A8 D.1.length c8) (.slice B8 D.2.1.length d8))
  have ZK := Lib.hid (kept_put3 ZB.out (.int .i64 F.c) (.slice A8 D.1.length c8) (.slice B8 D.2.1.length d8))
  have ZL := Lib.hid (below_put3 ZW.out (by have := HG6.out; omega) (.int .i64 F.c) (.slice A8 D.1.length c8) (.slice B8 D.2.1.length d8) (g := g6))
  go_wp2_with fail
  obtain ⟨u0', u1, u2⟩ := box_sk ZP.out
  exact bodyPost_ret (v := .tuple #[.agg #[.int .i64 F.c, .slice A8 D.1.length c8, .slice B8 D.2.1.length d8], .slice E8 D.2.2.length e8, .int .i64 0]) (by simp [results, Tryz.results7, go_sem, u0', u1, u2]; try rfl) rfl ⟨_, _, by rw [HF.out], by rw [HF.out]; exact ⟨_, _, rfl, KO.mono (KO.kept ZK.out (by decide) (by decide) HT7.out.ow) HLO.out, own_base (ZK.out.own HT7.out.od (by decide)) HLO.out⟩, by rw [HF.out]; exact KO.mono (KO.kept ZK.out (by decide) (by decide) HKM.out) HLO.out, ZL.out⟩
end Go.Proofs.YtnpgjcapekopnaaGreat.KP
