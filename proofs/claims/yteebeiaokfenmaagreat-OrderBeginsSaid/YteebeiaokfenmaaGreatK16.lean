/-
  Package skeen: do, wrong. Conditions: as assign and final ask.
-/
import Derived.Test.YteebeiaokfenmaaGreatK09
import Derived.Test.YteebeiaokfenmaaGreatK14
import Derived.Test.YteebeiaokfenmaaGreatK12
import Derived.Test.YteebeiaokfenmaaGreatK15
namespace Go.Proofs.YteebeiaokfenmaaGreat.KP
open Go.RowKit CP TP
open CM (Mg Cm)
open TM (Sp)
open KM (Wt Sk)
set_option linter.unusedVariables false
set_option linter.unusedSimpArgs false
set_option maxRecDepth 100000
theorem fnl_no {s : Sk} {c : Cm} (h : c.k ≠ 2) : KM.fnl s c = s := by
  unfold KM.fnl
  rcases s.ws[KM.wat s.ws c.id]? with _ | w
  · rfl
  · exact if_neg fun q => h q.1
theorem pre_no {s : Sk} {g : Int} {c : Cm} (h : c.k ≠ 1) : KM.pre s g c = s := by
  unfold KM.pre
  exact if_neg fun q => h q.1
/-- what do makes of it, and answers -/
def DoQ (w0 : World) (b p : Nat) (S : Sk) (g : Int) (cm : Cm) (vD : Value) (e : Ending) (w' : World) : Prop :=
  (¬ (KM.asg S g cm ∧ KM.full S) ∧ e = .returned (.int .i64 0) ∧ ∃ vW, PtC w0 b p (KM.fnl (KM.pre S g cm) cm).c vW vD (KM.fnl (KM.pre S g cm) cm).ws S.ds w') ∨
    (KM.asg S g cm ∧ KM.full S ∧ e = .returned (.int .i64 9) ∧ ∃ vW, PtC w0 b p S.c vW vD S.ws S.ds w')
set_option maxHeartbeats 8000000 in
theorem pdo15_any (w0 : World) (b p : Nat) (sc : Int) (vW vD : Value) (ws : List Wt) (ds : List Sp) (g : Int) (cm : Cm) (P0 : Option Addr) (q0 : Nat) (Q0 : Option Addr) (u0 : Nat) (W : World)
    (h : PtC w0 b p sc vW vD ws ds W) (hm : ∀ W', Below b w0 W' → RowIs W' P0 q0 cm.m.gs) (hgs : cm.m.gs.length ≤ 17592186044416) (hp : ws.Pairwise fun a b => a.m.id < b.m.id) (hn : ws.length ≤ 200) (hc : 0 ≤ sc ∧ sc ≤ 1073741824) :
    Calls Tryz.prog 86 #[.pointer (some ⟨p, 0, none⟩), .int .i64 g, .agg (ccells P0 q0 Q0 u0 cm)] W (DoQ w0 b p ⟨sc, ws, ds⟩ g cm vD) := by
  obtain ⟨A, n, cw, B, cd, e1, e2, e3⟩ := h.forms
  subst e1 e2
  clear e3 n
  have HT := Lib.hid h
  have KA := Lib.hid (fun (k : cm.k = 1) W' (t : PtC w0 b p sc (.slice A ws.length cw) (.slice B ds.length cd) ws ds W') => (passign15_any w0 b p sc A ws.length cw B ds.length cd ws ds g cm k P0 q0 W' t hm hgs hp hn hc).mono (R' := fun e w' => (∃ er, e = .returned (.int .i64 er)) ∧ DoQ w0 b p ⟨sc, ws, ds⟩ g cm (.slice B ds.length cd) e w') (fun e w' q => by
    have h2 : cm.k ≠ 2 := by rw [k]; decide
    rcases q with ⟨q1, q2, vW, q3⟩ | q
    · exact ⟨⟨_, q2⟩, .inl ⟨q1, q2, vW, by rw [fnl_no h2]; exact q3⟩⟩
    · exact ⟨⟨_, q.2.2.1⟩, .inr q⟩))
  have KF := Lib.hid (fun (k : cm.k = 2) W' (t : PtC w0 b p sc (.slice A ws.length cw) (.slice B ds.length cd) ws ds W') => pfinal15_any w0 b p sc A ws.length cw (.slice B ds.length cd) ws ds cm k W' t hp hn)
  have HF2 := Lib.hid (fun (k : cm.k ≠ 1) w' vW (t : PtC w0 b p (KM.fnl ⟨sc, ws, ds⟩ cm).c vW (.slice B ds.length cd) (KM.fnl ⟨sc, ws, ds⟩ cm).ws ds w') => show DoQ w0 b p ⟨sc, ws, ds⟩ g cm (.slice B ds.length cd) (.returned (.int .i64 0)) w' from .inl ⟨fun q => k q.1.1, rfl, vW, by rw [pre_no k]; exact t⟩)
  have HF0 := Lib.hid (fun (k : cm.k ≠ 1) (k2 : cm.k ≠ 2) w' vW (t : PtC w0 b p sc vW (.slice B ds.length cd) ws ds w') => show DoQ w0 b p ⟨sc, ws, ds⟩ g cm (.slice B ds.length cd) (.returned (.int .i64 0)) w' from .inl ⟨fun q => k q.1.1, rfl, vW, by rw [pre_no k, fnl_no k2]; exact t⟩)
  obtain ⟨QQ, hQQ⟩ : ∃ QQ, QQ = DoQ w0 b p ⟨sc, ws, ds⟩ g cm (.slice B ds.length cd) := ⟨_, rfl⟩
  rw [← hQQ] at KA HF2 HF0 ⊢
  obtain ⟨S2, hS2⟩ : ∃ S2, S2 = KM.fnl ⟨sc, ws, ds⟩ cm := ⟨_, rfl⟩
  rw [← hS2] at KF HF2
  clear hQQ hS2 h hm hgs hp hn hc
  obtain ⟨ck, ⟨ai, ag, at_, ak, ab⟩, bid, btm, bms, btp, bwh, bn⟩ := cm
  unfold ccells
  unfold mcells at KA
  simp only at KA KF HF2 HF0 ⊢
  have HB := Lib.hid (show Below W.heap.size W (W.alloc (.cells #[.int .u8 ck, .int .i64 ai, .slice P0 ag.length q0, .int .i64 at_, .string ak, .string ab, .int .i64 bid, .int .i64 btm, .slice Q0 bms.length u0, .int .i64 btp, .int .i64 bwh, .int .i64 bn] 91)) from (Below.refl _ _).alloc (Nat.le_refl _) _)
  have Y := Lib.hid (Box.new W 91 #[.int .u8 ck, .int .i64 ai, .slice P0 ag.length q0, .int .i64 at_, .string ak, .string ab, .int .i64 bid, .int .i64 btm, .slice Q0 bms.length u0, .int .i64 btp, .int .i64 bwh, .int .i64 bn])
  go_enter Tryz.func86, Tryz.ntmps86
  go_upto_region 1 with (fail)
  replace HT := Lib.hid (HT.out.below HB.out)
  generalize W.alloc (.cells #[.int .u8 ck, .int .i64 ai, .slice P0 ag.length q0, .int .i64 at_, .string ak, .string ab, .int .i64 bid, .int .i64 btm, .slice Q0 bms.length u0, .int .i64 btp, .int .i64 bwh, .int .i64 bn] 91) = w1 at HB Y HT ⊢
  generalize W.heap.size = g5 at Y ⊢
  have y0 := Y.out.cell 0
  have y1 := Y.out.cell 1
  have y2 := Y.out.cell 2
  have y3 := Y.out.cell 3
  have y4 := Y.out.cell 4
  have y5 := Y.out.cell 5
  have y6 := Y.out.cell 6
  have y7 := Y.out.cell 7
  simp at y0 y1 y2 y3 y4 y5 y6 y7
  by_cases k1 : ck = 1
  · have CA := Lib.hid (KA.out k1 w1 HT.out)
    subst k1
    go_wp2_with fail
    refine (CA.out).mono ?_
    rintro e w2 ⟨⟨er, rfl⟩, hq⟩
    have HQ := Lib.hid hq
    clear hq CA y0 y1 y2 y3 y4 y5 y6 y7
    go_wp2_with fail
    exact HQ.out
  by_cases k2 : ck = 2
  · have CF := Lib.hid (KF.out k2 w1 HT.out)
    have HE := Lib.hid (HF2.out k1)
    subst k2
    go_wp2_with fail
    refine (CF.out).mono ?_
    rintro e w2 ⟨rfl, hq⟩
    have HQ := Lib.hid hq
    clear hq CF y0 y1 y2 y3 y4 y5 y6 y7
    go_wp2_with fail
    exact HE.out _ _ HQ.out
  have HE := Lib.hid (HF0.out k1 k2)
  have j1 : (ck == 1) = false := by simpa using k1
  have j2 : (ck == 2) = false := by simpa using k2
  go_wp2_with fail
  exact HE.out _ _ HT.out
end Go.Proofs.YteebeiaokfenmaaGreat.KP
