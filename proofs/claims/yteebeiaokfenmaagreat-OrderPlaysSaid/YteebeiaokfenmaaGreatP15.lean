/- Contracts of functions, P15: each as its theorem says. -/
import Derived.Test.YteebeiaokfenmaaGreatP14
set_option linter.unusedVariables false
set_option linter.unusedSimpArgs false
set_option maxRecDepth 100000
set_option maxHeartbeats 16000000
namespace Go.Proofs.YteebeiaokfenmaaGreat
namespace KP
open Go.RowKit CP TP
open CM (Mg Cm)
open TM (Sp)
open KM (Wt Sk)
theorem pcheck15_any (v : Value) (s : Sk) (w : World) (h : SkIs w v s) (hf : SkFit s) : Calls Tryz.prog 101 #[v] w (IsN (if KM.may s then 0 else 8) w) := by
 have HI := h! (KM.may_iff (s := s))
 have HD := h! (dueB_iff (s := s))
 have HBh := h! (behB_iff (s := s))
 have HW := h! (fun h : KM.areWt s => h.1)
 have HDn := h! (fun h : KM.areDn s => h.1)
 obtain ⟨r, hr⟩ : ∃ r : Int, r = if KM.may s then 0 else 8 := ⟨_, rfl⟩
 have HR := h! (show (KM.may s → r = 0) ∧ (¬ KM.may s → r = 8) from ⟨fun h => by rw [hr, if_pos h], fun h => by rw [hr, if_neg h]⟩)
 rw [← hr]
 clear hr
 have C1 := h! (fun W (hb : Below w.heap.size w W) => areWaits_any v s W (h.below hb) hf)
 have C2 := h! (fun W (hb : Below w.heap.size w W) => areDone_any v s W (h.below hb) hf)
 have C3 := h! (fun W (hb : Below w.heap.size w W) => isTwice_any v s W (h.below hb))
 have C4 := h! (fun W (hb : Below w.heap.size w W) => isBehind_any v s W (h.below hb))
 have C5 := h! (fun W (hb : Below w.heap.size w W) => isDue_any v s W (h.below hb))
 obtain ⟨A, ca, B, cb, rfl, r1, d1⟩ := h
 clear r1 d1
 obtain ⟨b1, e1⟩ : ∃ b, b = decide (KM.areWt s) := ⟨_, rfl⟩
 obtain ⟨b2, e2⟩ : ∃ b, b = decide (KM.areDn s) := ⟨_, rfl⟩
 obtain ⟨b3, e3⟩ : ∃ b, b = decide (¬ (KM.ids s).Nodup) := ⟨_, rfl⟩
 obtain ⟨b4, e4⟩ : ∃ b, b = behB s := ⟨_, rfl⟩
 obtain ⟨b5, e5⟩ : ∃ b, b = dueB s := ⟨_, rfl⟩
 rw [← e1] at C1
 rw [← e2] at C2
 rw [← e3] at C3
 rw [← e4] at C4
 rw [← e5] at C5
 have E1 := h! (show b1 = true ↔ KM.areWt s by rw [e1]; simp)
 have E2 := h! (show b2 = true ↔ KM.areDn s by rw [e2]; simp)
 have E3 := h! (show b3 = true ↔ ¬ (KM.ids s).Nodup by rw [e3]; simp)
 have E4 := h! (show b4 = true ↔ KM.behind s by rw [e4]; exact HBh.out)
 have E5 := h! (show b5 = true ↔ KM.due s by rw [e5]; exact HD.out)
 clear e1 e2 e3 e4 e5 hf
 obtain ⟨M, hM⟩ : ∃ M, M = KM.may s := ⟨_, rfl⟩
 rw [← hM] at HI
 have HRM := h! (show (M → r = 0) ∧ (¬ M → r = 8) by rw [hM]; exact HR.out)
 clear hM HR HD HBh
 obtain ⟨sc, ws, ds⟩ := s
 unfold vsk at C1 C2 C3 C4 C5 ⊢
 simp only at HI C1 C2 C3 C4 C5 HW HDn ⊢
 obtain ⟨n, hna⟩ : ∃ n, n = ws.length := ⟨_, rfl⟩
 obtain ⟨m, hmb⟩ : ∃ m, m = ds.length := ⟨_, rfl⟩
 rw [← hna] at C1 C2 C3 C4 C5 HW ⊢
 rw [← hmb] at C1 C2 C3 C4 C5 HDn ⊢
 clear hna hmb
 have HB := h! (show Below w.heap.size w (w.alloc (.cells #[.int .i64 sc, .slice A n ca, .slice B m cb] 39)) from (Below.refl _ _).alloc n! _)
 have X := h! (Box.new w 39 #[.int .i64 sc, .slice A n ca, .slice B m cb])
 go_enter Tryz.func101, Tryz.ntmps101
 go_upto_region 1 with (fail)
 generalize w.alloc (.cells #[.int .i64 sc, .slice A n ca, .slice B m cb] 39) = w1 at HB X ⊢
 generalize w.heap.size = g0 at X ⊢
 obtain ⟨x0, x1, x2⟩ := box_sk X.out
 by_cases k1 : sc < 0
 ·have e : r = 8 := HRM.out.2 (fun h => by have := (HI.out.1 h).1.1; omega)
  subst e
  go_wp2_with fail
  go_ret
  exact ⟨rfl, HB.out⟩
 by_cases k2 : 1073741824 < sc
 ·have e : r = 8 := HRM.out.2 (fun h => by have := (HI.out.1 h).1.2; omega)
  subst e
  go_wp2_with fail
  go_ret
  exact ⟨rfl, HB.out⟩
 have K12 := h! (show 0 ≤ sc ∧ sc ≤ 1073741824 from ⟨by omega, by omega⟩)
 go_wp2_with fail
 refine (C1.out _ HB.out).mono ?_
 rintro e w2 ⟨rfl, hb⟩
 have Hw2 := h! (bmore HB.out hb n!)
 have Xw2 := h! (X.out.below hb X.out.lt)
 clear x0 x1 x2 hb C1
 obtain ⟨x0, x1, x2⟩ := box_sk Xw2.out
 rcases b1 with _ | _
 ·have e : r = 8 := HRM.out.2 (fun h => by have h1 := HI.out.1 h; exact absurd (E1.out.2 h1.2.1) (by decide))
  subst e
  go_wp2_with fail
  go_ret
  exact ⟨rfl, Hw2.out⟩
 have N1 := h! (HW.out (E1.out.1 rfl))
 go_wp2_with fail
 refine (C2.out _ Hw2.out).mono ?_
 rintro e w3 ⟨rfl, hb⟩
 have Hw3 := h! (bmore Hw2.out hb n!)
 have Xw3 := h! (Xw2.out.below hb Xw2.out.lt)
 clear x0 x1 x2 hb C2
 obtain ⟨x0, x1, x2⟩ := box_sk Xw3.out
 rcases b2 with _ | _
 ·have e : r = 8 := HRM.out.2 (fun h => by have h1 := HI.out.1 h; exact absurd (E2.out.2 h1.2.2.1) (by decide))
  subst e
  go_wp2_with fail
  go_ret
  exact ⟨rfl, Hw3.out⟩
 have N2 := h! (HDn.out (E2.out.1 rfl))
 go_wp2_with fail
 refine (C3.out _ Hw3.out N1.out N2.out).mono ?_
 rintro e w4 ⟨rfl, hb⟩
 have Hw4 := h! (bmore Hw3.out hb n!)
 have Xw4 := h! (Xw3.out.below hb Xw3.out.lt)
 clear x0 x1 x2 hb C3
 obtain ⟨x0, x1, x2⟩ := box_sk Xw4.out
 rcases b3 with _ | _
 rotate_left
 ·have e : r = 8 := HRM.out.2 (fun h => by have h1 := HI.out.1 h; exact (E3.out.1 rfl) h1.2.2.2.1)
  subst e
  go_wp2_with fail
  go_ret
  exact ⟨rfl, Hw4.out⟩
 go_wp2_with fail
 refine (C4.out _ Hw4.out).mono ?_
 rintro e w5 ⟨rfl, hb⟩
 have Hw5 := h! (bmore Hw4.out hb n!)
 have Xw5 := h! (Xw4.out.below hb Xw4.out.lt)
 clear x0 x1 x2 hb C4
 obtain ⟨x0, x1, x2⟩ := box_sk Xw5.out
 rcases b4 with _ | _
 ·have e : r = 8 := HRM.out.2 (fun h => by have h1 := HI.out.1 h; exact absurd (E4.out.2 h1.2.2.2.2.1) (by decide))
  subst e
  go_wp2_with fail
  go_ret
  exact ⟨rfl, Hw5.out⟩
 go_wp2_with fail
 refine (C5.out _ Hw5.out).mono ?_
 rintro e w6 ⟨rfl, hb⟩
 have Hw6 := h! (bmore Hw5.out hb n!)
 have Xw6 := h! (Xw5.out.below hb Xw5.out.lt)
 clear x0 x1 x2 hb C5
 obtain ⟨x0, x1, x2⟩ := box_sk Xw6.out
 rcases b5 with _ | _
 rotate_left
 ·have e : r = 8 := HRM.out.2 (fun h => by have h1 := HI.out.1 h; exact h1.2.2.2.2.2 (E5.out.1 rfl))
  subst e
  go_wp2_with fail
  go_ret
  exact ⟨rfl, Hw6.out⟩
 have e : r = 0 := HRM.out.1 (HI.out.2 ⟨K12.out, E1.out.1 (by first | rfl | trivial), E2.out.1 (by first | rfl | trivial), Classical.byContradiction fun h => absurd (E3.out.2 h) (by decide), E4.out.1 (by first | rfl | trivial), fun h => absurd (E5.out.2 h) (by decide)⟩)
 subst e
 go_wp2_with fail
 go_ret
 exact ⟨rfl, Hw6.out⟩
theorem fnl_no {s : Sk} {c : Cm} (h : c.k ≠ 2) : KM.fnl s c = s := by
 unfold KM.fnl
 rcases s.ws[KM.wat s.ws c.id]? with _ | w
 ·rfl
 ·exact if_neg fun q => h q.1
theorem pre_no {s : Sk} {g : Int} {c : Cm} (h : c.k ≠ 1) : KM.pre s g c = s := by
 unfold KM.pre
 exact if_neg fun q => h q.1
def DoQ (w0 : World) (b p : Nat) (S : Sk) (g : Int) (cm : Cm) (vD : Value) (e : Ending) (w' : World) : Prop :=
 (¬ (KM.asg S g cm ∧ KM.full S) ∧ e = .returned (.int .i64 0) ∧ ∃ vW, PtC w0 b p (KM.fnl (KM.pre S g cm) cm).c vW vD (KM.fnl (KM.pre S g cm) cm).ws S.ds w') ∨
  (KM.asg S g cm ∧ KM.full S ∧ e = .returned (.int .i64 9) ∧ ∃ vW, PtC w0 b p S.c vW vD S.ws S.ds w')
theorem pdo15_any (w0 : World) (b p : Nat) (sc : Int) (vW vD : Value) (ws : List Wt) (ds : List Sp) (g : Int) (cm : Cm) (P0 : Option Addr) (q0 : Nat) (Q0 : Option Addr) (u0 : Nat) (W : World)
  (h : PtC w0 b p sc vW vD ws ds W) (hm : ∀ W', Below b w0 W' → RowIs W' P0 q0 cm.m.gs) (hgs : cm.m.gs.length ≤ 17592186044416) (hp : ws.Pairwise fun a b => a.m.id < b.m.id) (hn : ws.length ≤ 200) (hc : 0 ≤ sc ∧ sc ≤ 1073741824) :
  Calls Tryz.prog 86 #[.pointer (some ⟨p, 0, none⟩), .int .i64 g, .agg (ccells P0 q0 Q0 u0 cm)] W (DoQ w0 b p ⟨sc, ws, ds⟩ g cm vD) := by
 obtain ⟨A, n, cw, B, cd, e1, e2, e3⟩ := h.forms
 subst e1 e2
 clear e3 n
 have HT := h! h
 have KA := h! (fun (k : cm.k = 1) W' (t : PtC w0 b p sc (.slice A ws.length cw) (.slice B ds.length cd) ws ds W') => (passign15_any w0 b p sc A ws.length cw B ds.length cd ws ds g cm k P0 q0 W' t hm hgs hp hn hc).mono (R' := fun e w' => (∃ er, e = .returned (.int .i64 er)) ∧ DoQ w0 b p ⟨sc, ws, ds⟩ g cm (.slice B ds.length cd) e w') (fun e w' q => by
  have h2 : cm.k ≠ 2 := by rw [k]; decide
  rcases q with ⟨q1, q2, vW, q3⟩ | q
  ·exact ⟨⟨_, q2⟩, .inl ⟨q1, q2, vW, by rw [fnl_no h2]; exact q3⟩⟩
  ·exact ⟨⟨_, q.2.2.1⟩, .inr q⟩))
 have KF := h! (fun (k : cm.k = 2) W' (t : PtC w0 b p sc (.slice A ws.length cw) (.slice B ds.length cd) ws ds W') => pfinal15_any w0 b p sc A ws.length cw (.slice B ds.length cd) ws ds cm k W' t hp hn)
 have HF2 := h! (fun (k : cm.k ≠ 1) w' vW (t : PtC w0 b p (KM.fnl ⟨sc, ws, ds⟩ cm).c vW (.slice B ds.length cd) (KM.fnl ⟨sc, ws, ds⟩ cm).ws ds w') => show DoQ w0 b p ⟨sc, ws, ds⟩ g cm (.slice B ds.length cd) (.returned (.int .i64 0)) w' from .inl ⟨fun q => k q.1.1, rfl, vW, by rw [pre_no k]; exact t⟩)
 have HF0 := h! (fun (k : cm.k ≠ 1) (k2 : cm.k ≠ 2) w' vW (t : PtC w0 b p sc vW (.slice B ds.length cd) ws ds w') => show DoQ w0 b p ⟨sc, ws, ds⟩ g cm (.slice B ds.length cd) (.returned (.int .i64 0)) w' from .inl ⟨fun q => k q.1.1, rfl, vW, by rw [pre_no k, fnl_no k2]; exact t⟩)
 obtain ⟨QQ, hQQ⟩ : ∃ QQ, QQ = DoQ w0 b p ⟨sc, ws, ds⟩ g cm (.slice B ds.length cd) := ⟨_, rfl⟩
 rw [← hQQ] at KA HF2 HF0 ⊢
 obtain ⟨S2, hS2⟩ : ∃ S2, S2 = KM.fnl ⟨sc, ws, ds⟩ cm := ⟨_, rfl⟩
 rw [← hS2] at KF HF2
 clear hQQ hS2 h hm hgs hp hn hc
 obtain ⟨ck, ⟨ai, ag, at_, ak, ab⟩, bid, btm, bms, btp, bwh, bn⟩ := cm
 unfold ccells
 unfold mcells at KA
 simp only at KA KF HF2 HF0 ⊢
 have HB := h! (show Below W.heap.size W (W.alloc (.cells #[.int .u8 ck, .int .i64 ai, .slice P0 ag.length q0, .int .i64 at_, .string ak, .string ab, .int .i64 bid, .int .i64 btm, .slice Q0 bms.length u0, .int .i64 btp, .int .i64 bwh, .int .i64 bn] 91)) from (Below.refl _ _).alloc n! _)
 have Y := h! (Box.new W 91 #[.int .u8 ck, .int .i64 ai, .slice P0 ag.length q0, .int .i64 at_, .string ak, .string ab, .int .i64 bid, .int .i64 btm, .slice Q0 bms.length u0, .int .i64 btp, .int .i64 bwh, .int .i64 bn])
 go_enter Tryz.func86, Tryz.ntmps86
 go_upto_region 1 with (fail)
 replace HT := h! (HT.out.below HB.out)
 generalize W.alloc (.cells #[.int .u8 ck, .int .i64 ai, .slice P0 ag.length q0, .int .i64 at_, .string ak, .string ab, .int .i64 bid, .int .i64 btm, .slice Q0 bms.length u0, .int .i64 btp, .int .i64 bwh, .int .i64 bn] 91) = w1 at HB Y HT ⊢
 generalize W.heap.size = g5 at Y ⊢
 have y0 := Y.out.cell 0
 have y1 := Y.out.cell 1
 have y2 := Y.out.cell 2
 have y3 := Y.out.cell 3
 have y4 := Y.out.cell 4
 have y5 := Y.out.cell 5
 have y6 := Y.out.cell 6
 have y7 := Y.out.cell 7
 simp at y0 y1 y2 y3 y4 y5 y6 y7
 by_cases k1 : ck = 1
 ·have CA := h! (KA.out k1 w1 HT.out)
  subst k1
  go_wp2_with fail
  refine (CA.out).mono ?_
  rintro e w2 ⟨⟨er, rfl⟩, hq⟩
  have HQ := h! hq
  clear hq CA y0 y1 y2 y3 y4 y5 y6 y7
  go_wp2_with fail
  exact HQ.out
 by_cases k2 : ck = 2
 ·have CF := h! (KF.out k2 w1 HT.out)
  have HE := h! (HF2.out k1)
  subst k2
  go_wp2_with fail
  refine (CF.out).mono ?_
  rintro e w2 ⟨rfl, hq⟩
  have HQ := h! hq
  clear hq CF y0 y1 y2 y3 y4 y5 y6 y7
  go_wp2_with fail
  exact HE.out _ _ HQ.out
 have HE := h! (HF0.out k1 k2)
 have j1 : (ck == 1) = false := by simpa using k1
 have j2 : (ck == 2) = false := by simpa using k2
 go_wp2_with fail
 exact HE.out _ _ HT.out
def wrongF (s : Sk) (g : Int) (c : Cm) : Int := if ¬ KM.may s then 8 else if ¬ (0 ≤ g ∧ g < 4) then 2 else if CM.may c then 0 else 120
theorem pwrong15_any (vs : Value) (s : Sk) (g : Int) (vc : Value) (c : Cm) (w : World) (hs : SkIs w vs s) (hf : SkFit s) (hc : CmIs w vc c) (hcf : CmFit c) : Calls Tryz.prog 84 #[vs, .int .i64 g, vc] w (IsN (wrongF s g c) w) := by
 have K1 := h! (fun W (hb : Below w.heap.size w W) => pcheck15_any vs s W (hs.below hb) hf)
 have K2 := h! (fun W (hb : Below w.heap.size w W) => pcheck_any c vc W (hc.below hb) hcf)
 obtain ⟨r, hr⟩ : ∃ r, r = wrongF s g c := ⟨_, rfl⟩
 have HR := h! hr
 rw [← hr]
 obtain ⟨e1, he1⟩ : ∃ e1 : Int, e1 = if KM.may s then 0 else 8 := ⟨_, rfl⟩
 obtain ⟨e2, he2⟩ : ∃ e2 : Int, e2 = if CM.may c then 0 else 120 := ⟨_, rfl⟩
 rw [← he1] at K1
 rw [← he2] at K2
 have H8 := h! (fun (k : ¬ KM.may s) => show e1 = 8 ∧ r = 8 from ⟨by rw [he1, if_neg k], by rw [hr]; unfold wrongF; rw [if_pos k]⟩)
 have H2 := h! (fun (k : KM.may s) (k2 : ¬ (0 ≤ g ∧ g < 4)) => show r = 2 from by rw [hr]; unfold wrongF; rw [if_neg (fun q => q k), if_pos k2])
 have H0 := h! (fun (k : KM.may s) => show e1 = 0 from by rw [he1, if_pos k])
 have HL := h! (fun (k : KM.may s) (k2 : 0 ≤ g ∧ g < 4) => show r = e2 from by rw [hr, he2]; unfold wrongF; rw [if_neg (fun q => q k), if_neg (fun q => q k2)])
 obtain ⟨M, hM⟩ : ∃ M, M = KM.may s := ⟨_, rfl⟩
 rw [← hM] at H8 H2 H0 HL
 obtain ⟨A, cw, B, cd, rfl, r1, d1⟩ := hs
 obtain ⟨P0, q0, Q0, u0, rfl, r2, r3⟩ := hc
 clear hr he1 he2 hM hf hcf r1 d1 r2 r3
 obtain ⟨sc, ws, ds⟩ := s
 obtain ⟨n, hna⟩ : ∃ n, n = ws.length := ⟨_, rfl⟩
 obtain ⟨m, hmb⟩ : ∃ m, m = ds.length := ⟨_, rfl⟩
 unfold vsk at K1 ⊢
 simp only at K1 ⊢
 rw [← hna, ← hmb] at K1 ⊢
 clear hna hmb
 obtain ⟨ck, ⟨ai, ag, at_, ak, ab⟩, bid, btm, bms, btp, bwh, bn⟩ := c
 unfold ccells at K2 ⊢
 simp only at K2 ⊢
 have HB := h! (show Below w.heap.size w ((w.alloc (.cells #[.int .i64 sc, .slice A n cw, .slice B m cd] 39)).alloc (.cells #[.int .u8 ck, .int .i64 ai, .slice P0 ag.length q0, .int .i64 at_, .string ak, .string ab, .int .i64 bid, .int .i64 btm, .slice Q0 bms.length u0, .int .i64 btp, .int .i64 bwh, .int .i64 bn] 91)) from ((Below.refl _ _).alloc n! _).alloc (by simp) _)
 have X := h! ((Box.new w 39 #[.int .i64 sc, .slice A n cw, .slice B m cd]).alloc (.cells #[.int .u8 ck, .int .i64 ai, .slice P0 ag.length q0, .int .i64 at_, .string ak, .string ab, .int .i64 bid, .int .i64 btm, .slice Q0 bms.length u0, .int .i64 btp, .int .i64 bwh, .int .i64 bn] 91))
 have Y := h! (Box.new_at (w := (w.alloc (.cells #[.int .i64 sc, .slice A n cw, .slice B m cd] 39))) (t := 91) (cs := #[.int .u8 ck, .int .i64 ai, .slice P0 ag.length q0, .int .i64 at_, .string ak, .string ab, .int .i64 bid, .int .i64 btm, .slice Q0 bms.length u0, .int .i64 btp, .int .i64 bwh, .int .i64 bn]) (w.heap.size + 1) (by simp))
 go_enter Tryz.func84, Tryz.ntmps84
 go_upto_region 1 with (fail)
 generalize (w.alloc (.cells #[.int .i64 sc, .slice A n cw, .slice B m cd] 39)).alloc (.cells #[.int .u8 ck, .int .i64 ai, .slice P0 ag.length q0, .int .i64 at_, .string ak, .string ab, .int .i64 bid, .int .i64 btm, .slice Q0 bms.length u0, .int .i64 btp, .int .i64 bwh, .int .i64 bn] 91) = w1 at HB X Y ⊢
 generalize w.heap.size + 1 = g5 at Y ⊢
 obtain ⟨g3, hg3⟩ : ∃ g3, w.heap.size = g3 := ⟨_, rfl⟩
 rw [hg3] at X
 simp only [hg3]
 clear hg3
 obtain ⟨x0, x1, x2⟩ := box_sk X.out
 go_wp2_with fail
 refine (K1.out _ HB.out).mono ?_
 rintro e w2 ⟨rfl, hb⟩
 have HB2 := h! (bmore HB.out hb n!)
 have Y2 := h! (Y.out.below hb Y.out.lt)
 clear hb x0 x1 x2 K1 X Y
 rcases Classical.em M with hM | hM
 rotate_left
 ·obtain ⟨h1, h2⟩ := H8.out hM
  subst h1 h2
  clear hM
  go_wp2_with fail
  go_ret
  exact ⟨rfl, HB2.out⟩
 have h1 := H0.out hM
 subst h1
 by_cases k2 : 0 ≤ g ∧ g < 4
 rotate_left
 ·have h2 := H2.out hM k2
  subst h2
  clear hM
  by_cases k3 : g < 0
  ·go_wp2_with fail
   go_ret
   exact ⟨rfl, HB2.out⟩
  ·have k4 : 4 ≤ g := by omega
   go_wp2_with fail
   go_ret
   exact ⟨rfl, HB2.out⟩
 have h2 := HL.out hM k2
 subst h2
 obtain ⟨k3, k4⟩ := k2
 have k5 : ¬ g < 0 := by omega
 have k6 : ¬ 4 ≤ g := by omega
 clear hM
 have y0 := Y2.out.cell 0
 have y1 := Y2.out.cell 1
 have y2 := Y2.out.cell 2
 have y3 := Y2.out.cell 3
 have y4 := Y2.out.cell 4
 have y5 := Y2.out.cell 5
 have y6 := Y2.out.cell 6
 have y7 := Y2.out.cell 7
 have y8 := Y2.out.cell 8
 have y9 := Y2.out.cell 9
 have y10 := Y2.out.cell 10
 have y11 := Y2.out.cell 11
 simp at y0 y1 y2 y3 y4 y5 y6 y7 y8 y9 y10 y11
 go_wp2_with fail
 refine (K2.out _ HB2.out).mono ?_
 rintro e w3 ⟨rfl, hb⟩
 have HB3 := h! (bmore HB2.out hb n!)
 clear y0 y1 y2 y3 y4 y5 y6 y7 y8 y9 y10 y11 hb K2
 go_wp2_with fail
 go_ret
 exact ⟨rfl, HB3.out⟩
theorem apply_wrong {s : Sk} {g : Int} {c : Cm} (h : wrongF s g c ≠ 0) : KM.applyF s g c = (KM.zero, [], wrongF s g c) := by
 unfold wrongF at h ⊢
 unfold KM.applyF
 by_cases h1 : ¬ KM.may s
 ·rw [if_pos h1, if_pos h1]
 ·rw [if_neg h1, if_neg h1]
  by_cases h2 : ¬ (0 ≤ g ∧ g < 4)
  ·rw [if_pos h2, if_pos h2]
  ·rw [if_neg h2, if_neg h2]
   by_cases h3 : CM.may c
   ·rw [if_neg h1, if_neg h2, if_pos h3] at h; exact absurd rfl h
   ·rw [if_pos h3, if_neg h3]
theorem wrong_no {s : Sk} {g : Int} {c : Cm} (h : wrongF s g c = 0) : KM.may s ∧ (0 ≤ g ∧ g < 4) ∧ CM.may c := by
 unfold wrongF at h
 by_cases h1 : ¬ KM.may s
 ·rw [if_pos h1] at h; exact absurd h (by decide)
 ·rw [if_neg h1] at h
  by_cases h2 : ¬ (0 ≤ g ∧ g < 4)
  ·rw [if_pos h2] at h; exact absurd h (by decide)
  ·rw [if_neg h2] at h
   by_cases h3 : CM.may c
   ·exact ⟨Classical.not_not.1 h1, Classical.not_not.1 h2, h3⟩
   ·rw [if_neg h3] at h; exact absurd h (by decide)
theorem apply_right {s : Sk} {g : Int} {c : Cm} (h1 : KM.may s) (h2 : 0 ≤ g ∧ g < 4) (h3 : CM.may c) : KM.applyF s g c = if (KM.putF s g c).2.2 = true then ((KM.putF s g c).1, (KM.putF s g c).2.1, 0) else (KM.zero, [], 9) := by
 unfold KM.applyF
 rw [if_neg (fun q => q h1), if_neg (fun q => q h2), if_neg (fun q => q h3)]
theorem putF_full {s : Sk} {g : Int} {c : Cm} (h : KM.asg s g c ∧ KM.full s) : KM.putF s g c = (s, [], false) := by
 unfold KM.putF
 exact if_pos h
theorem putF_go {s : Sk} {g : Int} {c : Cm} (h : ¬ (KM.asg s g c ∧ KM.full s)) {F : Sk} (hF : F = KM.fnl (KM.pre s g c) c) {D : List Wt × List Sp × List Mg} (hD : D = KM.drain F.ws.length F.ws F.ds []) : KM.putF s g c = (⟨F.c, D.1, D.2.1⟩, D.2.2, decide (D.2.1.length ≤ 200)) := by
 subst hF hD
 unfold KM.putF
 exact if_neg h
theorem mid_of {s : Sk} {g : Int} {c : Cm} (h1 : KM.may s) (h3 : CM.may c) (hf : ¬ (KM.asg s g c ∧ KM.full s)) :
  ((KM.fnl (KM.pre s g c) c).ws.Pairwise fun a b => a.m.id < b.m.id) ∧ (KM.fnl (KM.pre s g c) c).ws.length ≤ 200 ∧ (KM.fnl (KM.pre s g c) c).ds = s.ds := by
 refine ⟨(KM.half_fnl (KM.half_pre (KM.may_half h1) h3 hf) h3).2.2.2.2, ?_, KM.fnl_c.2.trans KM.pre_c.2⟩
 rw [KM.fnl_len]
 rcases KM.pre_len (s := s) (g := g) (c := c) with h | ⟨h, h4⟩
 ·rw [h]; exact h1.1.2.2.1
 ·have h5 : ¬ KM.full s := fun q => hf ⟨h, q⟩
  have h6 : s.ws.length ≠ 200 := fun q => h5 (.inr q)
  have := h1.1.2.2.1
  rw [h4]
  omega
theorem papply15 : PApply := by
 intro vs s g vc c w hs hf hc hcf hgs
 have K1 := h! (fun W (hb : Below w.heap.size w W) => pwrong15_any vs s g vc c W (hs.below hb) hf (hc.below hb) hcf)
 have KT := h! (fun (h1 : s.ws.length ≤ 4096) (h2 : s.ds.length ≤ 4096) W (hb : Below w.heap.size w W) => ptwin15_any vs s W (hs.below hb) h1 h2 (fun x hx => (hf.2.1 x hx).2))
 obtain ⟨r, hr⟩ : ∃ r, r = KM.applyF s g c := ⟨_, rfl⟩
 rw [← hr]
 have HR := h! hr
 obtain ⟨e1, he1⟩ : ∃ e1, e1 = wrongF s g c := ⟨_, rfl⟩
 rw [← he1] at K1
 have HE1 := h! he1
 clear hr he1
 obtain ⟨A, cw, B, cd, rfl, r1, d1⟩ := hs
 obtain ⟨P0, q0, Q0, u0, rfl, r2, r3⟩ := hc
 have HROW := h! (fun W (hb : Below w.heap.size w W) => r2.below hb)
 obtain ⟨n, hna⟩ : ∃ n, n = s.ws.length := ⟨_, rfl⟩
 obtain ⟨m, hmb⟩ : ∃ m, m = s.ds.length := ⟨_, rfl⟩
 obtain ⟨sc, hsc⟩ : ∃ sc, sc = s.c := ⟨_, rfl⟩
 unfold vsk at K1 KT ⊢
 rw [← hna, ← hmb, ← hsc] at K1 ⊢
 have HNA := h! hna
 have HMB := h! hmb
 have HSC := h! hsc
 have KT2 := h! (fun (h1 : n ≤ 4096) (h2 : m ≤ 4096) W (hb : Below w.heap.size w W) => show Calls Tryz.prog 85 #[.agg #[.int .i64 sc, .slice A n cw, .slice B m cd]] W (SkNew s W) from by rw [hna, hmb, hsc]; exact KT.out (by omega) (by omega) W hb)
 clear hf hcf r1 d1 r2 r3 hna hmb hsc KT
 obtain ⟨cc, hcc⟩ : ∃ cc, cc = c := ⟨_, rfl⟩
 have KD := h! (fun w0 b p W vW vD (hb : Below w.heap.size w w0) (hbb : w.heap.size ≤ b) (t : PtC w0 b p s.c vW vD s.ws s.ds W) (h1 : KM.may s) => pdo15_any w0 b p s.c vW vD s.ws s.ds g c P0 q0 Q0 u0 W t (fun W' hb' => HROW.out W' (hb.trans (hb'.mono hbb))) hgs (KM.may_iff.1 h1).2.1.2.2 (KM.may_iff.1 h1).2.1.1 (KM.may_iff.1 h1).1)
 clear hcc cc hgs
 obtain ⟨ck, ⟨ai, ag, at_, ak, ab⟩, bid, btm, bms, btp, bwh, bn⟩ := c
 unfold ccells at K1 KD ⊢
 simp only at K1 KD HROW ⊢
 have HB := h! (show Below w.heap.size w (((w.alloc (.cells #[.int .i64 sc, .slice A n cw, .slice B m cd] 39)).alloc (.cells #[.int .u8 ck, .int .i64 ai, .slice P0 ag.length q0, .int .i64 at_, .string ak, .string ab, .int .i64 bid, .int .i64 btm, .slice Q0 bms.length u0, .int .i64 btp, .int .i64 bwh, .int .i64 bn] 91)).alloc (.cells #[.int .i64 0, .slice none 0 0, .slice none 0 0] 39)) from (((Below.refl _ _).alloc n! _).alloc (by simp) _).alloc (by simp; omega) _)
 have X := h! (((Box.new w 39 #[.int .i64 sc, .slice A n cw, .slice B m cd]).alloc (.cells #[.int .u8 ck, .int .i64 ai, .slice P0 ag.length q0, .int .i64 at_, .string ak, .string ab, .int .i64 bid, .int .i64 btm, .slice Q0 bms.length u0, .int .i64 btp, .int .i64 bwh, .int .i64 bn] 91)).alloc (.cells #[.int .i64 0, .slice none 0 0, .slice none 0 0] 39))
 have Y := h! ((Box.new_at (w := (w.alloc (.cells #[.int .i64 sc, .slice A n cw, .slice B m cd] 39))) (t := 91) (cs := #[.int .u8 ck, .int .i64 ai, .slice P0 ag.length q0, .int .i64 at_, .string ak, .string ab, .int .i64 bid, .int .i64 btm, .slice Q0 bms.length u0, .int .i64 btp, .int .i64 bwh, .int .i64 bn]) (w.heap.size + 1) (by simp)).alloc (.cells #[.int .i64 0, .slice none 0 0, .slice none 0 0] 39))
 have Z := h! (Box.new_at (w := ((w.alloc (.cells #[.int .i64 sc, .slice A n cw, .slice B m cd] 39)).alloc (.cells #[.int .u8 ck, .int .i64 ai, .slice P0 ag.length q0, .int .i64 at_, .string ak, .string ab, .int .i64 bid, .int .i64 btm, .slice Q0 bms.length u0, .int .i64 btp, .int .i64 bwh, .int .i64 bn] 91))) (t := 39) (cs := #[.int .i64 0, .slice none 0 0, .slice none 0 0]) (w.heap.size + 1 + 1) (by simp))
 go_enter Tryz.func57, Tryz.ntmps57
 go_upto_region 1 with (fail)
 generalize ((w.alloc (.cells #[.int .i64 sc, .slice A n cw, .slice B m cd] 39)).alloc (.cells #[.int .u8 ck, .int .i64 ai, .slice P0 ag.length q0, .int .i64 at_, .string ak, .string ab, .int .i64 bid, .int .i64 btm, .slice Q0 bms.length u0, .int .i64 btp, .int .i64 bwh, .int .i64 bn] 91)).alloc (.cells #[.int .i64 0, .slice none 0 0, .slice none 0 0] 39) = w1 at HB X Y Z ⊢
 have HG6 := h! (show w.heap.size ≤ w.heap.size + 1 + 1 by omega)
 obtain ⟨g6, hg6⟩ : ∃ g6, w.heap.size + 1 + 1 = g6 := ⟨_, rfl⟩
 rw [hg6] at Z HG6
 simp only [hg6]
 clear hg6
 generalize w.heap.size + 1 = g5 at Y ⊢
 obtain ⟨g3, hg3⟩ : ∃ g3, w.heap.size = g3 := ⟨_, rfl⟩
 rw [hg3] at X
 simp only [hg3]
 have HG3 := h! hg3
 clear hg3
 obtain ⟨x0, x1, x2⟩ := box_sk X.out
 have y0 := Y.out.cell 0
 have y1 := Y.out.cell 1
 have y2 := Y.out.cell 2
 have y3 := Y.out.cell 3
 have y4 := Y.out.cell 4
 have y5 := Y.out.cell 5
 have y6 := Y.out.cell 6
 have y7 := Y.out.cell 7
 have y8 := Y.out.cell 8
 have y9 := Y.out.cell 9
 have y10 := Y.out.cell 10
 have y11 := Y.out.cell 11
 simp at y0 y1 y2 y3 y4 y5 y6 y7 y8 y9 y10 y11
 go_wp2_with fail
 refine (K1.out _ HB.out).mono ?_
 rintro e w2 ⟨rfl, hb⟩
 have HB2 := h! (bmore HB.out hb n!)
 have X2 := h! (X.out.below hb X.out.lt)
 have Y2 := h! (Y.out.below hb Y.out.lt)
 have Z2 := h! (Z.out.below hb Z.out.lt)
 clear hb x0 x1 x2 y0 y1 y2 y3 y4 y5 y6 y7 y8 y9 y10 y11 K1 X Y Z HB
 by_cases k0 : e1 = 0
 rotate_left
 ·have HF := h! (show r = (KM.zero, [], e1) by rw [HR.out, HE1.out]; exact apply_wrong (by rw [← HE1.out]; exact k0))
  have k1 : (e1 == 0) = false := by simpa using k0
  have ZB := Z2.out
  have ZW := HB2.out
  have ZP := h! (Box.put3 ZB (.int .i64 0) (.slice none 0 0) (.slice none 0 0))
  have ZL := h! (below_put3 ZW (by have := HG6.out; omega) (.int .i64 0) (.slice none 0 0) (.slice none 0 0) (g := g6))
  obtain ⟨z0, z1, z2, f0, f1, f2⟩ := ZB.three
  clear ZB ZW
  go_wp2_with fail
  obtain ⟨u0', u1, u2⟩ := box_sk ZP.out
  exact bodyPost_ret (v := .tuple #[.agg #[.int .i64 0, .slice none 0 0, .slice none 0 0], .slice none 0 0, .int .i64 e1]) (by simp [results, Tryz.results57, go_sem, u0', u1, u2]; try rfl) rfl ⟨_, _, by rw [HF.out], by rw [HF.out]; exact skO_zero _ _, by rw [HF.out]; exact kO_nil KM_ _ _ _, ZL.out⟩
 have HW3 := h! (wrong_no (by rw [← HE1.out]; exact k0))
 subst k0
 obtain ⟨x0, x1, x2⟩ := box_sk X2.out
 go_wp2_with fail
 refine (KT2.out (by have := HW3.out.1.1.2.2.1; have := HNA.out; omega) (by have := HW3.out.1.1.2.2.2; have := HMB.out; omega) _ HB2.out).mono ?_
 rintro e w4 ⟨v4, rfl, ⟨vW, vD, rfl, hkw, hkd⟩, hb⟩
 obtain ⟨A4, c4, rfl, _⟩ := hkw.g
 obtain ⟨B4, d4, rfl, _, _⟩ := own_form hkd
 unfold vsk
 clear x0 x1 x2 KT2
 have hal : Below w4.heap.size w4 (w4.alloc (.cells #[.int .i64 s.c, .slice A4 s.ws.length c4, .slice B4 s.ds.length d4] 147)) := b!
 have HP5 := h! (show PtC w2 w2.heap.size w4.heap.size s.c (.slice A4 s.ws.length c4) (.slice B4 s.ds.length d4) s.ws s.ds (w4.alloc (.cells #[.int .i64 s.c, .slice A4 s.ws.length c4, .slice B4 s.ds.length d4] 147)) from ⟨bmore hb hal n!, ⟨hb.size, Nat.le_trans hb.size hal.size⟩, Box.new _ _ _, hkw.below hal, own_below3 hkd hal⟩)
 clear hal hb hkw hkd
 go_upto_region 5 with (fail)
 generalize w4.alloc (.cells #[.int .i64 s.c, .slice A4 s.ws.length c4, .slice B4 s.ds.length d4] 147) = w5 at HP5 ⊢
 generalize w4.heap.size = p at HP5 ⊢
 have Y5 := h! (Y2.out.below HP5.out.bl Y2.out.lt)
 have HLO := h! HB2.out.size
 have y0 := Y5.out.cell 0
 have y1 := Y5.out.cell 1
 have y2 := Y5.out.cell 2
 have y3 := Y5.out.cell 3
 have y4 := Y5.out.cell 4
 have y5 := Y5.out.cell 5
 have y6 := Y5.out.cell 6
 have y7 := Y5.out.cell 7
 have y8 := Y5.out.cell 8
 have y9 := Y5.out.cell 9
 have y10 := Y5.out.cell 10
 have y11 := Y5.out.cell 11
 simp at y0 y1 y2 y3 y4 y5 y6 y7 y8 y9 y10 y11
 go_wp2_with fail
 refine (KD.out w2 w2.heap.size p w5 _ _ HB2.out HLO.out HP5.out HW3.out.1).mono ?_
 clear y0 y1 y2 y3 y4 y5 y6 y7 y8 y9 y10 y11
 rintro e w6 (⟨nf, rfl, vW6, t6⟩ | ⟨ha, hfu, rfl, vW6, t6⟩)
 rotate_left
 ·have HF := h! (show r = (KM.zero, [], 9) by rw [HR.out, apply_right HW3.out.1 HW3.out.2.1 HW3.out.2.2]; rw [putF_full ⟨ha, hfu⟩]; rfl)
  have ZB := Z2.out.below t6.bl Z2.out.lt
  have ZW := bmore HB2.out t6.bl n!
  clear ha hfu t6
  have ZP := h! (Box.put3 ZB (.int .i64 0) (.slice none 0 0) (.slice none 0 0))
  have ZL := h! (below_put3 ZW (by have := HG6.out; omega) (.int .i64 0) (.slice none 0 0) (.slice none 0 0) (g := g6))
  obtain ⟨z0, z1, z2, f0, f1, f2⟩ := ZB.three
  clear ZB ZW
  go_wp2_with fail
  obtain ⟨u0', u1, u2⟩ := box_sk ZP.out
  exact bodyPost_ret (v := .tuple #[.agg #[.int .i64 0, .slice none 0 0, .slice none 0 0], .slice none 0 0, .int .i64 9]) (by simp [results, Tryz.results57, go_sem, u0', u1, u2]; try rfl) rfl ⟨_, _, by rw [HF.out], by rw [HF.out]; exact skO_zero _ _, by rw [HF.out]; exact kO_nil KM_ _ _ _, ZL.out⟩
 have HMD := h! (mid_of HW3.out.1 HW3.out.2.2 nf)
 have HRV := h! (apply_right HW3.out.1 HW3.out.2.1 HW3.out.2.2)
 obtain ⟨F, hF⟩ : ∃ F, F = KM.fnl (KM.pre s g ⟨ck, ⟨ai, ag, at_, ak, ab⟩, bid, btm, bms, btp, bwh, bn⟩) ⟨ck, ⟨ai, ag, at_, ak, ab⟩, bid, btm, bms, btp, bwh, bn⟩ := ⟨_, rfl⟩
 rw [← hF] at HMD
 have HPF := h! (fun D hD => putF_go nf hF (D := D) hD)
 clear nf
 have t6' : PtC w2 w2.heap.size p F.c vW6 (.slice B4 s.ds.length d4) F.ws F.ds w6 := by
  have h1 := HMD.out.2.2
  rw [h1, hF]
  exact t6
 clear hF t6
 have CV := h! (pdeliver15_any w2 w2.heap.size p F.c vW6 (.slice B4 s.ds.length d4) F.ws F.ds w6 t6' HMD.out.1 HMD.out.2.1 (by rw [HMD.out.2.2]; exact HW3.out.1.1.2.2.2))
 clear t6' HMD
 obtain ⟨D, hD⟩ : ∃ D, D = KM.drain F.ws.length F.ws F.ds [] := ⟨_, rfl⟩
 rw [← hD] at CV
 replace HPF := h! (HPF.out D hD)
 clear hD
 go_wp2_with fail
 refine (CV.out).mono ?_
 clear CV
 rintro e w7 (⟨hle, vm, rfl, hkm, vW7, vD7, t7⟩ | ⟨hgt, rfl, vW7, vD7, ws7, ds7, t7⟩)
 rotate_left
 ·have HF := h! (show r = (KM.zero, [], 9) by
   rw [HR.out, HRV.out, HPF.out]
   show (if decide (D.2.1.length ≤ 200) = true then _ else _) = _
   rw [if_neg (by simp; omega)])
  have ZB := Z2.out.below t7.bl Z2.out.lt
  have ZW := bmore HB2.out t7.bl n!
  clear hgt t7
  have ZP := h! (Box.put3 ZB (.int .i64 0) (.slice none 0 0) (.slice none 0 0))
  have ZL := h! (below_put3 ZW (by have := HG6.out; omega) (.int .i64 0) (.slice none 0 0) (.slice none 0 0) (g := g6))
  obtain ⟨z0, z1, z2, f0, f1, f2⟩ := ZB.three
  clear ZB ZW
  go_wp2_with fail
  obtain ⟨u0', u1, u2⟩ := box_sk ZP.out
  exact bodyPost_ret (v := .tuple #[.agg #[.int .i64 0, .slice none 0 0, .slice none 0 0], .slice none 0 0, .int .i64 9]) (by simp [results, Tryz.results57, go_sem, u0', u1, u2]; try rfl) rfl ⟨_, _, by rw [HF.out], by rw [HF.out]; exact skO_zero _ _, by rw [HF.out]; exact kO_nil KM_ _ _ _, ZL.out⟩
 have HF := h! (show r = (⟨F.c, D.1, D.2.1⟩, D.2.2, 0) by
  rw [HR.out, HRV.out, HPF.out]
  show (if decide (D.2.1.length ≤ 200) = true then _ else _) = _
  rw [if_pos (by simp; omega)])
 clear HRV HPF hle
 obtain ⟨A8, n8, c8, B8, d8, f1', f2', f3'⟩ := t7.forms
 subst f1' f2'
 clear f3' n8
 obtain ⟨E8, e8, rfl, _⟩ := hkm.g
 have HT7 := h! t7
 have HKM := h! hkm
 have ZB := h! (Z2.out.below t7.bl Z2.out.lt)
 have ZW := h! (bmore HB2.out t7.bl n!)
 clear t7 hkm
 have hpg : p ≠ g6 := fun e => by
  have h1 := HT7.out.ord.1
  have h2 := Z2.out.lt
  omega
 have hpg2 : g6 ≠ p := Ne.symm hpg
 obtain ⟨x0, x1, x2⟩ := box_sk HT7.out.bx
 obtain ⟨z0, z1, z2, f0, f1, f2⟩ := ZB.out.three
 have ZP := h! (Box.put3 ZB.out (.int .i64 F.c) (.slice A8 D.1.length c8) (.slice B8 D.2.1.length d8))
 have ZK := h! (kept_put3 ZB.out (.int .i64 F.c) (.slice A8 D.1.length c8) (.slice B8 D.2.1.length d8))
 have ZL := h! (below_put3 ZW.out (by have := HG6.out; omega) (.int .i64 F.c) (.slice A8 D.1.length c8) (.slice B8 D.2.1.length d8) (g := g6))
 go_wp2_with fail
 obtain ⟨u0', u1, u2⟩ := box_sk ZP.out
 exact bodyPost_ret (v := .tuple #[.agg #[.int .i64 F.c, .slice A8 D.1.length c8, .slice B8 D.2.1.length d8], .slice E8 D.2.2.length e8, .int .i64 0]) (by simp [results, Tryz.results57, go_sem, u0', u1, u2]; try rfl) rfl ⟨_, _, by rw [HF.out], by rw [HF.out]; exact ⟨_, _, rfl, KO.mono (KO.kept ZK.out (by decide) (by decide) HT7.out.ow) HLO.out, own_base (ZK.out.own HT7.out.od (by decide)) HLO.out⟩, by rw [HF.out]; exact KO.mono (KO.kept ZK.out (by decide) (by decide) HKM.out) HLO.out, ZL.out⟩
end KP
namespace LP
open Go.RowKit CP
open CM (Cm Mg)
theorem rd13 (s : ByteArray) (hs : s.size ≤ maxLen) (w : World) : Calls Tryz.prog 95 #[.string s] w (RdGe (LM.cm s) (LM.er s) w) := read12_ge s (LM.read_is s) hs w
theorem check13_any (A : Option Addr) (n c : Nat) (l : List ByteArray) (w : World) (h : TxIs w A n c l) :
  Calls Tryz.prog 74 #[.slice A n c] w (NumIs (LM.chk l) w) := by
 have hl := h.len
 have hm := h.2.2.1
 have hnc := h.2.1
 have hn : n ≤ 9223372036854775807 := by unfold maxLen at hm; omega
 by_cases h200 : 200 < n
 ·have he : LM.chk l = 4 := by unfold LM.chk; rw [if_pos (by omega)]
  rw [he]
  clear h hl hm he hnc
  go_enter Tryz.func74, Tryz.ntmps74
  go_wp2
  go_ret
  exact ⟨rfl, Below.refl _ _⟩
 have h200' : n ≤ 200 := by omega
 clear h200
 obtain ⟨r, hrr⟩ : ∃ r, r = LM.chk l := ⟨_, rfl⟩
 have hst : LM.chkF (l.drop 0) = r := by rw [hrr]; unfold LM.chk; rw [if_neg (by omega)]; rfl
 rw [← hrr]
 have HS := h! hst
 have HT := h! h
 have HL := h! hl
 clear hrr hst h hl hm hnc
 go_enter Tryz.func74, Tryz.ntmps74
 go_wp2
 go_loopw [3] (fun i wr => ∃ k : Nat, k ≤ n ∧ i = .int .i64 k ∧ Below w.heap.size w wr ∧ Hid (LM.chkF (l.drop k) = r)) (fun i _ => n - (intOf i).toNat)
 case atStart => exact ⟨0, by omega, rfl, Below.refl _ _, HS⟩
 case round =>
  clear HS
  obtain ⟨k, hk, rfl, hB, HR⟩ := hrel
  have HB := h! hB
  clear hB
  by_cases hlt : k < n
  ·have hkz : k < l.length := by have := HL.out; omega
   have hr := (HT.out.below HB.out).1
   obtain ⟨ad, u, rfl, _, hu, hcell⟩ := hr.at_ hlt
   rw [tcx_at l k hkz] at hu
   injection hu with hu
   subst hu
   have hd := HR.out
   rw [List.drop_eq_getElem_cons hkz] at hd
   have hsz := HT.out.2.2.2 _ (List.getElem_mem hkz)
   obtain ⟨z, hz⟩ : ∃ z, z = l[k] := ⟨_, rfl⟩
   rw [← hz] at hcell hd hsz
   clear hz HR hr
   unfold LM.chkF at hd
   have CR := h! (rd13 z hsz wr)
   have HE := h! (LM.er_cases z)
   obtain ⟨y, hy⟩ : ∃ y, y = LM.er z := ⟨_, rfl⟩
   rw [← hy] at CR HE hd
   have HD := h! hd
   clear hd hy hsz
   generalize LM.cm z = x at CR
   obtain ⟨k0, ⟨mi, mg, mt, mk, mb⟩, aid, atm, ams, atp, awh, an⟩ := x
   go_wp2_with fail
   refine (CR.out).mono ?_
   rintro e1 w2 ⟨v, rfl, ⟨A1, c1, P, q, rfl, _, _⟩, hb⟩
   unfold ccells
   replace HB := h! (bmore HB.out hb n!)
   replace HB := h! (HB.out.alloc HB.out.size (.cells #[.int .u8 k0, .int .i64 mi, .slice A1 mg.length c1, .int .i64 mt, .string mk, .string mb, .int .i64 aid, .int .i64 atm, .slice P ams.length q, .int .i64 atp, .int .i64 awh, .int .i64 an] 91))
   clear hb CR hcell
   go_upto_region 7 with (fail)
   generalize w2.alloc (.cells #[.int .u8 k0, .int .i64 mi, .slice A1 mg.length c1, .int .i64 mt, .string mk, .string mb, .int .i64 aid, .int .i64 atm, .slice P ams.length q, .int .i64 atp, .int .i64 awh, .int .i64 an] 91) = w3 at HB ⊢
   rcases HE.out with rfl | rfl | rfl
   ·have HD2 := h! (show LM.chkF (l.drop (k + 1)) = r by have := HD.out; rwa [if_pos rfl] at this)
    clear HD HE
    go_wp2_with fail
    go_roundw
    case rel => exact ⟨k + 1, by omega, by go_num, HB.out, HD2⟩
    case measure => simp [intOf]; omega
   ·have HD2 := h! (show (8 : Int) = r by have := HD.out; rwa [if_neg (by decide)] at this)
    clear HD HE
    go_wp2_with fail
    go_ret
    exact ⟨ret_int HD2.out, HB.out⟩
   ·have HD2 := h! (show (8 : Int) = r by have := HD.out; rwa [if_neg (by decide)] at this)
    clear HD HE
    go_wp2_with fail
    go_ret
    exact ⟨ret_int HD2.out, HB.out⟩
  ·have hd : 0 = r := by have := HR.out; rw [List.drop_of_length_le (by have := HL.out; omega)] at this; simpa [LM.chkF] using this
   have HD := h! hd
   clear hd
   go_wp2
   go_ret
   exact ⟨ret_int HD.out, HB.out⟩
end LP
end Go.Proofs.YteebeiaokfenmaaGreat
