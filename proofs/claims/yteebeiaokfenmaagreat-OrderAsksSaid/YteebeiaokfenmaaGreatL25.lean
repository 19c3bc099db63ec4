/- Contracts of functions, L25: each as its theorem says. -/
import Derived.Test.YteebeiaokfenmaaGreatL22
set_option linter.unusedVariables false
set_option linter.unusedSimpArgs false
set_option maxRecDepth 100000
set_option maxHeartbeats 16000000
namespace Go.Proofs.YteebeiaokfenmaaGreat
namespace KP
open Go.RowKit CP TP
open CM (Mg Cm)
open TM (Sp)
open KM (Wt Sk)
def dueB (s : Sk) : Bool := match s.ws[KM.lst s.ws]? with | some x => x.f | none => false
theorem dueB_iff {s : Sk} : dueB s = true ↔ KM.due s := by
 unfold dueB KM.due
 rcases s.ws[KM.lst s.ws]? with _ | x <;> simp
def behB (s : Sk) : Bool := match s.ds.getLast?, s.ws[KM.lst s.ws]? with | some z, some x => TM.less z (KM.stp x) | _, _ => true
theorem behB_iff {s : Sk} : behB s = true ↔ KM.behind s := by
 unfold behB KM.behind
 rcases s.ds.getLast? with _ | z <;> rcases s.ws[KM.lst s.ws]? with _ | x <;> simp
theorem isDue_any (v : Value) (s : Sk) (w : World) (h : SkIs w v s) : Calls Tryz.prog 133 #[v] w (IsB (dueB s) w) := by
 obtain ⟨A, ca, B, cb, rfl, r1, d1⟩ := h
 have HR := h! (show dueB s = match s.ws[KM.lst s.ws]? with | some x => x.f | none => false from rfl)
 obtain ⟨b, hb⟩ : ∃ b, b = dueB s := ⟨_, rfl⟩
 rw [← hb] at HR ⊢
 clear hb
 obtain ⟨sc, ws, ds⟩ := s
 simp only at r1 d1 HR
 unfold vsk
 simp only
 obtain ⟨n, hna⟩ : ∃ n, n = ws.length := ⟨_, rfl⟩
 obtain ⟨m, hmb⟩ : ∃ m, m = ds.length := ⟨_, rfl⟩
 rw [← hna] at r1 ⊢
 rw [← hmb]
 have HL := h! hna
 have hn63 := r1.small
 have H := h! (fun W (hb : Below w.heap.size w W) => r1.below hb)
 clear hna hmb r1 d1
 have HB := h! (show Below w.heap.size w (w.alloc (.cells #[.int .i64 sc, .slice A n ca, .slice B m cb] 39)) from (Below.refl _ _).alloc n! _)
 have X := h! (Box.new w 39 #[.int .i64 sc, .slice A n ca, .slice B m cb])
 go_enter Tryz.func133, Tryz.ntmps133
 go_upto_region 1 with (fail)
 generalize w.alloc (.cells #[.int .i64 sc, .slice A n ca, .slice B m cb] 39) = w1 at HB X ⊢
 generalize w.heap.size = g0 at X ⊢
 obtain ⟨x0, x1, x2⟩ := box_sk X.out
 by_cases hn : n = 0
 ·have e : b = false := by
   have h1 := HR.out
   rw [List.getElem?_eq_none (by have := HL.out; omega)] at h1
   exact h1
  subst e
  subst hn
  go_wp2_with fail
  go_ret
  exact ⟨rfl, HB.out⟩
 ·have hn1 : (0 : Int) < (n : Int) := by omega
  have CM := h! (pmin_any A n ca ws w1 (H.out _ HB.out) (by intro e; rw [e] at HL; exact hn HL.out))
  go_wp2_with fail
  refine (CM.out).mono ?_
  rintro e w2 ⟨bl, o, B', d, x, rfl, hx, hat, rfl, hb⟩
  have HB2 := h! (bmore HB.out hb n!)
  have HF := h! (show b = x.f by rw [HR.out, hx])
  clear hx hat hb CM x0 x1 x2
  obtain ⟨⟨xi, xg, xt, xk, xb⟩, xm, xf⟩ := x
  simp only at HF
  unfold vwt
  simp only
  have hfd : ∀ W, (Instr.field 78 (.agg #[.int .i64 xi, .slice B' xg.length d, .int .i64 xt, .string xk, .string xb, .int .i64 xm, .bool xf]) 2).run Tryz.prog W = .ok (.bool xf) W := fun W => by kernel_rfl
  go_wp2_with fail
  go_ret
  exact ⟨by rw [HF.out]; rfl, HB2.out⟩
theorem isBehind_any (v : Value) (s : Sk) (w : World) (h : SkIs w v s) : Calls Tryz.prog 132 #[v] w (IsB (behB s) w) := by
 obtain ⟨A, ca, B, cb, rfl, r1, d1⟩ := h
 have HR := h! (show behB s = match s.ds.getLast?, s.ws[KM.lst s.ws]? with | some z, some x => TM.less z (KM.stp x) | _, _ => true from rfl)
 obtain ⟨b, hb⟩ : ∃ b, b = behB s := ⟨_, rfl⟩
 rw [← hb] at HR ⊢
 clear hb
 obtain ⟨sc, ws, ds⟩ := s
 simp only at r1 d1 HR
 unfold vsk
 simp only
 obtain ⟨n, hna⟩ : ∃ n, n = ws.length := ⟨_, rfl⟩
 obtain ⟨m, hmb⟩ : ∃ m, m = ds.length := ⟨_, rfl⟩
 rw [← hna] at r1 ⊢
 rw [← hmb] at d1 ⊢
 have HL := h! hna
 have HM := h! hmb
 have hn63 := r1.small
 have hm63 := d1.small
 have H := h! (fun W (hb : Below w.heap.size w W) => r1.below hb)
 have HD := h! (fun W (hb : Below w.heap.size w W) => d1.below hb)
 clear hna hmb r1 d1
 have HB := h! (show Below w.heap.size w (w.alloc (.cells #[.int .i64 sc, .slice A n ca, .slice B m cb] 39)) from (Below.refl _ _).alloc n! _)
 have X := h! (Box.new w 39 #[.int .i64 sc, .slice A n ca, .slice B m cb])
 go_enter Tryz.func132, Tryz.ntmps132
 go_upto_region 1 with (fail)
 generalize w.alloc (.cells #[.int .i64 sc, .slice A n ca, .slice B m cb] 39) = w1 at HB X ⊢
 generalize w.heap.size = g0 at X ⊢
 obtain ⟨x0, x1, x2⟩ := box_sk X.out
 by_cases hm : m = 0
 ·have e : b = true := by
   have h1 := HR.out
   rw [show ds = [] from List.eq_nil_of_length_eq_zero (by have := HM.out; omega)] at h1
   exact h1
  subst e
  subst hm
  go_wp2_with fail
  go_ret
  exact ⟨rfl, HB.out⟩
 have hm1 : ¬ ((m : Int) = 0) := by omega
 have hm2 : ((m : Int) == 0) = false := by simpa using hm1
 by_cases hn : n = 0
 ·have e : b = true := by
   have h1 := HR.out
   rw [List.getElem?_eq_none (l := ws) (by have := HL.out; omega)] at h1
   rcases hg : ds.getLast? with _ | z <;> (rw [hg] at h1; exact h1)
  subst e
  subst hn
  go_wp2_with fail
  go_ret
  exact ⟨rfl, HB.out⟩
 have hn1 : ¬ ((n : Int) = 0) := by omega
 have hn2 : ((n : Int) == 0) = false := by simpa using hn1
 obtain ⟨z, hz⟩ : ∃ z, ds[m - 1]? = some z := ⟨_, List.getElem?_eq_getElem (by have := HM.out; omega)⟩
 have HZ := h! (show ds.getLast? = some z by rw [List.getLast?_eq_getElem?, ← HM.out]; exact hz)
 obtain ⟨bl, o, rfl, _, hbl, a0, a1⟩ := (HD.out _ HB.out).at_ hz
 have CM := h! (fun W (hb : Below w1.heap.size w1 W) => pmin_any A n ca ws W (H.out _ (bmore HB.out hb n!)) (by intro e; rw [e] at HL; exact hn HL.out))
 have g2 : (m : Int) - 1 = ((m - 1 : Nat) : Int) := by omega
 have g3 : (0 : Int) ≤ ((m - 1 : Nat) : Int) := by omega
 have g4' : ((m - 1 : Nat) : Int) < (m : Int) := by omega
 have g5 : IntKind.i64.wrap ((m - 1 : Nat) : Int) = ((m - 1 : Nat) : Int) := by rw [IntKind.wrap_i64]; omega
 clear hz hbl
 obtain ⟨zt, zi⟩ := z
 simp only at a0 a1
 go_upto_region 3 with (fail)
 have HSS := h! (fun (w' : World) (h : Below w1.heap.size w1 w') => show w'.cell? ⟨g0, 0, none⟩ = some (.int .i64 sc) ∧ w'.cell? ⟨g0, 1, none⟩ = some (.slice A n ca) ∧ w'.cell? ⟨g0, 2, none⟩ = some (.slice (some ⟨bl, o, none⟩) m cb) ∧ w'.cell? ⟨bl, o + (m - 1) * 2, none⟩ = some (.int .i64 zt) ∧ w'.cell? ⟨bl, o + (m - 1) * 2 + 1, none⟩ = some (.int .i64 zi) from
  ⟨(h.cell (cell_block x0)).trans x0, (h.cell (cell_block x1)).trans x1, (h.cell (cell_block x2)).trans x2, (h.cell (cell_block a0)).trans a0, (h.cell (cell_block a1)).trans a1⟩)
 have bb1 : Below w1.heap.size w1 w1.drew := (Below.refl _ _).drew
 obtain ⟨ud, hud⟩ : ∃ ud, ud = w1.drew := ⟨_, rfl⟩
 refine wp_region_held_drew (S := fun w' => w'.cell? ⟨g0, 0, none⟩ = some (.int .i64 sc) ∧ w'.cell? ⟨g0, 1, none⟩ = some (.slice A n ca) ∧ w'.cell? ⟨g0, 2, none⟩ = some (.slice (some ⟨bl, o, none⟩) m cb) ∧ w'.cell? ⟨bl, o + (m - 1) * 2, none⟩ = some (.int .i64 zt) ∧ w'.cell? ⟨bl, o + (m - 1) * 2 + 1, none⟩ = some (.int .i64 zi)) (by kernel_rfl) (HSS.out _ bb1) (fun hHeld => ?_)
 rw [← hud] at bb1 hHeld ⊢
 clear hud
 refine qT 0 ?_; try simp only [Act.put, qq]
 refine qT 1 ?_; try simp only [Act.put, qq]
 refine qT 2 ?_; try simp only [Act.put, qq]
 refine qT 3 ?_; try simp only [Act.put, qq]
 refine qT 4 ?_; try simp only [Act.put, qq]
 refine qT 5 ?_; try simp only [Act.put, qq]
 refine qT 6 ?_; try simp only [Act.put, qq]
 refine qT 7 ?_; try simp only [Act.put, qq]
 refine qT 8 ?_; try simp only [Act.put, qq]
 refine qT 9 ?_; try simp only [Act.put, qq]
 refine qR 10 fun K hK => ?_
 go_simp
 refine (CM.out ud bb1).mono ?_
 rintro e w3 ⟨bl', o', B', d, x, rfl, hx, hat, rfl, hb⟩
 have bb2 := bmore bb1 hb n!
 have HF := h! (show b = TM.less ⟨zt, zi⟩ (KM.stp x) by rw [HR.out, HZ.out, hx])
 have C1 := h! (fun W => pstampOf_any B' d x W)
 have C2 := h! (fun W => pless_any ⟨zt, zi⟩ (KM.stp x) W)
 rw [← HF.out] at C2
 clear hx hat hb
 unfold vwt at C1
 unfold vwt
 unfold KM.stp at C1 C2
 unfold vsp at C2
 simp only at C2
 refine hK.out _ _ (HSS.out _ bb2) (fun hHeld => ?_)
 clear hK
 try simp only [Act.put, qq]
 refine qR 11 fun K hK => ?_
 go_simp
 refine (C1.out _).mono ?_
 rintro e w4 ⟨rfl, hb⟩
 have bb3 := bmore bb2 hb n!
 clear hb
 unfold vsp
 refine hK.out _ _ (HSS.out _ bb3) (fun hHeld => ?_)
 clear hK
 try simp only [Act.put, qq]
 refine qR 12 fun K hK => ?_
 go_simp
 refine (C2.out _).mono ?_
 rintro e w5 ⟨rfl, hb⟩
 have bb4 := bmore bb3 hb n!
 clear hb
 refine hK.out _ _ (HSS.out _ bb4) (fun hHeld => ?_)
 clear hK
 try simp only [Act.put, qq]
 refine qT 13 ?_; try simp only [Act.put, qq]
 refine wpAnyH_done (by kernel_rfl) ?_ _
 clear hHeld HSS
 clear CM C1 C2 x0 x1 x2 a0 a1
 go_wp2_with fail
 go_ret
 exact ⟨rfl, bmore HB.out bb4 n!⟩
theorem pnew15_any (w : World) : Calls Tryz.prog 40 #[] w (SkNew KM.zero w) := by
 have HB := h! (show Below w.heap.size w (w.alloc (.cells #[.int .i64 0, .slice none 0 0, .slice none 0 0] 39)) from (Below.refl _ _).alloc n! _)
 have X := h! (Box.new w 39 #[.int .i64 0, .slice none 0 0, .slice none 0 0])
 go_enter Tryz.func40, Tryz.ntmps40
 go_upto_region 1 with (fail)
 generalize w.alloc (.cells #[.int .i64 0, .slice none 0 0, .slice none 0 0] 39) = w1 at HB X ⊢
 obtain ⟨g0, hg0⟩ : ∃ g0, w.heap.size = g0 := ⟨_, rfl⟩
 rw [hg0] at X
 simp only [hg0]
 have HG := h! hg0
 clear hg0
 obtain ⟨x0, x1, x2, f0, f1, f2⟩ := X.out.three
 have ZP := h! (Box.put3 X.out (.int .i64 0) (.slice none 0 0) (.slice none 0 0))
 have ZL := h! (below_put3 HB.out (by have := HG.out; omega) (.int .i64 0) (.slice none 0 0) (.slice none 0 0) (g := g0))
 go_wp2_with fail
 obtain ⟨u0, u1, u2⟩ := box_sk ZP.out
 exact bodyPost_ret (v := .agg #[.int .i64 0, .slice none 0 0, .slice none 0 0]) (by simp [results, Tryz.results40, go_sem, u0, u1, u2]; try rfl) rfl ⟨_, rfl, skO_zero _ _, ZL.out⟩
section
variable {w0 W W' : World} {b p : Nat} {c : Int} {vW vD : Value} {ws : List Wt} {ds : List Sp}
theorem PtC.kept {S : TypeId → Prop} (h : PtC w0 b p c vW vD ws ds W) (hk : Kept S W W') (hb : Below b W W') (s1 : ¬ S 147) (s2 : ¬ S 78) (s3 : ¬ S 46) (s5 : ¬ S 3) : PtC w0 b p c vW vD ws ds W' :=
 ⟨h.bl.trans hb, ⟨h.ord.1, Nat.le_trans h.ord.2 hb.size⟩, hk.box _ _ _ s1 h.bx, KO.kept hk s5 s2 h.ow, hk.own h.od s3⟩
end
def AsQ (w0 : World) (b p : Nat) (S : Sk) (g : Int) (cm : Cm) (vD : Value) (e : Ending) (w' : World) : Prop :=
 (¬ (KM.asg S g cm ∧ KM.full S) ∧ e = .returned (.int .i64 0) ∧ ∃ vW, PtC w0 b p (KM.pre S g cm).c vW vD (KM.pre S g cm).ws S.ds w') ∨
  (KM.asg S g cm ∧ KM.full S ∧ e = .returned (.int .i64 9) ∧ ∃ vW, PtC w0 b p S.c vW vD S.ws S.ds w')
theorem asQ_no {w0 : World} {b p : Nat} {S : Sk} {g : Int} {cm : Cm} {vW vD : Value} {w' : World} (h : ¬ KM.asg S g cm) (ht : PtC w0 b p S.c vW vD S.ws S.ds w') : AsQ w0 b p S g cm vD (.returned (.int .i64 0)) w' := by
 refine .inl ⟨fun k => h k.1, rfl, vW, ?_⟩
 unfold KM.pre
 rw [if_neg h]
 exact ht
theorem passign15_any (w0 : World) (b p : Nat) (sc : Int) (A : Option Addr) (n cw : Nat) (B : Option Addr) (m cd : Nat) (ws : List Wt) (ds : List Sp) (g : Int) (cm : Cm) (hk1 : cm.k = 1) (P0 : Option Addr) (q0 : Nat) (W : World)
  (h : PtC w0 b p sc (.slice A n cw) (.slice B m cd) ws ds W) (hm : ∀ W', Below b w0 W' → RowIs W' P0 q0 cm.m.gs) (hgs : cm.m.gs.length ≤ 17592186044416) (hp : ws.Pairwise fun a b => a.m.id < b.m.id) (hn : ws.length ≤ 200) (hc : 0 ≤ sc ∧ sc ≤ 1073741824) :
  Calls Tryz.prog 105 #[.pointer (some ⟨p, 0, none⟩), .int .i64 g, .agg (mcells P0 q0 cm.m)] W (AsQ w0 b p ⟨sc, ws, ds⟩ g cm (.slice B m cd)) := by
 have hsl := h.ow.slice
 have HL := h! hsl.1
 have hn2 : n ≤ 200 := by have := hsl.1; omega
 obtain ⟨_, cd', ed, h4, h5⟩ := own_form h.od
 injection ed with ed1 ed2 ed3
 subst ed1 ed2 ed3
 clear h4 h5
 have KP1 := h! (fun W' (hb : Below W.heap.size W W') => pplace_any A n cw ws cm.m.id W' (hsl.2.2.2.r.below hb) hp (by omega))
 have KD1 := h! (fun W' (t : PtC w0 b p sc (.slice A n cw) (.slice B ds.length cd) ws ds W') => isDone_any p B ds.length cd ds cm.m.id W' ⟨rdg_own t.od, rfl, (by obtain ⟨_, _, e, g1, g2⟩ := own_form t.od; injection e with e1 e2 e3; subst e3; exact ⟨g1, g2⟩)⟩ (by have := t.bx.cell 2; simpa using this))
 have KC1 := h! (fun W' (hb : Below b w0 W') => contains_any P0 cm.m.gs.length q0 cm.m.gs g W' (hm W' hb).1 (by omega))
 have KL1 := h! (fun W' (hb : Below b w0 W') => cloneN_any P0 cm.m.gs.length q0 (ic cm.m.gs) W' (hm W' hb).1.g (ic_one _) hgs)
 have HWN := h! (KM.whit_iff (l := ws) (id := cm.m.id) hp)
 have HIN := h! (fun w (hw : w.m = cm.m) => show KM.whit ws cm.m.id = false → ws.take (KM.wpos ws cm.m.id) ++ [w] ++ ws.drop (KM.wpos ws cm.m.id) = KM.ins ws w from fun hh => by rw [← hw] at hh ⊢; exact KM.wpos_ins hp hh)
 have HKL := h! (KM.wpos_le ws cm.m.id)
 have HASG := h! (show KM.asg ⟨sc, ws, ds⟩ g cm ↔ KM.wat ws cm.m.id = ws.length ∧ KM.doneF ds cm.m.id = false ∧ QM.has cm.m.gs g = true from by
  unfold KM.asg QM.has
  simp [hk1])
 have HFUL := h! (show KM.full ⟨sc, ws, ds⟩ ↔ sc = 1073741824 ∨ n = 200 from by rw [hsl.1]; rfl)
 have HNO := h! (fun (k : ¬ KM.asg ⟨sc, ws, ds⟩ g cm) vW w' (t : PtC w0 b p sc vW (.slice B ds.length cd) ws ds w') => asQ_no (S := ⟨sc, ws, ds⟩) k t)
 have HFU := h! (fun (k : KM.asg ⟨sc, ws, ds⟩ g cm) (f : KM.full ⟨sc, ws, ds⟩) vW w' (t : PtC w0 b p sc vW (.slice B ds.length cd) ws ds w') => show AsQ w0 b p ⟨sc, ws, ds⟩ g cm (.slice B ds.length cd) (.returned (.int .i64 9)) w' from .inr ⟨k, f, rfl, vW, t⟩)
 have HYE := h! (fun (k : KM.asg ⟨sc, ws, ds⟩ g cm) (f : ¬ KM.full ⟨sc, ws, ds⟩) vW w' (t : PtC w0 b p (sc + 1) vW (.slice B ds.length cd) (KM.ins ws ⟨cm.m, sc + 1, false⟩) ds w') => show AsQ w0 b p ⟨sc, ws, ds⟩ g cm (.slice B ds.length cd) (.returned (.int .i64 0)) w' from .inl ⟨fun q => f q.2, rfl, vW, by unfold KM.pre; rw [if_pos k]; exact t⟩)
 obtain ⟨AS, hAS⟩ : ∃ AS, AS = KM.asg ⟨sc, ws, ds⟩ g cm := ⟨_, rfl⟩
 obtain ⟨FU, hFU⟩ : ∃ FU, FU = KM.full ⟨sc, ws, ds⟩ := ⟨_, rfl⟩
 obtain ⟨QQ, hQQ⟩ : ∃ QQ, QQ = AsQ w0 b p ⟨sc, ws, ds⟩ g cm (.slice B ds.length cd) := ⟨_, rfl⟩
 rw [← hQQ] at HNO HFU HYE ⊢
 rw [← hAS] at HASG HNO HFU HYE
 rw [← hFU] at HFUL HFU HYE
 clear hAS hFU hQQ hk1 hsl hp
 obtain ⟨mg, hmg⟩ : ∃ mg, mg = cm.m := ⟨_, rfl⟩
 rw [← hmg] at KP1 KD1 KC1 KL1 HWN HIN HKL HASG HYE hgs hm ⊢
 clear hmg cm
 obtain ⟨k, hk⟩ : ∃ k, k = KM.wpos ws mg.id := ⟨_, rfl⟩
 obtain ⟨R, hR⟩ : ∃ R, R = KM.whit ws mg.id := ⟨_, rfl⟩
 rw [← hk] at KP1 HIN HKL
 rw [← hR] at KP1 HWN HIN
 obtain ⟨d, hd⟩ : ∃ d, d = KM.doneF ds mg.id := ⟨_, rfl⟩
 rw [← hd] at KD1 HASG
 obtain ⟨hs, hhs⟩ : ∃ hs, hs = QM.has mg.gs g := ⟨_, rfl⟩
 rw [← hhs] at KC1 HASG
 clear hk hR hd hhs
 have HT := h! h
 have hgs64 : mg.gs.length ≤ 9223372036854775807 := by omega
 have HORD := h! (show b ≤ W.heap.size from HT.out.ord.2)
 clear h hm
 obtain ⟨mi, gs, mt, mk, mb⟩ := mg
 unfold mcells
 simp only at KP1 KD1 KC1 KL1 HWN HASG hgs hgs64 ⊢
 have HB := h! (show Below W.heap.size W (W.alloc (.cells #[.int .i64 mi, .slice P0 gs.length q0, .int .i64 mt, .string mk, .string mb] 33)) from (Below.refl _ _).alloc n! _)
 have Y := h! (Box.new W 33 #[.int .i64 mi, .slice P0 gs.length q0, .int .i64 mt, .string mk, .string mb])
 go_enter Tryz.func105, Tryz.ntmps105
 go_upto_region 1 with (fail)
 replace HT := h! (HT.out.below HB.out)
 have HBW := HORD
 generalize W.alloc (.cells #[.int .i64 mi, .slice P0 gs.length q0, .int .i64 mt, .string mk, .string mb] 33) = w1 at HB Y HT ⊢
 obtain ⟨g5, hg5⟩ : ∃ g5, W.heap.size = g5 := ⟨_, rfl⟩
 rw [hg5] at Y HBW
 simp only [hg5]
 clear hg5
 obtain ⟨x0, x1, x2⟩ := box_sk HT.out.bx
 obtain ⟨y0, y1, y2, y3, y4⟩ := (box_mg5 Y.out).1
 have HSS := h! (fun (w' : World) (h : Below w1.heap.size w1 w') => show w'.cell? ⟨p, 1, none⟩ = some (.slice A n cw) ∧ w'.cell? ⟨g5, 0, none⟩ = some (.int .i64 mi) from
  ⟨(h.cell (cell_block x1)).trans x1, (h.cell (cell_block y0)).trans y0⟩)
 have bb1 : Below w1.heap.size w1 w1.drew := (Below.refl _ _).drew
 obtain ⟨ud, hud⟩ : ∃ ud, ud = w1.drew := ⟨_, rfl⟩
 refine wp_region_held_drew (S := fun w' => w'.cell? ⟨p, 1, none⟩ = some (.slice A n cw) ∧ w'.cell? ⟨g5, 0, none⟩ = some (.int .i64 mi)) (by kernel_rfl) (HSS.out _ bb1) (fun hHeld => ?_)
 rw [← hud] at bb1 hHeld ⊢
 clear hud
 refine qT 0 ?_; try simp only [Act.put, qq]
 refine qT 1 ?_; try simp only [Act.put, qq]
 refine qT 2 ?_; try simp only [Act.put, qq]
 refine qT 3 ?_; try simp only [Act.put, qq]
 refine qT 4 ?_; try simp only [Act.put, qq]
 refine qT 5 ?_; try simp only [Act.put, qq]
 refine qR 6 fun K hK => ?_
 go_simp
 refine (KP1.out ud (bmore HB.out bb1 n!)).mono ?_
 rintro e w2 ⟨rfl, hb⟩
 have bb2 := bmore bb1 hb n!
 clear hb
 refine hK.out _ _ (HSS.out _ bb2) (fun hHeld => ?_)
 clear hK
 try simp only [Act.put, qq]
 refine qT 7 ?_; try simp only [Act.put, qq]
 refine qT 8 ?_; try simp only [Act.put, qq]
 refine qT 9 ?_; try simp only [Act.put, qq]
 refine qT 10 ?_; try simp only [Act.put, qq]
 refine qT 11 ?_; try simp only [Act.put, qq]
 refine wpAnyH_done (by kernel_rfl) ?_ _
 clear hHeld HSS
 have HB2 := h! (bmore HB.out bb2 n!)
 have HT2 := h! (HT.out.below bb2)
 have Y2 := h! (Y.out.below bb2 Y.out.lt)
 clear KP1 x0 x1 x2 y0 y1 y2 y3 y4
 obtain ⟨x0, x1, x2⟩ := box_sk HT2.out.bx
 obtain ⟨y0, y1, y2, y3, y4⟩ := (box_mg5 Y2.out).1
 rcases R with _ | _
 rotate_left
 ·have hna : ¬ AS := fun q => by
   have h1 := (HASG.out.1 q).1
   exact HWN.out.1 rfl h1
  go_wp2_with fail
  exact HNO.out hna _ _ HT2.out
 have hwat : KM.wat ws mi = ws.length := Classical.byContradiction fun q => by have := HWN.out.2 q; cases this
 have HWAT := h! hwat
 clear hwat
 go_wp2_with fail
 refine (KD1.out _ HT2.out).mono ?_
 rintro e w3 ⟨rfl, hb⟩
 have HB3 := h! (bmore HB2.out hb n!)
 have HT3 := h! (HT2.out.below hb)
 have Y3 := h! (Y2.out.below hb Y2.out.lt)
 clear hb KD1 x0 x1 x2 y0 y1 y2 y3 y4
 obtain ⟨x0, x1, x2⟩ := box_sk HT3.out.bx
 obtain ⟨y0, y1, y2, y3, y4⟩ := (box_mg5 Y3.out).1
 rcases d with _ | _
 rotate_left
 ·have hna : ¬ AS := fun q => by
   have h1 := (HASG.out.1 q).2.1
   cases h1
  go_wp2_with fail
  exact HNO.out hna _ _ HT3.out
 go_wp2_with fail
 refine (KC1.out _ HT3.out.bl).mono ?_
 rintro e w4 ⟨rfl, rfl⟩
 rcases hs with _ | _
 ·have hna : ¬ AS := fun q => by
   have h1 := (HASG.out.1 q).2.2
   cases h1
  go_wp2_with fail
  exact HNO.out hna _ _ HT3.out
 have HAS := h! (show AS from HASG.out.2 ⟨HWAT.out, (by first | rfl | trivial), (by first | rfl | trivial)⟩)
 by_cases hf1 : sc = 1073741824
 ·have HF := h! (HFUL.out.2 (.inl hf1))
  subst hf1
  go_wp2_with fail
  exact HFU.out HAS.out HF.out _ _ HT3.out
 by_cases hf2 : n = 200
 ·have HF := h! (HFUL.out.2 (.inr hf2))
  subst hf2
  have hf3 : (sc == 1073741824) = false := by simpa using hf1
  go_wp2_with fail
  exact HFU.out HAS.out HF.out _ _ HT3.out
 have HF := h! (show ¬ FU from fun q => (HFUL.out.1 q).elim hf1 hf2)
 have hf3 : (sc == 1073741824) = false := by simpa using hf1
 have hf4 : ((n : Int) == 200) = false := by simp; omega
 have hf5 : ¬ ((n : Int) = 200) := by omega
 have hw1 : IntKind.i64.wrap (sc + 1) = sc + 1 := by rw [IntKind.wrap_i64]; omega
 have z0 := HT3.out.bx.frozen 0
 go_upto_region 7 with (fail)
 have HT5 := h! (HT3.out.setC (sc + 1)).1
 have KS5 := h! (HT3.out.setC (sc + 1)).2
 have Y5 := h! (KS5.out.box _ _ _ (by unfold isC; decide) Y3.out)
 clear hf1 hf2 hf3 hf4 hf5 hw1 z0 x0 x1 x2 y0 y1 y2 y3 y4
 generalize w3.setCell ⟨p, 0, none⟩ (.int .i64 (sc + 1)) = w5 at HT5 Y5 ⊢
 clear KS5 HT3 Y3 HB3
 obtain ⟨y0, y1, y2, y3, y4⟩ := (box_mg5 Y5.out).1
 go_wp2_with fail
 refine (KL1.out _ HT5.out.bl).mono ?_
 rintro e w6 ⟨A6, c6, rfl, o6, hb6⟩
 obtain ⟨_, c6', ed6, g61, g62⟩ := own_form o6
 injection ed6 with ed1 ed2 ed3
 subst ed1 ed3
 have HT6 := h! (HT5.out.below hb6)
 have Y6 := h! (Y5.out.below hb6 Y5.out.lt)
 have HR6 := h! ((rowGe_own o6 rfl g61 g62).mono HT5.out.ord.2)
 clear o6 hb6 g61 g62 y0 y1 y2 y3 y4 KL1 ed2
 obtain ⟨⟨y0, y1, y2, y3, y4⟩, e0, e1, e2, e3, e4⟩ := box_mg5 Y6.out
 go_upto_region 8 with (fail)
 have HK7 := h! (Kept.set (S := fun e => e = 33) Y6.out rfl (i := 1) (.slice A6 gs.length c6))
 have HT7 := h! (HT6.out.kept HK7.out ((Below.refl b w6).setCell (p := ⟨g5, 1, none⟩) HBW.out _) (by decide) (by decide) (by decide) (by decide))
 have HR7 := h! (rowGe_kept HK7.out (by decide) HR6.out)
 have Y7 := h! (show Box (w6.setCell ⟨g5, 1, none⟩ (.slice A6 gs.length c6)) g5 33 #[.int .i64 mi, .slice A6 gs.length c6, .int .i64 mt, .string mk, .string mb] by have := Y6.out.stored 1 (.slice A6 gs.length c6); simpa using this)
 clear y0 y1 y2 y3 y4 e0 e1 e2 e3 e4
 generalize w6.setCell ⟨g5, 1, none⟩ (.slice A6 gs.length c6) = w7 at HT7 HR7 Y7 ⊢
 clear HT6 Y6 HR6 HK7 HT5 Y5 w6
 obtain ⟨x0, x1, x2⟩ := box_sk HT7.out.bx
 obtain ⟨y0, y1, y2, y3, y4⟩ := (box_mg5 Y7.out).1
 have HSS := h! (fun (w' : World) (h : Below w7.heap.size w7 w') => show w'.cell? ⟨p, 0, none⟩ = some (.int .i64 (sc + 1)) ∧ w'.cell? ⟨g5, 0, none⟩ = some (.int .i64 mi) ∧ w'.cell? ⟨g5, 1, none⟩ = some (.slice A6 gs.length c6) ∧ w'.cell? ⟨g5, 2, none⟩ = some (.int .i64 mt) ∧ w'.cell? ⟨g5, 3, none⟩ = some (.string mk) ∧ w'.cell? ⟨g5, 4, none⟩ = some (.string mb) from
  ⟨(h.cell (cell_block x0)).trans x0, (h.cell (cell_block y0)).trans y0, (h.cell (cell_block y1)).trans y1, (h.cell (cell_block y2)).trans y2, (h.cell (cell_block y3)).trans y3, (h.cell (cell_block y4)).trans y4⟩)
 have bb1 : Below w7.heap.size w7 w7.drew := (Below.refl _ _).drew
 have HSP := h! (fun (w' : World) (vW vD : Value) (h1 : Box w' p 147 #[.int .i64 (sc + 1), vW, vD]) (h2 : Box w' g5 33 #[.int .i64 mi, .slice A6 gs.length c6, .int .i64 mt, .string mk, .string mb]) => show w'.cell? ⟨p, 0, none⟩ = some (.int .i64 (sc + 1)) ∧ w'.cell? ⟨g5, 0, none⟩ = some (.int .i64 mi) ∧ w'.cell? ⟨g5, 1, none⟩ = some (.slice A6 gs.length c6) ∧ w'.cell? ⟨g5, 2, none⟩ = some (.int .i64 mt) ∧ w'.cell? ⟨g5, 3, none⟩ = some (.string mk) ∧ w'.cell? ⟨g5, 4, none⟩ = some (.string mb) from ⟨h1.cell 0, h2.cell 0, h2.cell 1, h2.cell 2, h2.cell 3, h2.cell 4⟩)
 obtain ⟨ud, hud⟩ : ∃ ud, ud = w7.drew := ⟨_, rfl⟩
 refine wp_region_held_drew (S := fun w' => w'.cell? ⟨p, 0, none⟩ = some (.int .i64 (sc + 1)) ∧ w'.cell? ⟨g5, 0, none⟩ = some (.int .i64 mi) ∧ w'.cell? ⟨g5, 1, none⟩ = some (.slice A6 gs.length c6) ∧ w'.cell? ⟨g5, 2, none⟩ = some (.int .i64 mt) ∧ w'.cell? ⟨g5, 3, none⟩ = some (.string mk) ∧ w'.cell? ⟨g5, 4, none⟩ = some (.string mb)) (by kernel_rfl) (HSS.out _ bb1) (fun hHeld => ?_)
 rw [← hud] at bb1 hHeld ⊢
 clear hud x0 x1 x2 y0 y1 y2 y3 y4
 refine qT 0 ?_; try simp only [Act.put, qq]
 refine qT 1 ?_; try simp only [Act.put, qq]
 refine qT 2 ?_; try simp only [Act.put, qq]
 refine qT 3 ?_; try simp only [Act.put, qq]
 refine qT 5 ?_; try simp only [Act.put, qq]
 refine qT 6 ?_; try simp only [Act.put, qq]
 refine qT 7 ?_; try simp only [Act.put, qq]
 refine qT 8 ?_; try simp only [Act.put, qq]
 refine qT 9 ?_; try simp only [Act.put, qq]
 refine qT 10 ?_; try simp only [Act.put, qq]
 refine qT 11 ?_; try simp only [Act.put, qq]
 refine wpAnyH_ready (rs := [4, 12]) (by kernel_rfl) (by simp) ?_
 refine AllReadyH.cons rfl (fun K hK => ?_) (AllReadyH.cons rfl (fun K hK => ?_) AllReadyH.nil)
 ·have hx1 := (HT7.out.below bb1).bx.cell 1
  simp at hx1
  go_simp
  refine hK.out _ _ (HSS.out _ bb1) (fun hHeld => ?_)
  clear hK hx1
  try simp only [Act.put, qq]
  refine qR 12 fun K hK => ?_
  go_simp
  have HV := h! (Box.new ud 78 #[.int .i64 mi, .slice A6 gs.length c6, .int .i64 mt, .string mk, .string mb, .int .i64 (sc + 1), .bool false])
  have bb3 : Below w7.heap.size w7 (ud.alloc (.cells #[.int .i64 mi, .slice A6 gs.length c6, .int .i64 mt, .string mk, .string mb, .int .i64 (sc + 1), .bool false] 78)) := bmore bb1 ((Below.refl _ _).alloc n! _) n!
  have hne3 : w7.heap.size ≤ ud.heap.size := bb1.size
  refine hK.out _ _ (HSS.out _ bb3) (fun hHeld => ?_)
  clear hK
  try simp only [Act.put, qq]
  generalize ud.alloc (.cells #[.int .i64 mi, .slice A6 gs.length c6, .int .i64 mt, .string mk, .string mb, .int .i64 (sc + 1), .bool false] 78) = w8 at HV bb3 hHeld ⊢
  generalize ud.heap.size = blk at HV hne3 ⊢
  refine qR 13 fun K hK => ?_
  go_simp
  have HT8 := h! (HT7.out.below bb3)
  obtain ⟨es, hes, hoe, hre⟩ := HT8.out.ow
  have hln : es.length = n := by rw [HL.out, ← hes, List.length_map]
  rw [hln] at hoe
  have hvb : Value.ownBlock (.slice A n cw) ≠ some blk := fun q => by
   have h1 := HT7.out.ow.blk (g := blk) q
   omega
  refine (insW_any b n cw k blk A (flat (exc KW) es) (KW.cel A6 c6 ⟨⟨mi, gs, mt, mk, mb⟩, sc + 1, false⟩) w8 (by have := HL.out; have := HKL.out; omega) (by omega) HT8.out.ord.2 hoe HV.out rfl hvb (exc_one KW es) (KW.one _ _ _)).mono ?_
  rintro e w9 ⟨A9, c9, rfl, o9, g9, _⟩
  have HKO := h! (kO_ins (K := KW) (b := b) (T := 78) (v := .slice A n cw) (w := w8) (w' := w9) (x := ⟨⟨mi, gs, mt, mk, mb⟩, sc + 1, false⟩) (A := A6) (c := c6) es hln (by have := HL.out; have := HKL.out; omega) hre (HR7.out.below bb3) (fun ad ea hn0 q => by
   obtain ⟨g', cur, e1, _, e3, _⟩ := (HR7.out.below bb3).3 hn0
   rw [ea] at e1
   injection e1 with e1
   rw [e1] at q
   exact own_ne hoe e3 (by decide) q.symm) g9 o9 (by decide))
  rw [hes] at HKO
  have hkp9 := Kept.grown (S := fun e => e = 78) hoe rfl g9
  have hb9 := hkp9.box _ _ _ (by decide) HT8.out.bx
  have hq9 := hkp9.box _ _ _ (by decide) (Y7.out.below bb3 Y7.out.lt)
  refine hK.out _ _ (HSP.out _ _ _ hb9 hq9) (fun hHeld => ?_)
  clear hK
  try simp only [Act.put, qq]
  refine qT 14 ?_; try simp only [Act.put, qq]
  refine qT 15 ?_; try simp only [Act.put, qq]
  have s2 := hb9.cell 1
  have g2 := hb9.frozen 1
  simp at s2
  refine qR 16 fun K hK => ?_
  go_simp
  have HNW := h! (HT7.out.newW bb3 g9 HKO.out)
  refine hK.out _ _ (HSP.out _ _ _ HNW.out.1.bx ((Kept.set (S := fun e => e = 147) hb9 rfl _).box _ _ _ (by decide) hq9)) (fun hHeld => ?_)
  clear hK
  try simp only [Act.put, qq]
  refine wpAnyH_done (by kernel_rfl) ?_ _
  go_wp2_with fail
  exact HYE.out HAS.out HF.out _ _ (by have h1 := HIN.out ⟨⟨mi, gs, mt, mk, mb⟩, sc + 1, false⟩ rfl (by first | rfl | trivial); rw [← h1]; exact HNW.out.1)
 ·go_simp
  have HV := h! (Box.new ud 78 #[.int .i64 mi, .slice A6 gs.length c6, .int .i64 mt, .string mk, .string mb, .int .i64 (sc + 1), .bool false])
  have bb3 : Below w7.heap.size w7 (ud.alloc (.cells #[.int .i64 mi, .slice A6 gs.length c6, .int .i64 mt, .string mk, .string mb, .int .i64 (sc + 1), .bool false] 78)) := bmore bb1 ((Below.refl _ _).alloc n! _) n!
  have hne3 : w7.heap.size ≤ ud.heap.size := bb1.size
  refine hK.out _ _ (HSS.out _ bb3) (fun hHeld => ?_)
  clear hK
  try simp only [Act.put, qq]
  generalize ud.alloc (.cells #[.int .i64 mi, .slice A6 gs.length c6, .int .i64 mt, .string mk, .string mb, .int .i64 (sc + 1), .bool false] 78) = w8 at HV bb3 hHeld ⊢
  generalize ud.heap.size = blk at HV hne3 ⊢
  refine qR 4 fun K hK => ?_
  have hx1 := (HT7.out.below bb3).bx.cell 1
  simp at hx1
  go_simp
  refine hK.out _ _ (HSS.out _ bb3) (fun hHeld => ?_)
  clear hK hx1
  try simp only [Act.put, qq]
  refine qR 13 fun K hK => ?_
  go_simp
  have HT8 := h! (HT7.out.below bb3)
  obtain ⟨es, hes, hoe, hre⟩ := HT8.out.ow
  have hln : es.length = n := by rw [HL.out, ← hes, List.length_map]
  rw [hln] at hoe
  have hvb : Value.ownBlock (.slice A n cw) ≠ some blk := fun q => by
   have h1 := HT7.out.ow.blk (g := blk) q
   omega
  refine (insW_any b n cw k blk A (flat (exc KW) es) (KW.cel A6 c6 ⟨⟨mi, gs, mt, mk, mb⟩, sc + 1, false⟩) w8 (by have := HL.out; have := HKL.out; omega) (by omega) HT8.out.ord.2 hoe HV.out rfl hvb (exc_one KW es) (KW.one _ _ _)).mono ?_
  rintro e w9 ⟨A9, c9, rfl, o9, g9, _⟩
  have HKO := h! (kO_ins (K := KW) (b := b) (T := 78) (v := .slice A n cw) (w := w8) (w' := w9) (x := ⟨⟨mi, gs, mt, mk, mb⟩, sc + 1, false⟩) (A := A6) (c := c6) es hln (by have := HL.out; have := HKL.out; omega) hre (HR7.out.below bb3) (fun ad ea hn0 q => by
   obtain ⟨g', cur, e1, _, e3, _⟩ := (HR7.out.below bb3).3 hn0
   rw [ea] at e1
   injection e1 with e1
   rw [e1] at q
   exact own_ne hoe e3 (by decide) q.symm) g9 o9 (by decide))
  rw [hes] at HKO
  have hkp9 := Kept.grown (S := fun e => e = 78) hoe rfl g9
  have hb9 := hkp9.box _ _ _ (by decide) HT8.out.bx
  have hq9 := hkp9.box _ _ _ (by decide) (Y7.out.below bb3 Y7.out.lt)
  refine hK.out _ _ (HSP.out _ _ _ hb9 hq9) (fun hHeld => ?_)
  clear hK
  try simp only [Act.put, qq]
  refine qT 14 ?_; try simp only [Act.put, qq]
  refine qT 15 ?_; try simp only [Act.put, qq]
  have s2 := hb9.cell 1
  have g2 := hb9.frozen 1
  simp at s2
  refine qR 16 fun K hK => ?_
  go_simp
  have HNW := h! (HT7.out.newW bb3 g9 HKO.out)
  refine hK.out _ _ (HSP.out _ _ _ HNW.out.1.bx ((Kept.set (S := fun e => e = 147) hb9 rfl _).box _ _ _ (by decide) hq9)) (fun hHeld => ?_)
  clear hK
  try simp only [Act.put, qq]
  refine wpAnyH_done (by kernel_rfl) ?_ _
  go_wp2_with fail
  exact HYE.out HAS.out HF.out _ _ (by have h1 := HIN.out ⟨⟨mi, gs, mt, mk, mb⟩, sc + 1, false⟩ rfl (by first | rfl | trivial); rw [← h1]; exact HNW.out.1)
end KP
end Go.Proofs.YteebeiaokfenmaaGreat
