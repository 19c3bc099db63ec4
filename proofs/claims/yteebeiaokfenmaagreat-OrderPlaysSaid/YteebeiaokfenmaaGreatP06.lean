/- Contracts of functions, P06: each as its theorem says. -/
import Derived.Test.YteebeiaokfenmaaGreatP03
import Derived.BigRegion
import Derived.Test.YteebeiaokfenmaaGreatP01
set_option linter.unusedVariables false
set_option linter.unusedSimpArgs false
set_option maxRecDepth 100000
set_option maxHeartbeats 16000000
namespace Go.Proofs.YteebeiaokfenmaaGreat
namespace KP
open Go.RowKit CP TP
open CM (Mg Cm)
open TM (Sp)
open KM (Wt Sk)
def dueB (s : Sk) : Bool := match s.ws[KM.lst s.ws]? with | some x => x.f | none => false
theorem dueB_iff {s : Sk} : dueB s = true ↔ KM.due s := by
 unfold dueB KM.due
 rcases s.ws[KM.lst s.ws]? with _ | x <;> simp
def behB (s : Sk) : Bool := match s.ds.getLast?, s.ws[KM.lst s.ws]? with | some z, some x => TM.less z (KM.stp x) | _, _ => true
theorem behB_iff {s : Sk} : behB s = true ↔ KM.behind s := by
 unfold behB KM.behind
 rcases s.ds.getLast? with _ | z <;> rcases s.ws[KM.lst s.ws]? with _ | x <;> simp
theorem isDue_any (v : Value) (s : Sk) (w : World) (h : SkIs w v s) : Calls Tryz.prog 133 #[v] w (IsB (dueB s) w) := by
 obtain ⟨A, ca, B, cb, rfl, r1, d1⟩ := h
 have HR := h! (show dueB s = match s.ws[KM.lst s.ws]? with | some x => x.f | none => false from rfl)
 obtain ⟨b, hb⟩ : ∃ b, b = dueB s := ⟨_, rfl⟩
 rw [← hb] at HR ⊢
 clear hb
 obtain ⟨sc, ws, ds⟩ := s
 simp only at r1 d1 HR
 unfold vsk
 simp only
 obtain ⟨n, hna⟩ : ∃ n, n = ws.length := ⟨_, rfl⟩
 obtain ⟨m, hmb⟩ : ∃ m, m = ds.length := ⟨_, rfl⟩
 rw [← hna] at r1 ⊢
 rw [← hmb]
 have HL := h! hna
 have hn63 := r1.small
 have H := h! (fun W (hb : Below w.heap.size w W) => r1.below hb)
 clear hna hmb r1 d1
 have HB := h! (show Below w.heap.size w (w.alloc (.cells #[.int .i64 sc, .slice A n ca, .slice B m cb] 39)) from (Below.refl _ _).alloc n! _)
 have X := h! (Box.new w 39 #[.int .i64 sc, .slice A n ca, .slice B m cb])
 go_enter Tryz.func133, Tryz.ntmps133
 go_upto_region 1 with (fail)
 generalize w.alloc (.cells #[.int .i64 sc, .slice A n ca, .slice B m cb] 39) = w1 at HB X ⊢
 generalize w.heap.size = g0 at X ⊢
 obtain ⟨x0, x1, x2⟩ := box_sk X.out
 by_cases hn : n = 0
 ·have e : b = false := by
   have h1 := HR.out
   rw [List.getElem?_eq_none (by have := HL.out; omega)] at h1
   exact h1
  subst e
  subst hn
  go_wp2_with fail
  go_ret
  exact ⟨rfl, HB.out⟩
 ·have hn1 : (0 : Int) < (n : Int) := by omega
  have CM := h! (pmin_any A n ca ws w1 (H.out _ HB.out) (by intro e; rw [e] at HL; exact hn HL.out))
  go_wp2_with fail
  refine (CM.out).mono ?_
  rintro e w2 ⟨bl, o, B', d, x, rfl, hx, hat, rfl, hb⟩
  have HB2 := h! (bmore HB.out hb n!)
  have HF := h! (show b = x.f by rw [HR.out, hx])
  clear hx hat hb CM x0 x1 x2
  obtain ⟨⟨xi, xg, xt, xk, xb⟩, xm, xf⟩ := x
  simp only at HF
  unfold vwt
  simp only
  have hfd : ∀ W, (Instr.field 78 (.agg #[.int .i64 xi, .slice B' xg.length d, .int .i64 xt, .string xk, .string xb, .int .i64 xm, .bool xf]) 2).run Tryz.prog W = .ok (.bool xf) W := fun W => by kernel_rfl
  go_wp2_with fail
  go_ret
  exact ⟨by rw [HF.out]; rfl, HB2.out⟩
theorem isBehind_any (v : Value) (s : Sk) (w : World) (h : SkIs w v s) : Calls Tryz.prog 132 #[v] w (IsB (behB s) w) := by
 obtain ⟨A, ca, B, cb, rfl, r1, d1⟩ := h
 have HR := h! (show behB s = match s.ds.getLast?, s.ws[KM.lst s.ws]? with | some z, some x => TM.less z (KM.stp x) | _, _ => true from rfl)
 obtain ⟨b, hb⟩ : ∃ b, b = behB s := ⟨_, rfl⟩
 rw [← hb] at HR ⊢
 clear hb
 obtain ⟨sc, ws, ds⟩ := s
 simp only at r1 d1 HR
 unfold vsk
 simp only
 obtain ⟨n, hna⟩ : ∃ n, n = ws.length := ⟨_, rfl⟩
 obtain ⟨m, hmb⟩ : ∃ m, m = ds.length := ⟨_, rfl⟩
 rw [← hna] at r1 ⊢
 rw [← hmb] at d1 ⊢
 have HL := h! hna
 have HM := h! hmb
 have hn63 := r1.small
 have hm63 := d1.small
 have H := h! (fun W (hb : Below w.heap.size w W) => r1.below hb)
 have HD := h! (fun W (hb : Below w.heap.size w W) => d1.below hb)
 clear hna hmb r1 d1
 have HB := h! (show Below w.heap.size w (w.alloc (.cells #[.int .i64 sc, .slice A n ca, .slice B m cb] 39)) from (Below.refl _ _).alloc n! _)
 have X := h! (Box.new w 39 #[.int .i64 sc, .slice A n ca, .slice B m cb])
 go_enter Tryz.func132, Tryz.ntmps132
 go_upto_region 1 with (fail)
 generalize w.alloc (.cells #[.int .i64 sc, .slice A n ca, .slice B m cb] 39) = w1 at HB X ⊢
 generalize w.heap.size = g0 at X ⊢
 obtain ⟨x0, x1, x2⟩ := box_sk X.out
 by_cases hm : m = 0
 ·have e : b = true := by
   have h1 := HR.out
   rw [show ds = [] from List.eq_nil_of_length_eq_zero (by have := HM.out; omega)] at h1
   exact h1
  subst e
  subst hm
  go_wp2_with fail
  go_ret
  exact ⟨rfl, HB.out⟩
 have hm1 : ¬ ((m : Int) = 0) := by omega
 have hm2 : ((m : Int) == 0) = false := by simpa using hm1
 by_cases hn : n = 0
 ·have e : b = true := by
   have h1 := HR.out
   rw [List.getElem?_eq_none (l := ws) (by have := HL.out; omega)] at h1
   rcases hg : ds.getLast? with _ | z <;> (rw [hg] at h1; exact h1)
  subst e
  subst hn
  go_wp2_with fail
  go_ret
  exact ⟨rfl, HB.out⟩
 have hn1 : ¬ ((n : Int) = 0) := by omega
 have hn2 : ((n : Int) == 0) = false := by simpa using hn1
 obtain ⟨z, hz⟩ : ∃ z, ds[m - 1]? = some z := ⟨_, List.getElem?_eq_getElem (by have := HM.out; omega)⟩
 have HZ := h! (show ds.getLast? = some z by rw [List.getLast?_eq_getElem?, ← HM.out]; exact hz)
 obtain ⟨bl, o, rfl, _, hbl, a0, a1⟩ := (HD.out _ HB.out).at_ hz
 have CM := h! (fun W (hb : Below w1.heap.size w1 W) => pmin_any A n ca ws W (H.out _ (bmore HB.out hb n!)) (by intro e; rw [e] at HL; exact hn HL.out))
 have g2 : (m : Int) - 1 = ((m - 1 : Nat) : Int) := by omega
 have g3 : (0 : Int) ≤ ((m - 1 : Nat) : Int) := by omega
 have g4' : ((m - 1 : Nat) : Int) < (m : Int) := by omega
 have g5 : IntKind.i64.wrap ((m - 1 : Nat) : Int) = ((m - 1 : Nat) : Int) := by rw [IntKind.wrap_i64]; omega
 clear hz hbl
 obtain ⟨zt, zi⟩ := z
 simp only at a0 a1
 go_upto_region 3 with (fail)
 have HSS := h! (fun (w' : World) (h : Below w1.heap.size w1 w') => show w'.cell? ⟨g0, 0, none⟩ = some (.int .i64 sc) ∧ w'.cell? ⟨g0, 1, none⟩ = some (.slice A n ca) ∧ w'.cell? ⟨g0, 2, none⟩ = some (.slice (some ⟨bl, o, none⟩) m cb) ∧ w'.cell? ⟨bl, o + (m - 1) * 2, none⟩ = some (.int .i64 zt) ∧ w'.cell? ⟨bl, o + (m - 1) * 2 + 1, none⟩ = some (.int .i64 zi) from
  ⟨(h.cell (cell_block x0)).trans x0, (h.cell (cell_block x1)).trans x1, (h.cell (cell_block x2)).trans x2, (h.cell (cell_block a0)).trans a0, (h.cell (cell_block a1)).trans a1⟩)
 have bb1 : Below w1.heap.size w1 w1.drew := (Below.refl _ _).drew
 obtain ⟨ud, hud⟩ : ∃ ud, ud = w1.drew := ⟨_, rfl⟩
 refine wp_region_held_drew (S := fun w' => w'.cell? ⟨g0, 0, none⟩ = some (.int .i64 sc) ∧ w'.cell? ⟨g0, 1, none⟩ = some (.slice A n ca) ∧ w'.cell? ⟨g0, 2, none⟩ = some (.slice (some ⟨bl, o, none⟩) m cb) ∧ w'.cell? ⟨bl, o + (m - 1) * 2, none⟩ = some (.int .i64 zt) ∧ w'.cell? ⟨bl, o + (m - 1) * 2 + 1, none⟩ = some (.int .i64 zi)) (by kernel_rfl) (HSS.out _ bb1) (fun hHeld => ?_)
 rw [← hud] at bb1 hHeld ⊢
 clear hud
 refine qT 0 ?_; try simp only [Act.put, qq]
 refine qT 1 ?_; try simp only [Act.put, qq]
 refine qT 2 ?_; try simp only [Act.put, qq]
 refine qT 3 ?_; try simp only [Act.put, qq]
 refine qT 4 ?_; try simp only [Act.put, qq]
 refine qT 5 ?_; try simp only [Act.put, qq]
 refine qT 6 ?_; try simp only [Act.put, qq]
 refine qT 7 ?_; try simp only [Act.put, qq]
 refine qT 8 ?_; try simp only [Act.put, qq]
 refine qT 9 ?_; try simp only [Act.put, qq]
 refine qR 10 fun K hK => ?_
 go_simp
 refine (CM.out ud bb1).mono ?_
 rintro e w3 ⟨bl', o', B', d, x, rfl, hx, hat, rfl, hb⟩
 have bb2 := bmore bb1 hb n!
 have HF := h! (show b = TM.less ⟨zt, zi⟩ (KM.stp x) by rw [HR.out, HZ.out, hx])
 have C1 := h! (fun W => pstampOf_any B' d x W)
 have C2 := h! (fun W => pless_any ⟨zt, zi⟩ (KM.stp x) W)
 rw [← HF.out] at C2
 clear hx hat hb
 unfold vwt at C1
 unfold vwt
 unfold KM.stp at C1 C2
 unfold vsp at C2
 simp only at C2
 refine hK.out _ _ (HSS.out _ bb2) (fun hHeld => ?_)
 clear hK
 try simp only [Act.put, qq]
 refine qR 11 fun K hK => ?_
 go_simp
 refine (C1.out _).mono ?_
 rintro e w4 ⟨rfl, hb⟩
 have bb3 := bmore bb2 hb n!
 clear hb
 unfold vsp
 refine hK.out _ _ (HSS.out _ bb3) (fun hHeld => ?_)
 clear hK
 try simp only [Act.put, qq]
 refine qR 12 fun K hK => ?_
 go_simp
 refine (C2.out _).mono ?_
 rintro e w5 ⟨rfl, hb⟩
 have bb4 := bmore bb3 hb n!
 clear hb
 refine hK.out _ _ (HSS.out _ bb4) (fun hHeld => ?_)
 clear hK
 try simp only [Act.put, qq]
 refine qT 13 ?_; try simp only [Act.put, qq]
 refine wpAnyH_done (by kernel_rfl) ?_ _
 clear hHeld HSS
 clear CM C1 C2 x0 x1 x2 a0 a1
 go_wp2_with fail
 go_ret
 exact ⟨rfl, bmore HB.out bb4 n!⟩
theorem pfinal15_any (w0 : World) (b p : Nat) (sc : Int) (A : Option Addr) (n cw : Nat) (vD : Value) (ws : List Wt) (ds : List Sp) (cm : Cm) (hk2 : cm.k = 2) (W : World) (h : PtC w0 b p sc (.slice A n cw) vD ws ds W)
  (hp : ws.Pairwise fun a b => a.m.id < b.m.id) (hn : ws.length ≤ 200) :
  Calls Tryz.prog 106 #[.pointer (some ⟨p, 0, none⟩), .int .i64 cm.id, .int .i64 cm.tm] W fun e w' => e = .returned (.tuple #[]) ∧ PtC w0 b p (KM.fnl ⟨sc, ws, ds⟩ cm).c (.slice A n cw) vD (KM.fnl ⟨sc, ws, ds⟩ cm).ws ds w' := by
 have hsl := h.ow.slice
 have HL := h! hsl.1
 have KP1 := h! (pplace_any A n cw ws cm.id W hsl.2.2.2.r hp (by have := HL.out; omega))
 have HWW := h! (KM.whit_wat (l := ws) (id := cm.id) hp)
 have HWN := h! (KM.whit_no (l := ws) (id := cm.id) hp)
 have HWS := h! (KM.whit_some (l := ws) (id := cm.id))
 have HT := h! h
 obtain ⟨k, hk⟩ : ∃ k, k = KM.wpos ws cm.id := ⟨_, rfl⟩
 obtain ⟨R, hR⟩ : ∃ R, R = KM.whit ws cm.id := ⟨_, rfl⟩
 rw [← hk] at KP1 HWW HWS
 rw [← hR] at KP1 HWW HWN HWS
 obtain ⟨S2, hS2⟩ : ∃ S2, S2 = KM.fnl ⟨sc, ws, ds⟩ cm := ⟨_, rfl⟩
 rw [← hS2]
 have HS0 := h! (fun (e : (⟨sc, ws, ds⟩ : Sk).ws[KM.wat ws cm.id]? = none) => show S2 = ⟨sc, ws, ds⟩ from by rw [hS2]; unfold KM.fnl; rw [e])
 have HS1 := h! (fun x (e : (⟨sc, ws, ds⟩ : Sk).ws[KM.wat ws cm.id]? = some x) (hx : ¬ (x.f = false ∧ x.t ≤ cm.tm)) => show S2 = ⟨sc, ws, ds⟩ from by rw [hS2]; unfold KM.fnl; rw [e]; exact if_neg fun q => hx q.2)
 have HS2 := h! (fun x (e : (⟨sc, ws, ds⟩ : Sk).ws[KM.wat ws cm.id]? = some x) (hx : x.f = false ∧ x.t ≤ cm.tm) => show S2 = ⟨max sc cm.tm, ws.set (KM.wat ws cm.id) ⟨x.m, cm.tm, true⟩, ds⟩ from by rw [hS2]; unfold KM.fnl; rw [e]; exact if_pos ⟨hk2, hx⟩)
 obtain ⟨id, hid⟩ : ∃ id, id = cm.id := ⟨_, rfl⟩
 obtain ⟨tm, htm⟩ : ∃ tm, tm = cm.tm := ⟨_, rfl⟩
 rw [← hid] at KP1 HWW HWN HS0 HS1 HS2 HWS ⊢
 rw [← htm] at HS1 HS2 ⊢
 have hn2 : n ≤ 200 := by have := HL.out; omega
 clear h hsl hk hR hS2 hid htm hp hk2
 obtain ⟨x0, x1, x2⟩ := box_sk HT.out.bx
 go_enter Tryz.func106, Tryz.ntmps106
 go_wp2_with fail
 refine (KP1.out).mono ?_
 rintro e w2 ⟨rfl, hb⟩
 replace HT := h! (HT.out.below hb)
 clear hb x0 x1 x2 KP1
 obtain ⟨x0, x1, x2⟩ := box_sk HT.out.bx
 rcases R with _ | _
 ·have HF := h! (HS0.out (List.getElem?_eq_none (by show ws.length ≤ _; have := HWN.out rfl; omega)))
  go_wp2_with fail
  exact bodyPost_ret (v := .tuple #[]) (by simp [results, Tryz.results106, go_sem]; try rfl) rfl ⟨rfl, by rw [HF.out]; exact HT.out⟩
 obtain ⟨x, hx, hxi⟩ := HWS.out rfl
 have hkw : KM.wat ws id = k := HWW.out rfl
 have HX := h! hx
 have HKW := h! hkw
 have H1 := h! (HS1.out x (by rw [hkw]; exact hx))
 have H2 := h! (HS2.out x (by rw [hkw]; exact hx))
 have hkl := (List.getElem?_eq_some_iff.1 hx).1
 obtain ⟨q, hA⟩ := HT.out.ow.some hx
 subst hA
 obtain ⟨Q, q2, hat, hfz, hrow⟩ := wtc_store HT.out.ow hx
 obtain ⟨a0, a1, a2, a3, a4, a5, a6⟩ := hat
 have hk0 : (0 : Int) ≤ (k : Int) := by omega
 have hk1 : (k : Int) < (n : Int) := by have := HL.out; omega
 clear hx hxi hkw hrow HS0 HS1 HS2 HWW HWN HWS
 obtain ⟨⟨xi, xg, xt, xk, xb⟩, xm, xf⟩ := x
 simp only at a0 a1 a2 a3 a4 a5 a6 H1 H2
 rcases xf with _ | _
 ·by_cases ht : xm ≤ tm
  ·have HF := h! (H2.out ⟨rfl, ht⟩)
   have ht2 : ¬ tm < xm := by omega
   obtain ⟨s1, k1⟩ := HT.out.storeW HX.out (j := 5) (u := .int .i64 tm) (x' := ⟨⟨xi, xg, xt, xk, xb⟩, tm, false⟩) (by omega) (fun A d => rfl) rfl
   obtain ⟨s2, k2⟩ := s1.storeW (k := k) (x := ⟨⟨xi, xg, xt, xk, xb⟩, tm, false⟩) (by rw [List.getElem?_set_self hkl]) (j := 6) (u := .bool true) (x' := ⟨⟨xi, xg, xt, xk, xb⟩, tm, true⟩) (by omega) (fun A d => rfl) rfl
   rw [List.set_set] at s2
   have HS2 := h! s2
   have ⟨p0, p1, p2⟩ := box_sk s2.bx
   have f5 := hfz (k * 7 + 5)
   have f6 := hfz (k * 7 + 6)
   have g0 := HT.out.bx.frozen 0
   clear hfz s1 k1 k2 s2
   go_upto_region 2 with (fail)
   have hqp : p ≠ q := by
    obtain ⟨es, _, ho, _⟩ := HT.out.ow
    intro e
    exact own_ne ho HT.out.bx (by decide) (by rw [e]; rfl)
   have hqp2 : q ≠ p := Ne.symm hqp
   go_region
   have HS3 := h! ((HS2.out.below (show Below _ _ ((w2.setCell ⟨q, k * 7 + 5, none⟩ (.int .i64 tm)).setCell ⟨q, k * 7 + 6, none⟩ (.bool true)).drew from (Below.refl _ _).drew)).setC (max sc tm)).1
   have g1 := HS2.out.bx.frozen 0
   clear a0 a1 a2 a3 a4 a5 a6 f5 f6 x0 x1 x2 g0
   go_wp2_with fail
   go_end0
   exact ⟨rfl, by rw [HF.out, HKW.out]; exact HS3.out⟩
  ·have HF := h! (H1.out (fun q => ht q.2))
   have ht2 : tm < xm := by omega
   clear hfz
   go_wp2_with fail
   exact bodyPost_ret (v := .tuple #[]) (by simp [results, Tryz.results106, go_sem]; try rfl) rfl ⟨rfl, by rw [HF.out]; exact HT.out⟩
 ·have HF := h! (H1.out (fun q => by cases q.1))
  clear hfz
  go_wp2_with fail
  exact bodyPost_ret (v := .tuple #[]) (by simp [results, Tryz.results106, go_sem]; try rfl) rfl ⟨rfl, by rw [HF.out]; exact HT.out⟩
end KP
namespace CP
open Go.RowKit
open CM (Mg Cm)
def nums : Nat → List UInt8 → Option (List Nat × List UInt8)
 | 0, l => some ([], l)
 | m + 1, l => (CM.nm l).bind fun a => (nums m a.2).bind fun r => some (a.1 :: r.1, r.2)
theorem nm_none {l : List UInt8} (h : NM.dec l = none) : CM.nm l = none := by unfold CM.nm RM.num; rw [h]
theorem nm_some {l : List UInt8} {x k : Nat} (h : NM.dec l = some (x, k)) : CM.nm l = some (x, l.drop k) := by
 have := (NM.dec_bound l x k h).1
 unfold CM.nm RM.num
 rw [h]
 simp only
 rw [if_pos this]
def Left (many : Nat) (l : List UInt8) (xs : List Nat) (rest : List UInt8) : Prop := xs.length ≤ many ∧ nums many l = (nums (many - xs.length) rest).bind fun r => some (xs ++ r.1, r.2)
theorem left_start (many : Nat) (l : List UInt8) : Left many l [] l := by
 refine ⟨Nat.zero_le _, ?_⟩
 show nums many l = (nums many l).bind fun r => some (r.1, r.2)
 cases nums many l <;> rfl
theorem left_next {many : Nat} {l rest r2 : List UInt8} {xs : List Nat} {x : Nat} (h : Left many l xs rest) (hl : xs.length < many) (hn : CM.nm rest = some (x, r2)) : Left many l (xs ++ [x]) r2 := by
 refine ⟨by rw [List.length_append]; simp; omega, ?_⟩
 rw [h.2, show many - xs.length = (many - (xs ++ [x]).length) + 1 by rw [List.length_append]; simp; omega]
 show (Option.bind (Option.bind (CM.nm rest) _) _) = _
 rw [hn, Option.bind_some]
 cases nums (many - (xs ++ [x]).length) r2 <;> simp
theorem left_none {many : Nat} {l rest : List UInt8} {xs : List Nat} (h : Left many l xs rest) (hl : xs.length < many) (hn : CM.nm rest = none) : nums many l = none := by
 rw [h.2, show many - xs.length = (many - xs.length - 1) + 1 by omega]
 show (Option.bind (Option.bind (CM.nm rest) _) _) = _
 rw [hn]
 rfl
theorem left_end {many : Nat} {l rest : List UInt8} {xs : List Nat} (h : Left many l xs rest) (hl : xs.length = many) : nums many l = some (xs, rest) := by
 rw [h.2, hl, Nat.sub_self]
 simp [nums]
theorem zs_snoc (xs : List Nat) (x : Nat) : ic (CM.zs (xs ++ [x])) = ic (CM.zs xs) ++ [.int .i64 (x : Int)] := by simp [ic, CM.zs]
theorem info_num12 : (Tryz.prog.info? 3).map (fun i => (i.zero, i.size, i.bytes)) = some (some (.int .i64 0), 1, 8) := by kernel_rfl
def NuRel (w : World) (b : Nat) (many : Nat) (l : List UInt8) (j : Nat) (A : Option Addr) (n c : Nat) (u : Value) (wr : World) : Prop :=
 ∃ xs rest, xs.length = j ∧ Left many l xs rest ∧ Src wr b A n c rest ∧ wr.ownsRow w.heap.size 3 1 u j (ic (CM.zs xs)) ∧ Below w.heap.size w wr
theorem nuRel_next {w wr w2 : World} {many j x : Nat} {l r2 : List UInt8} {xs : List Nat} {A2 : Option Addr} {n2 c2 : Nat} {u v y : Value} {b : Nat} (hbw : b ≤ w.heap.size) (hl : xs.length = j) (hL : Left many l (xs ++ [x]) r2)
  (hS : Src wr b A2 n2 c2 r2) (ho : wr.ownsRow w.heap.size 3 1 u j (ic (CM.zs xs))) (hb : Below w.heap.size w wr)
  (h2 : w2.ownsRow w.heap.size 3 1 v (j + 1) (ic (CM.zs xs) ++ [.int .i64 (x : Int)])) (hg : (wr.alloc (.cells #[y] 3)).grownBy w2 u.ownBlock) : NuRel w b many l (j + 1) A2 n2 c2 v w2 := by
 have hB : Below w.heap.size w w2 := by
  refine (hb.alloc hb.size _).grown hg (by have := hb.size; simp; omega) fun g hgu => ?_
  rcases ho.2 with ⟨rfl, _⟩ | ⟨g', cap, cur, rfl, hb, _⟩
  ·simp [Value.ownBlock] at hgu
  ·simp [Value.ownBlock] at hgu; omega
 have hW : Below w.heap.size wr w2 := by
  refine ((Below.refl w.heap.size wr).alloc hb.size _).grown hg (by have := hb.size; simp; omega) fun g hgu => ?_
  rcases ho.2 with ⟨rfl, _⟩ | ⟨g', cap, cur, rfl, hb, _⟩
  ·simp [Value.ownBlock] at hgu
  ·simp [Value.ownBlock] at hgu; omega
 exact ⟨xs ++ [x], r2, by rw [List.length_append, hl]; rfl, hL, hS.below (hW.mono hbw), by rw [zs_snoc]; exact h2, hB⟩
def RowN (w : World) (b bl : Nat) (xs : List Nat) : Prop := b ≤ bl ∧ bl < w.heap.size ∧ ∀ j u, (ic (CM.zs xs))[j]? = some u → w.cell? ⟨bl, j, none⟩ = some u
theorem RowN.set {w : World} {b bl g i : Nat} {xs : List Nat} (h : RowN w b bl xs) (hg : g < b) (v : Value) : RowN (w.setCell ⟨g, i, none⟩ v) b bl xs :=
 ⟨h.1, by have := h.2.1; simpa using this, fun j u hu => (World.cell?_of_block (Below.heap_setCell w ⟨g, i, none⟩ v bl (by have := h.1; show bl ≠ g; omega))).trans (h.2.2 j u hu)⟩
theorem rowN_own {w : World} {b n : Nat} {v : Value} {xs : List Nat} (h : w.ownsRow b 3 1 v n (ic (CM.zs xs))) (hn : 0 < n) (hx : xs.length = n) : ∃ bl d, v = .slice (some ⟨bl, 0, none⟩) n d ∧ RowN w b bl xs := by
 obtain ⟨A, d, rfl, h1, h2⟩ := own_slice h
 have hr := Rd.of_own h
 rcases h.2 with ⟨hv, _⟩ | ⟨g', cap, cur, hv, hb, _⟩
 ·injection hv with _ hv _
  omega
 ·injection hv with hv _ _
  subst hv
  obtain ⟨ad, e, hB, hc⟩ := hr.2 hn
  injection e with e
  subst e
  refine ⟨g', d, rfl, hb, hB, fun j u hu => ?_⟩
  have := hc j u hu
  have e2 : (⟨g', 0, none⟩ : Addr).add j = ⟨g', j, none⟩ := by unfold Addr.add; split <;> simp_all
  rwa [e2] at this
def NumsIs (o : Option (List Nat × List UInt8)) (b : Nat) (w : World) (e : Ending) (w' : World) : Prop :=
 Below w.heap.size w w' ∧ ((o = none ∧ e = .returned (.tuple #[.slice none 0 0, .slice none 0 0, .bool false])) ∨
  ∃ xs r bl d v, o = some (xs, r) ∧ e = .returned (.tuple #[.slice (some ⟨bl, 0, none⟩) xs.length d, v, .bool true]) ∧ RowN w' w.heap.size bl xs ∧ BsIs w' b v r)
theorem numbers12_any (v : Value) (many : Nat) (l : List UInt8) (w : World) (b : Nat) (hbw : b ≤ w.heap.size) (h : BsIs w b v l) (hmany : many ≤ 4) (hmany1 : 1 ≤ many) :
  Calls Tryz.prog 141 #[v, .int .i64 many] w (NumsIs (nums many l) b w) := by
 obtain ⟨i0, hi, hz0, hz1, hz2⟩ := info_parts info_num12
 obtain ⟨A, c, rfl, hr, hc, hm, hloc⟩ := h
 have HBW := h! hbw
 have HS := h! (show NuRel w b many l 0 A l.length c (.slice none 0 0) w from ⟨[], l, rfl, left_start _ _, ⟨hr, hc, hm, hloc⟩, World.ownsRow_nil _ _ _ _, Below.refl _ _⟩)
 clear hr hc hm hloc hbw
 generalize l.length = n at HS ⊢
 go_enter Tryz.func141, Tryz.ntmps141
 go_wp2_with fail
 go_loopw [0, 7, 8] (fun y u i wr => ∃ (j : Nat) (A : Option Addr) (n c : Nat), j ≤ many ∧ y = .slice A n c ∧ i = .int .i64 j ∧ NuRel w b many l j A n c u wr) (fun _ _ i _ => many - (intOf i).toNat)
 case atStart => exact ⟨0, A, n, c, by omega, rfl, rfl, HS.out⟩
 case round =>
  clear HS
  obtain ⟨j, A, n, c, hj, rfl, rfl, xs, rest, hxs, hL, hS, hown, hB⟩ := hrel
  by_cases hlt : j < many
  ·have hn := hS.2.1
   have hc := hS.2.2.1
   have hln := src_len hS
   unfold maxLen at hc
   have G := h! (refGet_any A n c rest wr hS.1 (by unfold maxLen; omega))
   rcases hd : NM.dec rest with _ | ⟨x, k⟩
   ·rw [hd] at G
    have HF := h! (left_none hL (by omega) (nm_none hd))
    have HB := h! hB
    clear hL hS hown hB hd hln hxs
    go_wp2_with fail
    refine (G.out).mono ?_
    rintro e w1 ⟨rfl, rfl⟩
    unfold getRes
    go_wp2_with fail
    go_ret3
    exact ⟨HB.out, .inl ⟨HF.out, rfl⟩⟩
   ·have hk := (NM.dec_bound rest x k hd).2.2.1
    rw [hln] at hk
    rw [hd] at G
    have HX := h! hxs
    have HL2 := h! (left_next hL (by omega) (nm_some hd))
    have S := h! (hS.cut hk)
    have HO := h! hown
    have hown0 := hown
    have HB := h! hB
    have hbs := hB.size
    clear hL hS hown hB hd hln hxs
    by_cases hck : c = k
    ·rw [if_pos hck] at S
     subst hck
     rw [Nat.sub_self, show n - c = 0 by omega] at S
     go_wp2_with fail
     refine (G.out).mono ?_
     rintro e w1 ⟨rfl, rfl⟩
     unfold getRes
     go_wp2_with (at_builtin; refine wpList_append_rd _ rfl _ _ 31 rfl w.heap.size 3 i0 (.int .i64 0) 8 Tryz.underlying31 hi hz0 hz1 hz2 rfl _ _ _ rfl (hown0.alloc _) (some ⟨wr.heap.size, 0, none⟩) 1 1 [.int .i64 (x : Int)] rfl (rd_new _ _ _) (by intro u hu; simp at hu; subst hu; rfl) (by unfold maxLen; omega) (by omega) (by simp; omega) ?_; intro v2 w2 hown2 hg2 hob2)
     have hnext := nuRel_next HBW.out HX.out HL2.out S.out HO.out HB.out hown2 hg2
     clear hown2 hg2 hob2
     go_roundw
     case rel => exact ⟨j + 1, _, _, _, by omega, rfl, by go_num, hnext⟩
     case measure => simp [intOf]; omega
    ·rw [if_neg hck] at S
     go_wp2_with fail
     refine (G.out).mono ?_
     rintro e w1 ⟨rfl, rfl⟩
     unfold getRes
     go_wp2_with (at_builtin; refine wpList_append_rd _ rfl _ _ 31 rfl w.heap.size 3 i0 (.int .i64 0) 8 Tryz.underlying31 hi hz0 hz1 hz2 rfl _ _ _ rfl (hown0.alloc _) (some ⟨wr.heap.size, 0, none⟩) 1 1 [.int .i64 (x : Int)] rfl (rd_new _ _ _) (by intro u hu; simp at hu; subst hu; rfl) (by unfold maxLen; omega) (by omega) (by simp; omega) ?_; intro v2 w2 hown2 hg2 hob2)
     have hnext := nuRel_next HBW.out HX.out HL2.out S.out HO.out HB.out hown2 hg2
     clear hown2 hg2 hob2
     go_roundw
     case rel => exact ⟨j + 1, _, _, _, by omega, rfl, by go_num, hnext⟩
     case measure => simp [intOf]; omega
  ·obtain rfl : j = many := by omega
   have HF := h! (left_end hL hxs)
   obtain ⟨bl, d, rfl, hrow⟩ := rowN_own hown (by omega) hxs
   have HW := h! hrow
   have HV := h! (show BsIs wr b (.slice A n c) rest from ⟨A, c, by rw [src_len hS], by rw [src_len hS]; exact hS.1, by rw [src_len hS]; exact hS.2.1, hS.2.2.1, by rw [src_len hS]; exact hS.2.2.2⟩)
   have HB := h! hB
   have HX := h! hxs
   clear hL hS hown hB hxs hrow
   go_wp2
   go_ret3
   exact ⟨HB.out, .inr ⟨xs, rest, bl, d, _, HF.out, by rw [HX.out]; rfl, HW.out, HV.out⟩⟩
theorem results_tmp4 {fn : Func} {t u v x : Tmp} (h : fn.results = #[.tmp t, .tmp u, .tmp v, .tmp x]) (tmps : Array Value) (P : Program) (w : World) :
  (results fn tmps).run P w = .ok (.tuple #[tmps.getD t undef, tmps.getD u undef, tmps.getD v undef, tmps.getD x undef]) w := by
 simp [results, h]
def tx2 (l : List UInt8) : Option ((List UInt8 × List UInt8) × List UInt8) := (CM.tx l).bind fun s => (CM.tx s.2).bind fun t => some ((s.1, t.1), t.2)
def TextsIs (o : Option ((List UInt8 × List UInt8) × List UInt8)) (b : Nat) (w : World) (e : Ending) (w' : World) : Prop :=
 Below w.heap.size w w' ∧ ((o = none ∧ e = .returned (.tuple #[.string .empty, .string .empty, .slice none 0 0, .bool false])) ∨
  ∃ s t r v, o = some ((s, t), r) ∧ e = .returned (.tuple #[.string ⟨s.toArray⟩, .string ⟨t.toArray⟩, v, .bool true]) ∧ BsIs w' b v r)
theorem tx_none {l : List UInt8} (h : NM.getText l = none) : CM.tx l = none := by unfold CM.tx RM.txt; rw [h]
theorem tx_some {l s : List UInt8} {k : Nat} (h : NM.getText l = some (s, k)) : CM.tx l = some (s, l.drop k) := by
 have := (NM.text_getText l s k h).1
 unfold CM.tx RM.txt
 rw [h]
 simp only
 rw [if_pos this]
theorem texts12_at (A : Option Addr) (n c : Nat) (l : List UInt8) (w : World) (b : Nat) (hr : Rd w A n (bc l)) (hnc : n ≤ c) (hm : c ≤ maxLen) (hloc : ∀ ad, A = some ad → 0 < n → ad.block < b) :
  Calls Tryz.prog 143 #[.slice A n c] w (TextsIs (tx2 l) b w) := by
 have HLoc := h! hloc
 clear hloc
 have G := h! (refGetText_any A n c l w hr hnc hm)
 have hm0 := h! hm
 have hl : l.length = n := by have := hr.1; rwa [bc_length] at this
 have HL := h! hl
 have HR := h! hr
 clear hr
 unfold maxLen at hm
 rcases ho : NM.getText l with _ | ⟨s, k⟩
 ·have HO := h! (show tx2 l = none by unfold tx2; rw [tx_none ho]; rfl)
  rw [ho] at G
  clear ho hl
  go_enter Tryz.func143, Tryz.ntmps143
  go_wp2_with fail
  refine (G.out).mono ?_
  rintro e w1 ⟨rfl, rfl⟩
  unfold textRes
  go_wp2_with fail
  refine bodyPost_ret (results_tmp4 rfl _ _ _) rfl ?_
  exact ⟨Below.refl _ _, .inl ⟨HO.out, rfl⟩⟩
 have hk := (NM.text_getText l s k ho).2.1
 rw [hl] at hk
 have T1 := h! (tx_some ho)
 rw [ho] at G
 clear ho hl
 have HLk : Hid ((l.drop k).length = n - k) := h! (by rw [List.length_drop, HL.out])
 by_cases hck : c = k
 ·subst hck
  have hd0 : l.drop c = [] := List.drop_of_length_le (by rw [HL.out]; omega)
  have hn : NM.getText (l.drop c) = none := by rw [hd0]; rfl
  have HO := h! (show tx2 l = none by unfold tx2; rw [T1.out, Option.bind_some, tx_none hn]; rfl)
  obtain rfl : n = c := by omega
  have G2 := h! (refGetText_any A 0 0 [] w ⟨rfl, fun h => absurd h (Nat.lt_irrefl 0)⟩ n! (by unfold maxLen; omega))
  clear hd0 hn T1 HLk HL HR hm0
  go_enter Tryz.func143, Tryz.ntmps143
  go_wp2_with fail
  refine (G.out).mono ?_
  rintro e w1 ⟨rfl, rfl⟩
  unfold textRes
  go_wp2_with fail
  refine (G2.out).mono ?_
  rintro e w1 ⟨rfl, rfl⟩
  rw [show NM.getText [] = none from rfl]
  unfold textRes
  go_wp2_with fail
  refine bodyPost_ret (results_tmp4 rfl _ _ _) rfl ?_
  exact ⟨Below.refl _ _, .inl ⟨HO.out, rfl⟩⟩
 have hr2 : Rd w (Option.map (fun x => x.add k) A) (n - k) (bc (l.drop k)) := by rw [← bc_drop]; exact HR.out.cutm hk
 have G2 := h! (refGetText_any (Option.map (fun x => x.add k) A) (n - k) (c - k) (l.drop k) w hr2 (by omega) (by unfold maxLen; omega))
 clear hr2
 rcases ho : NM.getText (l.drop k) with _ | ⟨t, j⟩
 ·have HO := h! (show tx2 l = none by unfold tx2; rw [T1.out, Option.bind_some, tx_none ho]; rfl)
  rw [ho] at G2
  clear ho T1 HLk HL HR hm0
  go_enter Tryz.func143, Tryz.ntmps143
  go_wp2_with fail
  refine (G.out).mono ?_
  rintro e w1 ⟨rfl, rfl⟩
  unfold textRes
  go_wp2_with fail
  refine (G2.out).mono ?_
  rintro e w1 ⟨rfl, rfl⟩
  unfold textRes
  go_wp2_with fail
  refine bodyPost_ret (results_tmp4 rfl _ _ _) rfl ?_
  exact ⟨Below.refl _ _, .inl ⟨HO.out, rfl⟩⟩
 have hj := (NM.text_getText _ t j ho).2.1
 rw [HLk.out] at hj
 have HO := h! (show tx2 l = some ((s, t), l.drop (k + j)) by unfold tx2; rw [T1.out, Option.bind_some, tx_some ho, Option.bind_some, List.drop_drop])
 rw [ho] at G2
 have HE1 : Hid (c = k + j → ∀ W, BsIs W b (.slice A (n - (k + j)) 0) (l.drop (k + j))) := h! (fun hc W => by rw [show n - (k + j) = 0 by omega]; exact bs_end (by rw [HL.out]; omega))
 have HE2 : Hid (∀ W, Below w.heap.size w W → BsIs W b (.slice (Option.map (fun x => x.add (k + j)) A) (n - (k + j)) (c - (k + j))) (l.drop (k + j))) :=
  h! (fun W hb => by have := bs_rest (k := k + j) (by rw [HL.out]; exact HR.out.below hb) (by rw [HL.out]; omega) (by rw [HL.out]; exact hnc) hm0.out (by rw [HL.out]; exact HLoc.out); rwa [HL.out] at this)
 clear ho T1 HLk HL HR hm0
 have j0 : (0 : Int) ≤ (k : Int) + (j : Int) := by omega
 have j1 : (k : Int) + (j : Int) ≤ (n : Int) := by omega
 have j2 : (k : Int) + (j : Int) ≤ (c : Int) := by omega
 have jw : IntKind.i64.wrap ((k : Int) + (j : Int)) = (k : Int) + (j : Int) := IntWalk.i64_in _ ⟨by omega, by omega⟩
 have jn : ((k : Int) + (j : Int)).toNat = k + j := by omega
 replace j0 := h! j0
 replace j1 := h! j1
 replace j2 := h! j2
 replace jw := h! jw
 replace jn := h! jn
 go_enter Tryz.func143, Tryz.ntmps143
 go_wp2_with fail
 refine (G.out).mono ?_
 rintro e w1 ⟨rfl, rfl⟩
 unfold textRes
 go_wp2_with fail
 refine (G2.out).mono ?_
 rintro e w1 ⟨rfl, rfl⟩
 unfold textRes
 replace j0 := j0.out
 replace j1 := j1.out
 replace j2 := j2.out
 replace jw := jw.out
 replace jn := jn.out
 by_cases hcj : c = k + j
 ·have HE := h! (HE1.out hcj)
  clear HE1 HE2
  go_wp2_with fail
  go_quiet (fail)
  go_wp2_with fail
  refine bodyPost_ret (results_tmp4 rfl _ _ _) rfl ?_
  exact ⟨below_drewN (Below.refl _ _) _, .inr ⟨s, t, _, _, HO.out, rfl, HE.out _⟩⟩
 ·go_wp2_with fail
  go_quiet (fail)
  go_wp2_with fail
  refine bodyPost_ret (results_tmp4 rfl _ _ _) rfl ?_
  exact ⟨below_drewN (Below.refl _ _) _, .inr ⟨s, t, _, _, HO.out, rfl, HE2.out _ (below_drewN (Below.refl _ _) _)⟩⟩
theorem texts12_any (v : Value) (l : List UInt8) (w : World) (b : Nat) (h : BsIs w b v l) :
  Calls Tryz.prog 143 #[v] w (TextsIs (tx2 l) b w) := by
 obtain ⟨A, c, rfl, hr, hc, hm, hloc⟩ := h
 exact texts12_at A l.length c l w b hr hc hm hloc
end CP
end Go.Proofs.YteebeiaokfenmaaGreat
