/-
  Package order: Play. Conditions: a log that reads as texts.
  Package order: tell. Conditions: a player of a log that may be.
  Several groups' players, and what their logs gave times, in memory. No walk.
  Package order: find. Conditions: what a log gave times, its ids ints, none twice.
  Package order: Local. Conditions: a log that reads as texts.
-/
import Derived.Test.YteebeiaokfenmaaGreatK01
import Derived.Test.YteebeiaokfenmaaGreatK36
import Derived.Test.YteebeiaokfenmaaGreatK35
import Derived.Test.YteebeiaokfenmaaGreatK11
import Derived.Test.YteebeiaokfenmaaGreatK07
namespace Go.Proofs.YteebeiaokfenmaaGreat.KP
open Go.RowKit CP TP LP
open CM (Mg Cm)
open TM (Sp)
open KM (Wt Sk)
set_option linter.unusedVariables false
set_option linter.unusedSimpArgs false
set_option maxRecDepth 100000
set_option maxHeartbeats 4000000 in
theorem pplay16_any (g : Int) (A : Option Addr) (n c : Nat) (l : List ByteArray) (w : World) (h : TxIs w A n c l) : Calls Tryz.prog 14 #[.int .i64 g, .slice A n c] w (ApIs (playR g l) w) := by
 have HP := h! (fun W (hb : Below w.heap.size w W) => playerOf_any g A n c l W (h.below hb))
 unfold PoIs at HP
 have HA := h! (fun h0 => asked_zero (g := g) (l := l) h0)
 have HM := h! (fun h0 => log_may (l := l) h0)
 unfold playR
 obtain ⟨r, hr⟩ : ∃ r, r = asked g l := ⟨_, rfl⟩
 rw [← hr] at HP HA ⊢
 obtain ⟨cs, hcs⟩ : ∃ cs, cs = LM.cmds l := ⟨_, rfl⟩
 rw [← hcs] at HP HM ⊢
 obtain ⟨RR, hRR⟩ : ∃ RR, RR = (if r = 0 then ((OM.play g cs).1, (OM.play g cs).2.1, 0) else (KM.zero, [], r) : Sk × List Mg × Int) := ⟨_, rfl⟩
 rw [← hRR]
 have HRR := h! hRR
 clear h hr hcs hRR
 obtain ⟨q0, hq0⟩ : ∃ q0, w.heap.size = q0 := ⟨_, rfl⟩
 have HB := h! (show Below w.heap.size w (w.alloc (.cells #[.int .i64 0, .slice none 0 0, .slice none 0 0] 39)) from (Below.refl _ _).alloc n! _)
 have X := h! (Box.new_at (w := w) (t := 39) (cs := #[.int .i64 0, .slice none 0 0, .slice none 0 0]) q0 hq0)
 have HQ0 := h! hq0
 go_enter Tryz.func14, Tryz.ntmps14
 go_upto_region 1 with (fail)
 generalize w.alloc (.cells #[.int .i64 0, .slice none 0 0, .slice none 0 0] 39) = w1 at HB X ⊢
 clear hq0
 go_wp2_with fail
 refine (HP.out _ HB.out).mono ?_
 rintro e w2 ⟨hb, ⟨h0, rfl⟩ | ⟨h0, v, rfl, hv⟩⟩
 ·have hk : (r == 0) = false := by simpa using h0
  have HB2 := h! (bmore HB.out hb n!)
  have X2 := h! (X.out.below hb X.out.lt)
  have HF := h! (show RR = (KM.zero, [], r) by rw [HRR.out, if_neg h0])
  clear hb HP HA HM h0
  obtain ⟨x0, x1, x2, f0, f1, f2⟩ := X2.out.three
  have ZP := h! (X2.out.put3 (.int .i64 0) (.slice none 0 0) (.slice none 0 0))
  have ZB := h! (below_put3 HB2.out (by have := HQ0.out; omega) (.int .i64 0) (.slice none 0 0) (.slice none 0 0) (g := q0))
  go_wp2_with fail
  obtain ⟨u0, u1, u2⟩ := box_sk ZP.out
  exact bodyPost_ret (v := .tuple #[.agg #[.int .i64 0, .slice none 0 0, .slice none 0 0], .slice none 0 0, .int .i64 r]) (by simp [results, Tryz.results14, go_sem, u0, u1, u2]; try rfl) rfl ⟨_, _, by rw [HF.out], by rw [HF.out]; exact skO_zero _ _, by rw [HF.out]; exact kO_nil KM_ _ _ _, ZB.out⟩
 ·subst h0
  obtain ⟨hg, hck⟩ := HA.out rfl
  obtain ⟨hmay, hlen⟩ := HM.out hck
  have HMay := h! hmay
  have HF := h! (show RR = ((OM.play g cs).1, (OM.play g cs).2.1, 0) by rw [HRR.out, if_pos rfl])
  obtain ⟨pc, pg, sv, b0, rfl, v1, v2, v3⟩ := hv
  have HV1 := h! v1
  have HV2 := h! v2
  have HV3 := h! v3
  have HB2 := h! (bmore HB.out hb n!)
  have X2 := h! (X.out.below hb X.out.lt)
  clear hb HP HA HM hck hmay hlen v1 v2 v3
  go_wp2_with fail
  refine (pnew15_any _).mono ?_
  rintro e w3 ⟨v, rfl, ⟨vw, vd, rfl, k1, k2⟩, hb3⟩
  obtain ⟨A4, c4, rfl, _⟩ := k1.g
  obtain ⟨B4, d4, rfl, _, _⟩ := own_form k2
  unfold vsk
  obtain ⟨p1, hp1⟩ : ∃ p1, w3.heap.size = p1 := ⟨_, rfl⟩
  obtain ⟨W4, hW4⟩ : ∃ W4, W4 = (w3.alloc (.cells #[.int .i64 KM.zero.c, .slice A4 KM.zero.ws.length c4, .slice B4 KM.zero.ds.length d4] 39)).alloc (.cells #[.slice none 0 0] 40) := ⟨_, rfl⟩
  have hal4 : Below w3.heap.size w3 W4 := by rw [hW4]; exact ((Below.refl _ _).alloc n! _).alloc (by simp) _
  have HB4 := h! (show Below w2.heap.size w2 W4 from bmore hb3 hal4 n!)
  have P1 := h! (show Box W4 p1 39 #[.int .i64 KM.zero.c, .slice A4 KM.zero.ws.length c4, .slice B4 KM.zero.ds.length d4] from by rw [hW4]; exact (Box.new_at _ hp1).alloc _)
  have P2 := h! (show Box W4 (p1 + 1) 40 #[.slice none 0 0] from by rw [hW4]; exact Box.new_at _ (by rw [← hp1]; simp))
  have HLW := h! (show q0 < p1 ∧ w2.heap.size ≤ p1 from by have := X2.out.lt; have := hb3.size; omega)
  have HR0 := h! (show RPl g cs w.heap.size p1 (p1 + 1) 0 (fun q => q = p1 ∨ q = p1 + 1 ∨ (Value.slice none 0 0).ownBlock = some q) W4 from
   ⟨⟨A4, _, c4, B4, _, d4, none, 0, 0, P1.out, P2.out, (SkO.mono ⟨_, _, rfl, k1.below hal4, own_below3 k2 hal4⟩ HB2.out.size), kO_nil KM_ _ _ _, rfl⟩, Nat.zero_le _⟩)
  clear k1 k2 hb3 hal4
  go_upto_region 6 with (fail)
  rw [← hW4]
  clear hW4
  try simp only [hp1]
  clear hp1
  have HCA := h! (pplay_any papply15 41 #[.pointer (some ⟨p1, 0, none⟩), .pointer (some ⟨p1 + 1, 0, none⟩)] g cs w2 W4 (RPl g cs w.heap.size p1 (p1 + 1)) _ pc pg b0 sv HV1.out HV2.out HV3.out HB4.out
   (seePl g cs w2 W4 w.heap.size p1 (p1 + 1) hg HMay.out P1.out.lt P2.out.lt (by omega) (Nat.le_trans HB2.out.size HB4.out.size)) HR0.out (fun q hq => by have := HLW.out; rcases hq with rfl | rfl | hq; omega; omega; cases hq) hg HMay.out)
  go_wp2_with fail
  refine (HCA.out).mono ?_
  rintro e w5 ⟨rfl, X', hR, hK, hX⟩
  obtain ⟨⟨A, n', a, B, m, d, C, i, j, r1, r2, r3, r4, rfl⟩, _⟩ := hR
  have hq1 : q0 ≠ p1 := by have := HLW.out; omega
  have hq2 : q0 ≠ p1 + 1 := by have := HLW.out; omega
  have X4 := X2.out.below HB4.out X2.out.lt
  have X5 := h! (hK.box X4 (fun q => by rcases q with k | k | k; exact hq1 k; exact hq2 k; cases k))
  have HB5 := h! (show Below w.heap.size w w5 from (bmore HB2.out HB4.out n!).trans (hK.below (Nat.le_trans HB2.out.size HB4.out.size) (fun q hq => by have := HLW.out; have := HB2.out.size; rcases hq with rfl | rfl | hq; omega; omega; cases hq)))
  have est : stA g cs cs.length = (OM.play g cs).1 := by unfold stA; rw [List.take_length]
  rw [est] at r1 r3
  rw [List.take_length] at r4
  have R3 := h! r3
  have R4 := h! r4
  have PQ1 := h! r1
  have PQ2 := h! r2
  obtain ⟨S2, hS2⟩ : ∃ S2, S2 = (OM.play g cs).1 := ⟨_, rfl⟩
  rw [← hS2] at R3 PQ1
  have HS2 := h! hS2
  clear HCA hX HR0 r1 r2 r3 r4 hK X4 est hS2
  have hq3 : ¬ p1 = q0 := fun e => hq1 e.symm
  have hq4 : ¬ p1 + 1 = q0 := fun e => hq2 e.symm
  obtain ⟨y0, y1, y2⟩ := box_sk PQ1.out
  have z0 := PQ2.out.cell 0
  simp at z0
  obtain ⟨x0, x1, x2, f0, f1, f2⟩ := X5.out.three
  have ZP := h! (fun W (hw : W = ((w5.setCell ⟨q0, 0, none⟩ (.int .i64 S2.c)).setCell ⟨q0, 1, none⟩ (.slice A n' a)).setCell ⟨q0, 2, none⟩ (.slice B m d)) => show Box W q0 39 #[.int .i64 S2.c, .slice A n' a, .slice B m d] ∧ Below w.heap.size w W ∧ SkO W w.heap.size (vsk S2.c (.slice A n' a) (.slice B m d)) S2 ∧ KO KM_ W w.heap.size 33 (.slice C i j) (OM.play g cs).2.1 from by
   have q1 := kept_put3 X5.out (.int .i64 S2.c) (.slice A n' a) (.slice B m d)
   subst hw
   exact ⟨X5.out.put3 _ _ _, below_put3 HB5.out (by have := HQ0.out; omega) _ _ _, sko_kept R3.out q1 (by decide) (by decide) (by decide), R4.out.kept q1 (by decide) (by decide)⟩)
  go_wp2_with fail
  go_region
  all_goals
   obtain ⟨z1, z2, z3, z4⟩ := ZP.out _ rfl
   have zd : Below (((w5.setCell ⟨q0, 0, none⟩ (.int .i64 S2.c)).setCell ⟨q0, 1, none⟩ (.slice A n' a)).setCell ⟨q0, 2, none⟩ (.slice B m d)).heap.size (((w5.setCell ⟨q0, 0, none⟩ (.int .i64 S2.c)).setCell ⟨q0, 1, none⟩ (.slice A n' a)).setCell ⟨q0, 2, none⟩ (.slice B m d)) (((w5.setCell ⟨q0, 0, none⟩ (.int .i64 S2.c)).setCell ⟨q0, 1, none⟩ (.slice A n' a)).setCell ⟨q0, 2, none⟩ (.slice B m d)).drew := below_drewN (Below.refl _ _) 1
   replace z1 := z1.below zd z1.lt
   replace z2 := bmore z2 zd n!
   replace z3 := z3.below zd
   replace z4 := z4.below zd
   clear zd
   go_wp2_with fail
   generalize (((w5.setCell ⟨q0, 0, none⟩ (.int .i64 S2.c)).setCell ⟨q0, 1, none⟩ (.slice A n' a)).setCell ⟨q0, 2, none⟩ (.slice B m d)).drew = W9 at z1 z2 z3 z4 ⊢
   obtain ⟨u0, u1, u2⟩ := box_sk z1
   exact bodyPost_ret (v := .tuple #[.agg #[.int .i64 S2.c, .slice A n' a, .slice B m d], .slice C i j, .int .i64 0]) (by simp [results, Tryz.results14, go_sem, u0, u1, u2]; try rfl) rfl ⟨_, _, by rw [HF.out], by rw [HF.out, ← HS2.out]; exact z3, by rw [HF.out]; exact z4, z2⟩
end Go.Proofs.YteebeiaokfenmaaGreat.KP

namespace Go.Proofs.YteebeiaokfenmaaGreat.KP
open Go.RowKit CP TP LP
open CM (Mg Cm)
open TM (Sp)
open KM (Wt Sk)
set_option linter.unusedVariables false
set_option linter.unusedSimpArgs false
set_option maxRecDepth 100000
def CmR (w : World) (v : Value) (l : List Cm) : Prop := ∃ es : List El, es.map (fun e => e.x) = l ∧ Row w.heap.size w v es ∧ ∀ e ∈ es, RowIs w e.A e.c e.x.m.gs ∧ RowIs w e.B e.d e.x.ms
theorem row_mono {n m : Nat} {W : World} {sv : Value} {es : List El} (h : Row n W sv es) (hn : n ≤ m) : Row m W sv es := by
 rcases h with e | ⟨b, off, cap, e, hb, hc⟩
 ·exact .inl e
 ·exact .inr ⟨b, off, cap, e, by omega, hc⟩
theorem CmR.below {w w' : World} {v : Value} {l : List Cm} (h : CmR w v l) (hb : Below w.heap.size w w') : CmR w' v l := by
 obtain ⟨es, h1, h2, h3⟩ := h
 exact ⟨es, h1, row_mono (h2.below hb) hb.size, fun e he => ⟨(h3 e he).1.below hb, (h3 e he).2.below hb⟩⟩
theorem CX.r {W0 w : World} {b : Nat} {v : Value} {l : List Cm} (h : CX W0 w b v l) (hb : Below W0.heap.size W0 w) : CmR w v l := by
 obtain ⟨es, h1, h2, h3⟩ := h
 refine ⟨es, h1, ?_, fun e he => ⟨(h3 e he).1.below hb, (h3 e he).2.below hb⟩⟩
 rcases Nat.eq_zero_or_pos es.length with h0 | h0
 ·obtain rfl := List.length_eq_zero_iff.1 h0
  rcases h2.2 with ⟨e, _⟩ | ⟨g, cap, cur, e, hb, hx, h5⟩
  ·exact .inl ⟨e, rfl⟩
  ·have hlt : g < w.heap.size := by
    rcases Nat.lt_or_ge g w.heap.size with k | k
    ·exact k
    ·rw [Array.getElem?_eq_none k] at hx; cases hx
   exact .inr ⟨g, 0, cap, e, hlt, fun p x hp => by cases hp⟩
 ·obtain ⟨g, cap, hv, _, hlt⟩ := h2.form h0
  refine .inr ⟨g, 0, cap, hv, hlt, fun p x hp j hj => ?_⟩
  have hc := h2.cells (g := g) (by rw [hv]; rfl)
  have he := ecells_at hp j hj
  have hs : ∃ u, (ecell x)[j]? = some u := ⟨_, List.getElem?_eq_getElem (by rw [ecell_len]; exact hj)⟩
  obtain ⟨u, hu⟩ := hs
  rw [hu] at he ⊢
  have := hc (p * 12 + j) u he
  have e2 : (⟨g, 0, none⟩ : Addr).add (p * 12 + j) = ⟨g, 0 + p * 12 + j, none⟩ := by unfold Addr.add; split <;> simp_all
  rw [e2] at this
  exact this
def ToIs (w : World) (v : Value) (T : List (Int × Mg)) (F : List Cm) : Prop :=
 ∃ (A : Option Addr) (n c : Nat) (b : Nat) (B : Option Addr) (m d : Nat), v = .agg #[.slice A n c, .map (some b), .slice B m d] ∧ KR KW w A n c (T.map toWt) ∧ MpIs w (.map (some b)) (T.map fun p => p.2.id) ∧ CmR w (.slice B m d) F
theorem ToIs.below {w w' : World} {v : Value} {T : List (Int × Mg)} {F : List Cm} (h : ToIs w v T F) (hb : Below w.heap.size w w') : ToIs w' v T F := by
 obtain ⟨A, n, c, b, B, m, d, e, h1, h2, h3⟩ := h
 exact ⟨A, n, c, b, B, m, d, e, h1.below hb, h2.below hb, h3.below hb⟩
def ToX (W0 w : World) (v : Value) (T : List (Int × Mg)) (F : List Cm) : Prop :=
 ∃ (A : Option Addr) (n c : Nat) (b : Nat) (B : Option Addr) (m d : Nat) (q : Nat), v = .agg #[.slice A n c, .map (some b), .slice B m d] ∧ KX KW W0 w q 78 (.slice A n c) (T.map toWt) ∧ MpIs w (.map (some b)) (T.map fun p => p.2.id) ∧ CX W0 w q (.slice B m d) F
theorem ToX.below {W0 w w' : World} {v : Value} {T : List (Int × Mg)} {F : List Cm} (h : ToX W0 w v T F) (hb : Below w.heap.size w w') : ToX W0 w' v T F := by
 obtain ⟨A, n, c, b, B, m, d, q, e, h1, h2, h3⟩ := h
 exact ⟨A, n, c, b, B, m, d, q, e, h1.below hb, h2.below hb, h3.below hb⟩
theorem ToX.is {W0 w : World} {v : Value} {T : List (Int × Mg)} {F : List Cm} (h : ToX W0 w v T F) (hb : Below W0.heap.size W0 w) : ToIs w v T F := by
 obtain ⟨A, n, c, b, B, m, d, q, e, h1, h2, h3⟩ := h
 exact ⟨A, n, c, b, B, m, d, e, h1.r hb, h2, h3.r hb⟩
theorem mp_set {w : World} {b : Nat} {l : List Int} {p i : Nat} {t : TypeId} {cs : Array Value} (h : MpIs w (.map (some b)) l) (hp : Box w p t cs) (u : Value) : MpIs (w.setCell ⟨p, i, none⟩ u) (.map (some b)) l := by
 obtain ⟨b', e, h1⟩ := h
 injection e with e
 injection e with e
 subst e
 refine ⟨b, rfl, h1.setCell (a := ⟨p, i, none⟩) (fun e => ?_) u⟩
 obtain ⟨es, clock, h2, _⟩ := h1
 simp only at e
 rw [e, show w.heap[p]? = _ from hp] at h2
 cases h2
set_option maxHeartbeats 600000 in
theorem ptell_any (v : Value) (g : Int) (cs : List Cm) (W0 w : World) (h : PlrIs W0 v g cs) (hbw : Below W0.heap.size W0 w) (hg : 0 ≤ g ∧ g < 4) (hcs : ∀ c ∈ cs, CM.may c) (hlen : cs.length ≤ 200) :
  Calls Tryz.prog 31 #[v] w fun e w' => ∃ vt, e = .returned vt ∧ ToX W0 w' vt (OM.play g cs).2.2 (OM.fins g cs) ∧ Below w.heap.size w w' := by
 have HBW := h! hbw
 have HBS := h! hbw.size
 obtain ⟨pc, pg, sv, b0, rfl, v1, v2, v3⟩ := h
 obtain ⟨q0, hq0⟩ : ∃ q0, w.heap.size = q0 := ⟨_, rfl⟩
 obtain ⟨W1, hW1⟩ : ∃ W1, W1 = (w.alloc (.cells #[.slice none 0 0, .map none, .slice none 0 0] 75)).alloc (.cells #[.slice none 0 0, .map none, .slice none 0 0] 75) := ⟨_, rfl⟩
 have HB := h! (show Below w.heap.size w W1 by rw [hW1]; exact ((Below.refl _ _).alloc n! _).alloc (by simp) _)
 have X := h! (show Box W1 q0 75 #[.slice none 0 0, .map none, .slice none 0 0] by rw [hW1]; exact (Box.new_at _ hq0).alloc _)
 have P := h! (show Box W1 (q0 + 1) 75 #[.slice none 0 0, .map none, .slice none 0 0] by rw [hW1]; exact Box.new_at _ (by rw [← hq0]; simp))
 have HQ := h! hq0
 have hid := fun p (hp : p ∈ (OM.play g cs).2.2) => show i64In p.2.id from by
  have := ((OM.inv hg hcs).tm p hp).2.2.2.1.1
  unfold CM.idOk at this
  unfold i64In
  omega
 have HID := h! hid
 have hfew := (told_few g cs).1
 have HCA := h! (pplay_any papply15 58 #[.pointer (some ⟨q0 + 1, 0, none⟩)] g cs W0 W1 (RTe g cs W0 w.heap.size (q0 + 1)) (fun q => q = q0 + 1 ∨ (Value.slice none 0 0).ownBlock = some q ∨ (Value.slice none 0 0).ownBlock = some q) pc pg b0 sv v1 v2 v3 (bmore hbw HB.out n!)
  (seeTe g cs W0 W1 w.heap.size (q0 + 1) hg hcs hlen P.out.lt HB.out.size) ⟨⟨none, 0, 0, none, 0, 0, P.out, kX_nil KW _ _ _ _, cX_nil _ _ _, rfl⟩, Nat.zero_le _⟩ (fun q hq => by have := hbw.size; rcases hq with rfl | hq | hq; omega; cases hq; cases hq) hg hcs)
 clear hid v1 v2 v3 hbw
 go_enter Tryz.func31, Tryz.ntmps31
 go_upto_region 2 with (fail)
 rw [← hW1]
 clear hW1
 try simp only [hq0]
 clear hq0
 go_wp2_with fail
 refine (HCA.out).mono ?_
 rintro e w2 ⟨rfl, X', hR, hK, hX⟩
 clear HCA
 have HB2 := h! (show Below w.heap.size w w2 from HB.out.trans (hK.below HB.out.size (fun q hq => by have := HQ.out; rcases hq with rfl | hq | hq; omega; cases hq; cases hq)))
 have X2 := h! (hK.box X.out (fun q => by rcases q with k | k | k; omega; cases k; cases k))
 obtain ⟨⟨C, i, j, D, u, v, r1, r2, r3, rfl⟩, _⟩ := hR
 rw [List.take_length] at r2 r3
 have P2 := h! r1
 have K2 := h! r2
 have K3 := h! r3
 have hi : i ≤ 4096 := by have := r2.len; rw [List.length_map] at this; omega
 have HPL := h! (pplW_any C i j _ w2 (r2.r (bmore HBW.out HB2.out n!)) hi (fun x hx => by obtain ⟨p, hp, rfl⟩ := List.mem_map.1 hx; exact HID.out p hp))
 clear r1 r2 r3 hK hX
 obtain ⟨x0, x1, x2⟩ := box_sk P2.out
 go_upto_region 4 with (go_at_call 60; refine (HPL.out).mono ?_; rintro e w3 ⟨vm, rfl, hm0, hb3⟩; have HM := h! hm0; obtain ⟨bm, rfl, hm⟩ := hm0; have HB3 := h! hb3; have P3 := h! (P2.out.below hb3 P2.out.lt); clear hm hb3 x0 x1 x2; obtain ⟨x0, x1, x2, f0, f1, f2⟩ := P3.out.three)
 clear x0 x1 x2 f0 f1 f2 HPL
 have q3 := Kept.set (S := fun e => e = 75) (i := 1) P3.out rfl (.map (some bm))
 have P4 := h! (show Box (w3.setCell ⟨q0 + 1, 1, none⟩ (.map (some bm))) (q0 + 1) 75 #[.slice C i j, .map (some bm), .slice D u v] from by
  have := P3.out.stored 1 (.map (some bm))
  simpa using this)
 have X4 := h! ((X2.out.below HB3.out X2.out.lt).far (p := ⟨q0 + 1, 1, none⟩) (by simp) (.map (some bm)))
 have M4 := h! (mp_set (i := 1) HM.out P3.out (.map (some bm)))
 have K24 := h! ((K2.out.below HB3.out).kept q3 (by decide))
 have K34 := h! ((K3.out.below HB3.out).kept q3 (by decide))
 have HB4 := h! (show Below w.heap.size w (w3.setCell ⟨q0 + 1, 1, none⟩ (.map (some bm))) from (bmore HB2.out HB3.out n!).setCell (p := ⟨q0 + 1, 1, none⟩) (by have := HQ.out; simp; omega) _)
 clear q3
 generalize w3.setCell ⟨q0 + 1, 1, none⟩ (.map (some bm)) = w4 at P4 X4 M4 K24 K34 HB4 ⊢
 obtain ⟨x0, x1, x2⟩ := box_sk P4.out
 obtain ⟨y0, y1, y2, f0, f1, f2⟩ := X4.out.three
 have q5 := kept_put3 X4.out (.slice C i j) (.map (some bm)) (.slice D u v)
 have X5 := h! (X4.out.put3 (.slice C i j) (.map (some bm)) (.slice D u v))
 have M5 := h! (mp_set (i := 2) (mp_set (i := 1) (mp_set (i := 0) M4.out X4.out (.slice C i j)) (X4.out.stored 0 (.slice C i j)) (.map (some bm))) ((X4.out.stored 0 (.slice C i j)).stored 1 (.map (some bm))) (.slice D u v))
 have K25 := h! (K24.out.kept q5 (by decide))
 have K35 := h! (K34.out.kept q5 (by decide))
 have HB5 := h! (below_put3 HB4.out (by have := HQ.out; omega) (.slice C i j) (.map (some bm)) (.slice D u v) (g := q0))
 clear q5
 go_wp2_with fail
 obtain ⟨u0, u1, u2⟩ := box_sk X5.out
 exact bodyPost_ret (v := .agg #[.slice C i j, .map (some bm), .slice D u v]) (by simp [results, Tryz.results31, go_sem, u0, u1, u2]; try rfl) rfl ⟨_, rfl, ⟨C, i, j, bm, D, u, v, _, rfl, K25.out, by have := M5.out; rw [List.map_map] at this; exact this, K35.out⟩, HB5.out⟩
end Go.Proofs.YteebeiaokfenmaaGreat.KP

namespace Go.Proofs.YteebeiaokfenmaaGreat.KP
open Go.RowKit CP TP LP
open CM (Mg Cm)
open TM (Sp)
open KM (Wt Sk)
set_option linter.unusedVariables false
set_option linter.unusedSimpArgs false
theorem cmsO_kept {S : TypeId → Prop} {w w' : World} {b : Nat} {v : Value} {cs : List Cm} (h : CmsO w b v cs) (k : Kept S w w') (hi : ¬ S 3) (hc : ¬ S 91) : CmsO w' b v cs := by
 obtain ⟨l, h1, h2, h3⟩ := h
 refine ⟨l, h1, k.own h2 hc, fun e he => ?_⟩
 obtain ⟨g1, g2, g3, g4, g5, g6⟩ := h3 e he
 have r1 := rowGe_kept k hi (⟨g1, fun ad e hn => (g3 ad e hn).1, g5⟩ : RowGe w b e.A e.c e.x.m.gs)
 have r2 := rowGe_kept k hi (⟨g2, fun ad e hn => (g4 ad e hn).1, g6⟩ : RowGe w b e.B e.d e.x.ms)
 exact ⟨r1.1, r2.1, g3, g4, r1.3, r2.3⟩
theorem PlrIs.kept {S : TypeId → Prop} {w w' : World} {v : Value} {g : Int} {cs : List Cm} (h : PlrIs w v g cs) (k : Kept S w w') (hi : ¬ S 3) (hc : ¬ S 91) (hs : ¬ S 73) : PlrIs w' v g cs := by
 obtain ⟨pc, pg, sv, b, e, h1, h2, h3⟩ := h
 exact ⟨pc, pg, sv, b, e, k.box _ _ _ hs h1, k.box _ _ _ hi h2, cmsO_kept h3 k hi hc⟩
def PsIs (w : World) (A : Option Addr) (L : List (List Cm)) : Prop := ∀ (g : Nat) l, L[g]? = some l → ∃ bl o v, A = some ⟨bl, o, none⟩ ∧ bl < w.heap.size ∧ w.cell? ⟨bl, o + g, none⟩ = some v ∧ PlrIs w v g l
theorem PsIs.below {w w' : World} {A : Option Addr} {L : List (List Cm)} (h : PsIs w A L) (hb : Below w.heap.size w w') : PsIs w' A L := fun g l hl => by
 obtain ⟨bl, o, v, e, h1, h2, h3⟩ := h g l hl
 exact ⟨bl, o, v, e, Nat.lt_of_lt_of_le h1 hb.size, (hb.cell (p := ⟨bl, o + g, none⟩) h1).trans h2, h3.below hb⟩
def AlIs (w : World) (A : Option Addr) (L : List (List Cm)) : Prop := ∀ g : Nat, g < L.length → ∃ (bl o : Nat) (A' : Option Addr) (n c b : Nat) (B : Option Addr) (m d : Nat), A = some ⟨bl, o, none⟩ ∧ bl < w.heap.size ∧ w.cell? ⟨bl, o + g * 3, none⟩ = some (.slice A' n c) ∧ w.cell? ⟨bl, o + g * 3 + 1, none⟩ = some (.map (some b)) ∧ w.cell? ⟨bl, o + g * 3 + 2, none⟩ = some (.slice B m d) ∧
 ToIs w (.agg #[.slice A' n c, .map (some b), .slice B m d]) (OM.tg L g) (OM.fins g (OM.lg L g))
theorem AlIs.below {w w' : World} {A : Option Addr} {L : List (List Cm)} (h : AlIs w A L) (hb : Below w.heap.size w w') : AlIs w' A L := fun g hl => by
 obtain ⟨bl, o, A', n, c, b, B, m, d, e, h1, h2, h3, h4, h5⟩ := h g hl
 exact ⟨bl, o, A', n, c, b, B, m, d, e, Nat.lt_of_lt_of_le h1 hb.size, (hb.cell (p := ⟨bl, o + g * 3, none⟩) h1).trans h2, (hb.cell (p := ⟨bl, o + g * 3 + 1, none⟩) h1).trans h3, (hb.cell (p := ⟨bl, o + g * 3 + 2, none⟩) h1).trans h4, h5.below hb⟩
def firstE : List (List ByteArray) → Int
 | [] => 0
 | l :: r => if LM.chk l = 0 then firstE r else LM.chk l
def allE (ls : List (List ByteArray)) : Int := if 4 < ls.length then 4 else firstE ls
def cmL (ls : List (List ByteArray)) : List (List Cm) := ls.map LM.cmds
theorem firstE_zero : ∀ {ls : List (List ByteArray)}, firstE ls = 0 → ∀ l ∈ ls, LM.chk l = 0
 | [], _, l, hl => by cases hl
 | x :: r, h, l, hl => by
  unfold firstE at h
  by_cases hx : LM.chk x = 0
  ·rw [if_pos hx] at h
   rcases List.mem_cons.1 hl with rfl | hl
   ·exact hx
   ·exact firstE_zero h l hl
  ·rw [if_neg hx] at h; exact absurd h hx
theorem allE_zero {ls : List (List ByteArray)} (h : allE ls = 0) : OM.Logs (cmL ls) ∧ ls.length ≤ 4 ∧ ∀ l ∈ ls, LM.chk l = 0 := by
 unfold allE at h
 by_cases hl : 4 < ls.length
 ·rw [if_pos hl] at h; exact absurd h (by decide)
 ·rw [if_neg hl] at h
  have h2 := firstE_zero h
  refine ⟨⟨by unfold cmL; rw [List.length_map]; omega, fun l hl c hc => ?_⟩, by omega, h2⟩
  obtain ⟨x, hx, rfl⟩ := List.mem_map.1 hl
  exact (log_may (h2 x hx)).1 c hc
theorem firstE_step {ls : List (List ByteArray)} {k : Nat} {l : List ByteArray} (h : ls[k]? = some l) : firstE (ls.drop k) = if LM.chk l = 0 then firstE (ls.drop (k + 1)) else LM.chk l := by
 have hk := (List.getElem?_eq_some_iff.1 h)
 rw [List.drop_eq_getElem_cons hk.1, hk.2]
 rfl
theorem firstE_end (ls : List (List ByteArray)) : firstE (ls.drop ls.length) = 0 := by rw [List.drop_length]; rfl
end Go.Proofs.YteebeiaokfenmaaGreat.KP

namespace Go.Proofs.YteebeiaokfenmaaGreat.KP
open Go.RowKit CP TP LP
open Go.Maps (Keyed IsMap Tidy int_keyed keyOf_int_mk)
open CM (Mg Cm)
open TM (Sp)
open KM (Wt Sk)
set_option linter.unusedVariables false
set_option linter.unusedSimpArgs false
set_option maxRecDepth 100000
def FdQ (T : List (Int × Mg)) (id : Int) (w0 w : World) (e : Ending) (w' : World) : Prop := ∃ (b : Bool) (A : Option Addr) (c : Nat) (y : Wt), e = .returned (.tuple #[vwt A c y, .bool b]) ∧ Below w.heap.size w w' ∧ RowIs w0 A c y.m.gs ∧
 ((b = true ∧ ∃ p, OM.fd T id = some p ∧ y = toWt p) ∨ (b = false ∧ OM.fd T id = none ∧ y = ⟨CM.mz, 0, false⟩))
theorem fd_ids {T : List (Int × Mg)} {id : Int} : (id ∈ T.map fun p => p.2.id) ↔ ∃ p, OM.fd T id = some p := by
 constructor
 ·intro h
  obtain ⟨p, hp, rfl⟩ := List.mem_map.1 h
  rcases hf : OM.fd T p.2.id with _ | q
  ·exact absurd rfl (OM.fd_none hf p hp)
  ·exact ⟨q, rfl⟩
 ·rintro ⟨p, hp⟩
  obtain ⟨h1, h2⟩ := OM.fd_some hp
  exact List.mem_map.2 ⟨p, h1, h2⟩
set_option maxHeartbeats 2000000 in
theorem pfind_any (v : Value) (T : List (Int × Mg)) (F : List Cm) (id : Int) (w0 w : World) (h : ToIs w0 v T F) (hbw : Below w0.heap.size w0 w) (hn : (T.map fun p => p.2.id).Nodup) (hid : i64In id) : Calls Tryz.prog 63 #[v, .int .i64 id] w (FdQ T id w0 w) := by
 have HBW := h! hbw
 obtain ⟨A, n, c, b, B, m, d, rfl, h1, h2, _⟩ := h
 have H1 := h! h1
 have HN := h! hn
 obtain ⟨b', e, hm⟩ := h2
 injection e with e
 injection e with e
 subst e
 have HM := h! (fun W (hb : Below w.heap.size w W) => ownsMap_below hm (bmore hbw hb n!))
 obtain ⟨ids, hids⟩ : ∃ ids, ids = T.map fun p => p.2.id := ⟨_, rfl⟩
 rw [← hids] at HM HN
 have HHAS := h! (show Maps.has (plD ids) (.int .i64 id) = true ↔ ∃ p, OM.fd T id = some p by rw [plD_has, hids, decide_eq_true_iff]; exact fd_ids)
 have hlen : T.length = n := by have := h1.len; rwa [List.length_map] at this
 have HL := h! hlen
 have HIDS := h! hids
 clear h1 hn hm hids hlen hbw
 obtain ⟨q0, hq0⟩ : ∃ q0, w.heap.size = q0 := ⟨_, rfl⟩
 obtain ⟨W1, hW1⟩ : ∃ W1, W1 = (w.alloc (.cells #[.slice A n c, .map (some b), .slice B m d] 75)).alloc (.cells #[.int .i64 0, .slice none 0 0, .int .i64 0, .string ⟨#[]⟩, .string ⟨#[]⟩, .int .i64 0, .bool false] 78) := ⟨_, rfl⟩
 have HB := h! (show Below w.heap.size w W1 by rw [hW1]; exact ((Below.refl _ _).alloc n! _).alloc (by simp) _)
 have X := h! (show Box W1 q0 75 #[.slice A n c, .map (some b), .slice B m d] by rw [hW1]; exact (Box.new_at _ hq0).alloc _)
 have Y := h! (show Box W1 (q0 + 1) 78 #[.int .i64 0, .slice none 0 0, .int .i64 0, .string ⟨#[]⟩, .string ⟨#[]⟩, .int .i64 0, .bool false] by rw [hW1]; exact Box.new_at _ (by rw [← hq0]; simp))
 have HQ := h! hq0
 go_enter Tryz.func63, Tryz.ntmps63
 go_upto_region 1 with (fail)
 rw [← hW1]
 clear hW1
 try simp only [hq0]
 clear hq0
 obtain ⟨x0, x1, x2⟩ := box_sk X.out
 rcases hf : OM.fd T id with _ | p
 ·have HF := h! hf
  have hh : Maps.has (plD ids) (.int .i64 id) = false := by
   rw [← Bool.not_eq_true, HHAS.out]
   rintro ⟨p, hp⟩
   rw [hf] at hp
   cases hp
  clear hf
  obtain ⟨⟨y0, y1, y2, y3, y4, y5, y6⟩, f0, f1, f2, f3, f4, f5, f6⟩ := box_wtf Y.out
  have HZ := h! (pt7_box Y.out (.int .i64 0) (.slice none 0 0) (.int .i64 0) (.string ⟨#[]⟩) (.string ⟨#[]⟩) (.int .i64 0) (.bool false))
  have HZB := h! (pt7_below HB.out (g := q0 + 1) (by have := HQ.out; omega) (.int .i64 0) (.slice none 0 0) (.int .i64 0) (.string ⟨#[]⟩) (.string ⟨#[]⟩) (.int .i64 0) (.bool false))
  unfold pt7 at HZ HZB
  go_wp2_with (at_lookup; refine wpList_lookup_own_ok_int _ rfl _ _ 72 rfl 3 3 .i64 lawI Tryz.underlying72 Tryz.underlying3 (zeroI _) b _ _ rfl (HM.out _ HB.out) _ _ rfl (keyOf_int_mk Tryz.underlying3 (wfI hid)) ?_; intro cc hat hwc; rw [hh])
  obtain ⟨u0, u1, u2, u3, u4, u5, u6⟩ := box_wt HZ.out
  exact bodyPost_ret (v := .tuple #[.agg #[.int .i64 0, .slice none 0 0, .int .i64 0, .string ⟨#[]⟩, .string ⟨#[]⟩, .int .i64 0, .bool false], .bool false]) (by simp [results, Tryz.results63, go_sem, u0, u1, u2, u3, u4, u5, u6]; try rfl) rfl ⟨false, none, 0, ⟨CM.mz, 0, false⟩, rfl, HZB.out, RowIs.none _, .inr ⟨rfl, HF.out, rfl⟩⟩
 ·have HF := h! hf
  have hh : Maps.has (plD ids) (.int .i64 id) = true := HHAS.out.2 ⟨p, hf⟩
  obtain ⟨p1, p2⟩ := OM.fd_some hf
  obtain ⟨k, hk⟩ := List.getElem?_of_mem p1
  have hkn : k < n := by have := (List.getElem?_eq_some_iff.1 hk).1; have := HL.out; omega
  have HAT := h! (plD_at HN.out (k := k) (x := id) (by rw [HIDS.out, List.getElem?_map, hk]; show some p.2.id = _; rw [p2]))
  obtain ⟨bl, o, B8, d8, rfl, _, hbl, hat0, hrow⟩ := wts_at H1.out (show (T.map toWt)[k]? = some (toWt p) by rw [List.getElem?_map, hk]; rfl)
  have HRW0 := h! hrow
  obtain ⟨z0, z1, z2, z3, z4, z5, z6⟩ := hat0.below hbl (bmore HBW.out HB.out n!)
  have hn63 : n ≤ 9223372036854775807 := H1.out.small
  clear hf p1 p2 hk hrow hat0
  obtain ⟨t, ⟨ai, ag, at_, ak, ab⟩⟩ := p
  unfold toWt at z0 z1 z2 z3 z4 z5 z6
  simp only at z0 z1 z2 z3 z4 z5 z6
  have HRW := h! (show RowIs w0 B8 d8 ag from HRW0.out)
  have hk0 : (0 : Int) ≤ (k : Int) := by omega
  have hkn2 : (k : Int) < (n : Int) := by omega
  obtain ⟨⟨y0, y1, y2, y3, y4, y5, y6⟩, f0, f1, f2, f3, f4, f5, f6⟩ := box_wtf Y.out
  have HZ := h! (pt7_box Y.out (.int .i64 ai) (.slice B8 ag.length d8) (.int .i64 at_) (.string ak) (.string ab) (.int .i64 t) (.bool false))
  have HZB := h! (pt7_below HB.out (g := q0 + 1) (by have := HQ.out; omega) (.int .i64 ai) (.slice B8 ag.length d8) (.int .i64 at_) (.string ak) (.string ab) (.int .i64 t) (.bool false))
  unfold pt7 at HZ HZB
  go_wp2_with (at_lookup; refine wpList_lookup_own_ok_int _ rfl _ _ 72 rfl 3 3 .i64 lawI Tryz.underlying72 Tryz.underlying3 (zeroI _) b _ _ rfl (HM.out _ HB.out) _ _ rfl (keyOf_int_mk Tryz.underlying3 (wfI hid)) ?_; intro cc hat hwc; rw [hh]; rw [HAT.out] at hat; injection hat with hat; injection hat with _ hat; subst hat)
  obtain ⟨u0, u1, u2, u3, u4, u5, u6⟩ := box_wt HZ.out
  exact bodyPost_ret (v := .tuple #[.agg #[.int .i64 ai, .slice B8 ag.length d8, .int .i64 at_, .string ak, .string ab, .int .i64 t, .bool false], .bool true]) (by simp [results, Tryz.results63, go_sem, u0, u1, u2, u3, u4, u5, u6]; try rfl) rfl ⟨true, B8, d8, toWt (t, ⟨ai, ag, at_, ak, ab⟩), rfl, HZB.out, HRW.out, .inl ⟨rfl, _, HF.out, rfl⟩⟩
end Go.Proofs.YteebeiaokfenmaaGreat.KP

namespace Go.Proofs.YteebeiaokfenmaaGreat.KP
open Go.RowKit CP TP LP
open CM (Mg Cm)
open TM (Sp)
open KM (Wt Sk)
set_option linter.unusedVariables false
set_option linter.unusedSimpArgs false
set_option maxRecDepth 100000
theorem field_to (x : Value) (b : Option Nat) (y : Value) (w : World) : (Instr.field 75 (.agg #[x, .map b, y]) 0).run Tryz.prog w = .ok x w := by kernel_rfl
def stps (T : List (Int × Mg)) : List Sp := T.map fun p => ⟨p.1, p.2.id⟩
def locS (g : Int) (l : List ByteArray) : List Sp := if asked g l = 0 then stps (OM.play g (LM.cmds l)).2.2 else []
def LcQ (S : List Sp) (r : Int) (w : World) (e : Ending) (w' : World) : Prop := ∃ v, e = .returned (.tuple #[v, .int .i64 r]) ∧ w'.ownsRow w.heap.size 46 2 v S.length (flat spc S) ∧ Below w.heap.size w w'
structure LcR (w : World) (T : List (Int × Mg)) (k : Nat) (u : Value) (wr : World) : Prop where
 bl : Below w.heap.size w wr
 ow : wr.ownsRow w.heap.size 46 2 u k (flat spc (stps (T.take k)))
theorem LcR.below {w wr w' : World} {T : List (Int × Mg)} {k : Nat} {u : Value} (h : LcR w T k u wr) (hb : Below wr.heap.size wr w') : LcR w T k u w' := ⟨bmore h.bl hb n!, own_below3 h.ow hb⟩
set_option maxHeartbeats 2000000 in
theorem plocal16_any (g : Int) (A : Option Addr) (n c : Nat) (l : List ByteArray) (w : World) (h : TxIs w A n c l) : Calls Tryz.prog 9 #[.int .i64 g, .slice A n c] w (LcQ (locS g l) (asked g l) w) := by
 obtain ⟨j0, hj, hy0, hy1, hy2⟩ := info_parts info_sp
 have HP := h! (playerOf_any g A n c l w h)
 unfold PoIs at HP
 have HA := h! (fun h0 => asked_zero (g := g) (l := l) h0)
 have HM := h! (fun h0 => log_may (l := l) h0)
 unfold locS
 obtain ⟨r, hr⟩ : ∃ r, r = asked g l := ⟨_, rfl⟩
 rw [← hr] at HP HA ⊢
 obtain ⟨cs, hcs⟩ : ∃ cs, cs = LM.cmds l := ⟨_, rfl⟩
 rw [← hcs] at HP HM ⊢
 obtain ⟨S, hS⟩ : ∃ S, S = (if r = 0 then stps (OM.play g cs).2.2 else []) := ⟨_, rfl⟩
 rw [← hS]
 have HSS := h! hS
 clear h hr hcs hS
 go_enter Tryz.func9, Tryz.ntmps9
 go_wp2_with fail
 refine (HP.out).mono ?_
 rintro e w2 ⟨hb, ⟨h0, rfl⟩ | ⟨h0, v, rfl, hv⟩⟩
 ·have hk : (r == 0) = false := by simpa using h0
  have HB2 := h! hb
  have HF := h! (show S = [] by rw [HSS.out, if_neg h0])
  clear hb HP HA HM h0
  go_wp2_with fail
  go_ret2
  exact ⟨_, rfl, by rw [HF.out]; exact World.ownsRow_nil _ _ _ _, HB2.out⟩
 ·subst h0
  obtain ⟨hg, hck⟩ := HA.out rfl
  obtain ⟨hmay, hlen⟩ := HM.out hck
  obtain ⟨T, hT⟩ : ∃ T, T = (OM.play g cs).2.2 := ⟨_, rfl⟩
  have HF := h! (show S = stps T by rw [HSS.out, if_pos rfl, hT])
  have HTL := h! (ptell_any v g cs w2 w2 hv (Below.refl _ _) hg hmay hlen)
  rw [← hT] at HTL
  have hfew : T.length ≤ 200 := by rw [hT]; exact Nat.le_trans (told_few g cs).1 hlen
  have HB2 := h! hb
  clear hb HP HA HM hck hmay hlen hT hv
  go_wp2_with fail
  refine (HTL.out).mono ?_
  rintro e w3 ⟨vt, rfl, hx, hb3⟩
  have hto := hx.is hb3
  obtain ⟨A', n', c', b', B', m', d', rfl, hkr, _, _⟩ := hto
  have hn' : n' = T.length := by have := hkr.len; rw [List.length_map] at this; exact this.symm
  have hn63 : n' ≤ 9223372036854775807 := hkr.small
  have HKR := h! hkr
  have HN := h! hn'
  have HB3 := h! (bmore HB2.out hb3 n!)
  have HT := h! (show LcR w3 T 0 (.slice none 0 0) w3 from ⟨Below.refl _ _, World.ownsRow_nil _ _ _ _⟩)
  have HBZ := h! (show n' ≤ 200 by omega)
  clear HTL hx hb3 hkr hn' HB2
  have hfl := field_to
  go_wp2_with fail
  clear hfl
  go_loopw [8, 24] (fun u i wr => ∃ k : Nat, k ≤ n' ∧ i = .int .i64 k ∧ Hid (LcR w3 T k u wr)) (fun _ i _ => n' - (intOf i).toNat)
  case atStart => exact ⟨0, by omega, rfl, HT⟩
  case round =>
   clear HT
   obtain ⟨k, hk, rfl, HT⟩ := hrel
   by_cases hlt : k < n'
   ·obtain ⟨p, hp⟩ : ∃ p, T[k]? = some p := ⟨_, List.getElem?_eq_getElem (by have := HN.out; omega)⟩
    obtain ⟨bl, o, B8, d8, rfl, _, _, ⟨x0, x1, x2, x3, x4, x5, x6⟩, _⟩ := wts_at (HKR.out.below HT.out.bl) (show (T.map toWt)[k]? = some (toWt p) by rw [List.getElem?_map, hp]; rfl)
    have HNX := h! (show stps (T.take (k + 1)) = stps (T.take k) ++ [⟨p.1, p.2.id⟩] by unfold stps; rw [List.take_add_one, hp, List.map_append]; rfl)
    clear hp
    obtain ⟨t, ⟨ai, ag, at_, ak, ab⟩⟩ := p
    unfold toWt at x0 x1 x2 x3 x4 x5 x6
    simp only at x0 x1 x2 x3 x4 x5 x6 HNX
    have hk0 : (0 : Int) ≤ (k : Int) := by omega
    have hkn : (k : Int) < (n' : Int) := by omega
    have HB := h! (show Below wr.heap.size wr (wr.alloc (.cells #[.int .i64 ai, .slice B8 ag.length d8, .int .i64 at_, .string ak, .string ab, .int .i64 t, .bool false] 78)) from (Below.refl _ _).alloc n! _)
    have Y := h! (Box.new wr 78 #[.int .i64 ai, .slice B8 ag.length d8, .int .i64 at_, .string ak, .string ab, .int .i64 t, .bool false])
    go_upto_region 8 with (fail)
    clear x0 x1 x2 x3 x4 x5 x6
    generalize wr.alloc (.cells #[.int .i64 ai, .slice B8 ag.length d8, .int .i64 at_, .string ak, .string ab, .int .i64 t, .bool false] 78) = w4 at HB Y ⊢
    generalize wr.heap.size = g4 at Y ⊢
    have HT4 := h! (HT.out.below HB.out)
    obtain ⟨y0, y1, y2, y3, y4, y5, y6⟩ := box_wt Y.out
    obtain ⟨A9, c9, rfl, hc9, hm9⟩ := own_form HT4.out.ow
    have hal : Below w4.heap.size w4 (w4.alloc (.cells #[.int .i64 t, .int .i64 ai] 46)) := b!
    have HT5 := h! (HT4.out.below hal)
    have HRG := h! (rdG_box (s := 2) (n := 1) (Box.new w4 46 #[.int .i64 t, .int .i64 ai]) (xs := spc ⟨t, ai⟩) rfl rfl)
    clear hal
    have hf := HBZ.out
    go_wp2_with (at_builtin; refine wpList_append_g _ rfl _ _ 22 rfl w3.heap.size 46 j0 _ 2 16 Tryz.underlying22 hj hy0 hy1 hy2 rfl (by omega) (.slice A9 k c9) k _ rfl HT5.out.ow (some ⟨w4.heap.size, 0, none⟩) 1 1 (spc ⟨t, ai⟩) rfl HRG.out (spc_one _) (by unfold maxLen; omega) (by omega) HT5.out.bl.size ?_; intro v2 w6 hown hgr hob; have HB6 := h! (below_row HT5.out.bl HT5.out.ow HT5.out.bl.size hgr); have HO6 := h! hown; clear hown hgr hob)
    have NX := h! (show LcR w3 T (k + 1) v2 w6 from ⟨HB6.out, by rw [HNX.out, flat_append, flat_one]; exact HO6.out⟩)
    go_wp2_with fail
    go_roundw
    case rel => exact ⟨k + 1, by omega, by go_num, NX⟩
    case measure => simp [intOf]; omega
   ·obtain rfl : n' = k := by omega
    have HE := h! (show wr.ownsRow w.heap.size 46 2 u8 T.length (flat spc (stps T)) from by have h1 := own_base HT.out.ow HB3.out.size; rw [List.take_of_length_le (by have := HN.out; omega), HN.out] at h1; exact h1)
    go_wp2_with fail
    go_ret2
    exact ⟨_, rfl, by rw [HF.out]; unfold stps; rw [List.length_map]; exact HE.out, bmore HB3.out HT.out.bl n!⟩
end Go.Proofs.YteebeiaokfenmaaGreat.KP
