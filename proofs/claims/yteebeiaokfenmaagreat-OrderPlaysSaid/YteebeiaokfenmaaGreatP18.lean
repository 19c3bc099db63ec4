/- Contracts of functions, P18: each as its theorem says. -/
import Derived.Test.YteebeiaokfenmaaGreatP17
set_option linter.unusedVariables false
set_option linter.unusedSimpArgs false
set_option maxRecDepth 100000
set_option maxHeartbeats 16000000
namespace Go.Proofs.YteebeiaokfenmaaGreat
namespace KP
open Go.RowKit CP TP LP
open CM (Mg Cm)
open TM (Sp)
open KM (Wt Sk)
structure RPl (g : Int) (cs : List Cm) (b p1 p2 : Nat) (k : Nat) (X : Nat → Prop) (W : World) : Prop where
 x : ∃ (A : Option Addr) (n c : Nat) (B : Option Addr) (m d : Nat) (C : Option Addr) (i j : Nat), Box W p1 39 #[.int .i64 (stA g cs k).c, .slice A n c, .slice B m d] ∧ Box W p2 40 #[.slice C i j] ∧
  SkO W b (vsk (stA g cs k).c (.slice A n c) (.slice B m d)) (stA g cs k) ∧ KO KM_ W b 33 (.slice C i j) (OM.play g (cs.take k)).2.1 ∧ X = fun q => q = p1 ∨ q = p2 ∨ (Value.slice C i j).ownBlock = some q
 k : k ≤ cs.length
theorem out_next {g : Int} {cs : List Cm} {k : Nat} {c : Cm} (h : cs[k]? = some c) : (OM.play g (cs.take (k + 1))).2.1 = (OM.play g (cs.take k)).2.1 ++ (OM.one (stA g cs k) g c).2 := by
 unfold stA
 rw [List.take_add_one, h]
 show (OM.play g (cs.take k ++ [c])).2.1 = _
 rw [OM.play_snoc]
 rfl
theorem out_few {g : Int} {cs : List Cm} (hg : 0 ≤ g ∧ g < 4) (hc : ∀ c ∈ cs, CM.may c) (k : Nat) : (OM.play g (cs.take k)).2.1.length ≤ 200 := by
 have hI := OM.inv (l := cs.take k) hg fun c h => hc c (List.mem_of_mem_take h)
 obtain ⟨D, h1, h2, _⟩ := hI.ds
 have := hI.m.1.2.2.2
 rw [h1, List.length_map] at this
 rw [h2, List.length_map]
 exact this
theorem sko_kept {S : TypeId → Prop} {W W' : World} {b : Nat} {v : Value} {s : Sk} (h : SkO W b v s) (hk : Kept S W W') (h1 : ¬ S 3) (h2 : ¬ S 78) (h3 : ¬ S 46) : SkO W' b v s := by
 obtain ⟨vw, vd, e, k1, k2⟩ := h
 exact ⟨vw, vd, e, KO.kept hk h1 h2 k1, hk.own k2 h3⟩
theorem skO_form {W : World} {b : Nat} {c : Int} {vw vd : Value} {s : Sk} (h : SkO W b (vsk c vw vd) s) : ∃ A a B b, vw = .slice A s.ws.length a ∧ vd = .slice B s.ds.length b := by
 obtain ⟨vw', vd', e, k1, k2⟩ := h
 unfold vsk at e
 injection e with e
 injection e with e
 injection e with _ e
 injection e with e1 e
 injection e with e2 _
 obtain ⟨A, a, h1, _⟩ := k1.g
 obtain ⟨B, d, h2, _⟩ := own_form k2
 exact ⟨A, a, B, d, by rw [e1, h1], by rw [e2, h2]⟩
theorem rPl_step {g : Int} {cs : List Cm} {b p1 p2 k bb : Nat} {W W3 : World} {c : Cm} {A : Option Addr} {n a : Nat} {B : Option Addr} {m d : Nat} {C : Option Addr} {i j : Nat} {E : Option Addr} {e r : Nat} {F : Option Addr} {f t : Nat} {G : Option Addr} {u v : Nat} {o : Obj}
  (hc : cs[k]? = some c) (hp : (KM.putF (stA g cs k) g c).2.2 = true) (hne : p1 ≠ p2) (k1 : Box W p1 39 #[.int .i64 (stA g cs k).c, .slice A n a, .slice B m d]) (k2 : Box W p2 40 #[.slice C i j])
  (k4 : KO KM_ W b 33 (.slice C i j) (OM.play g (cs.take k)).2.1) (hb : b ≤ bb) (hsb : SkO W bb (vsk (KM.putF (stA g cs k) g c).1.c (.slice E e r) (.slice F f t)) (KM.putF (stA g cs k) g c).1)
  (h1 : KO KM_ W3 b 33 (.slice G u v) ((OM.play g (cs.take k)).2.1 ++ (KM.putF (stA g cs k) g c).2.1))
  (hgr : ((((W.alloc o).setCell ⟨p1, 0, none⟩ (.int .i64 (KM.putF (stA g cs k) g c).1.c)).setCell ⟨p1, 1, none⟩ (.slice E e r)).setCell ⟨p1, 2, none⟩ (.slice F f t)).grownBy W3 (Value.slice C i j).ownBlock)
  (hob : (Value.slice G u v).ownBlock = (Value.slice C i j).ownBlock ∨ (Value.slice G u v).ownBlock = some ((((W.alloc o).setCell ⟨p1, 0, none⟩ (.int .i64 (KM.putF (stA g cs k) g c).1.c)).setCell ⟨p1, 1, none⟩ (.slice E e r)).setCell ⟨p1, 2, none⟩ (.slice F f t)).heap.size) :
  ∃ X', RPl g cs b p1 p2 (k + 1) X' (W3.setCell ⟨p2, 0, none⟩ (.slice G u v)) ∧ KpX (fun q => q = p1 ∨ q = p2 ∨ (Value.slice C i j).ownBlock = some q) W (W3.setCell ⟨p2, 0, none⟩ (.slice G u v)) ∧ ∀ q, X' q → (q = p1 ∨ q = p2 ∨ (Value.slice C i j).ownBlock = some q) ∨ W.heap.size ≤ q := by
 have e1 : stA g cs (k + 1) = (KM.putF (stA g cs k) g c).1 := by rw [stA_next hc, one_ok hp]
 have e2 : (OM.play g (cs.take (k + 1))).2.1 = (OM.play g (cs.take k)).2.1 ++ (KM.putF (stA g cs k) g c).2.1 := by rw [out_next hc, one_ok hp]
 obtain ⟨S2, hS2⟩ : ∃ S2, S2 = (KM.putF (stA g cs k) g c).1 := ⟨_, rfl⟩
 rw [← hS2] at hsb hgr hob e1
 obtain ⟨W2, hW2⟩ : ∃ W2, W2 = ((((W.alloc o).setCell ⟨p1, 0, none⟩ (.int .i64 S2.c)).setCell ⟨p1, 1, none⟩ (.slice E e r)).setCell ⟨p1, 2, none⟩ (.slice F f t)) := ⟨_, rfl⟩
 rw [← hW2] at hgr hob
 have hal : Below W.heap.size W (W.alloc o) := b!
 have b1 : Box W2 p1 39 #[.int .i64 S2.c, .slice E e r, .slice F f t] := by rw [hW2]; exact (k1.below hal k1.lt).put3 _ _ _
 have b2 : Box W2 p2 40 #[.slice C i j] := by rw [hW2]; exact (k2.below hal k2.lt).putFar3 (fun e => hne e.symm) _ _ _
 have q1 : Kept (fun e => e = 39) W W2 := by rw [hW2]; exact (Kept.of_below hal).trans (kept_put3 (k1.below hal k1.lt) _ _ _)
 have s2 := sko_kept hsb q1 (by decide) (by decide) (by decide)
 have o2 := KO.kept q1 (by decide) (by decide) k4
 have q2 : Kept (fun e => e = 33) W2 W3 := by
  obtain ⟨es, _, ho, _⟩ := o2
  exact Kept.grown ho rfl hgr
 have s3 := sko_kept s2 q2 (by decide) (by decide) (by decide)
 have b13 := q2.box _ _ _ (by decide) b1
 have b23 := q2.box _ _ _ (by decide) b2
 have q3 : Kept (fun e => e = 40) W3 (W3.setCell ⟨p2, 0, none⟩ (.slice G u v)) := Kept.set (S := fun e => e = 40) b23 rfl _
 have hsz : W.heap.size ≤ W2.heap.size := q1.size
 refine ⟨_, ⟨⟨E, e, r, F, f, t, G, u, v, ?_, ?_, ?_, ?_, rfl⟩, (List.getElem?_eq_some_iff.1 hc).1⟩, ?_, fun q hq => ?_⟩
 ·rw [e1]; exact b13.far (p := ⟨p2, 0, none⟩) hne _
 ·have := b23.stored 0 (.slice G u v)
  simpa using this
 ·rw [e1]
  obtain ⟨vw, vd, x1, x2, x3⟩ := sko_kept s3 q3 (by decide) (by decide) (by decide)
  exact ⟨vw, vd, x1, x2.mono hb, own_base x3 hb⟩
 ·rw [e2]; exact KO.kept q3 (by decide) (by decide) h1
 ·refine ⟨?_, ?_, ?_, ?_, fun q hq hn => ?_⟩
  ·exact (q3.os.trans q2.os).trans q1.os
  ·exact (q3.tape.trans q2.tape).trans q1.tape
  ·exact (q3.output.trans q2.output).trans q1.output
  ·exact Nat.le_trans (Nat.le_trans q1.size q2.size) q3.size
  ·have n1 : q ≠ p1 := fun k => hn (.inl k)
   have n2 : q ≠ p2 := fun k => hn (.inr (.inl k))
   have n3 : some q ≠ (Value.slice C i j).ownBlock := fun k => hn (.inr (.inr k.symm))
   rw [Below.heap_setCell _ ⟨p2, 0, none⟩ _ q n2, hgr.block q (by omega) n3, hW2]
   exact (((Below.heap_setCell _ ⟨p1, 2, none⟩ _ q n1).trans (Below.heap_setCell _ ⟨p1, 1, none⟩ _ q n1)).trans (Below.heap_setCell _ ⟨p1, 0, none⟩ _ q n1)).trans (hal.block q hq)
 ·rcases hq with k | k | k
  ·exact .inl (.inl k)
  ·exact .inl (.inr (.inl k))
  ·rcases hob with z | z
   ·exact .inl (.inr (.inr (z.symm.trans k)))
   ·rw [z] at k; injection k with k; exact .inr (by omega)
theorem seePl (g : Int) (cs : List Cm) (W0 w : World) (b p1 p2 : Nat) (hg : 0 ≤ g ∧ g < 4) (hcs : ∀ c ∈ cs, CM.may c) (h1 : p1 < w.heap.size) (h2 : p2 < w.heap.size) (hne : p1 ≠ p2) (hb : b ≤ w.heap.size) :
  See 41 #[.pointer (some ⟨p1, 0, none⟩), .pointer (some ⟨p2, 0, none⟩)] g cs W0 w.heap.size (RPl g cs b p1 p2) := by
 refine ⟨fun args w => by rfl, fun k X W W' h hB hK => ?_, fun k X W h q hq => ?_, fun k c X W hc ho h => ?_, ?_⟩
 ·obtain ⟨⟨A, n, c, B, m, d, C, i, j, k1, k2, k3, k4, rfl⟩, hk⟩ := h
  refine ⟨⟨A, n, c, B, m, d, C, i, j, k1.below hB h1, k2.below hB h2, sko_kept k3 hK (by decide) (by decide) (by decide), k4.kept hK (by decide) (by decide), rfl⟩, hk⟩
 ·obtain ⟨⟨A, n, c, B, m, d, C, i, j, k1, k2, k3, k4, rfl⟩, hk⟩ := h
  rcases hq with rfl | rfl | hq
  ·exact k1.lt
  ·exact k2.lt
  ·exact (k4.blk hq).2
 ·obtain ⟨⟨A, n, c', B, m, d, C, i, j, k1, k2, k3, k4, rfl⟩, hk⟩ := h
  have e1 : stA g cs (k + 1) = stA g cs k := by rw [stA_next hc, ho]
  have e2 : (OM.play g (cs.take (k + 1))).2.1 = (OM.play g (cs.take k)).2.1 := by rw [out_next hc, ho, List.append_nil]
  exact ⟨⟨A, n, c', B, m, d, C, i, j, by rw [e1]; exact k1, k2, by rw [e1]; exact k3, by rw [e2]; exact k4, rfl⟩, (List.getElem?_eq_some_iff.1 hc).1⟩
 ·intro k e X W va vda vb vdb vm bb hc hp hR hB0 r1 r2 hsa hX hbb hb1 hsb hm
  obtain ⟨⟨A, n, a, B, m, d, C, i, j, k1, k2, k3, k4, rfl⟩, hk⟩ := hR
  obtain ⟨A5, a5, B5, b5, n5, m5, rfl, rfl⟩ := skIs_form hsa
  obtain ⟨A6, a6, B6, b6, rfl, rfl⟩ := skO_form hsb
  obtain ⟨A7, a7, rfl, _⟩ := hm.g
  have hi : i = (OM.play g (cs.take k)).2.1.length := k4.slice.1
  have hfew : i + (KM.putF (stA g cs k) g e.x).2.1.length ≤ 200 := by
   have := out_few hg hcs (k + 1)
   rw [out_next hc, one_ok hp, List.length_append, ← hi] at this
   exact this
  obtain ⟨j0, hj, hy0, hy1, hy2⟩ := info_parts info_mg
  obtain ⟨q0, hq0⟩ : ∃ q0, W.heap.size = q0 := ⟨_, rfl⟩
  have hqn : q0 ≠ p1 := by have := k1.lt; omega
  have HST := h! (fun (W3 : World) (G : Option Addr) (u v : Nat) (o : Obj) h1 hgr hob => rPl_step (W3 := W3) (G := G) (u := u) (v := v) (o := o) hc hp hne k1 k2 k4 (Nat.le_trans hb hb1) hsb h1 hgr hob)
  have hne4 : ∀ q, (Value.slice C i j).ownBlock = some q → q < bb := fun q hq => hX q (.inr (.inr hq))
  have HN4 := h! hne4
  obtain ⟨O1, hO1⟩ : ∃ O1, O1 = (OM.play g (cs.take k)).2.1 := ⟨_, rfl⟩
  obtain ⟨O2, hO2⟩ : ∃ O2, O2 = (KM.putF (stA g cs k) g e.x).2.1 := ⟨_, rfl⟩
  obtain ⟨S1, hS1⟩ : ∃ S1, S1 = stA g cs k := ⟨_, rfl⟩
  rw [← hO1] at HST k4
  rw [← hO2] at HST hm hfew
  rw [← hS1] at HST hsa k1 hsb hO2 ⊢
  obtain ⟨S2, hS2⟩ : ∃ S2, S2 = (KM.putF S1 g e.x).1 := ⟨_, rfl⟩
  rw [← hS2] at HST hsb ⊢
  rw [← hO2]
  have X0 := h! k1
  have X2 := h! k2
  have HK4 := h! k4
  have HM := h! hm
  clear hne4 hsa hsb hX k1 k2 k3 k4 hm hO1 hO2 hS1 hS2 hB0 r1 r2 hc hp hi hk
  obtain ⟨A0, c0, B0, d0, ⟨ck, ⟨ai, ag, at_, ak, ab⟩, bid, btm, bms, btp, bwh, bn⟩⟩ := e
  unfold scells
  simp only
  show Calls Tryz.prog 41 #[.agg #[.int .u8 ck, .int .i64 ai, .slice A0 ag.length c0, .int .i64 at_, .string ak, .string ab, .int .i64 bid, .int .i64 btm, .slice B0 bms.length d0, .int .i64 btp, .int .i64 bwh, .int .i64 bn, .int .i64 S1.c, .slice A5 n5 a5, .slice B5 m5 b5, .int .i64 S2.c, .slice A6 S2.ws.length a6, .slice B6 S2.ds.length b6, .slice A7 O2.length a7], .pointer (some ⟨p1, 0, none⟩), .pointer (some ⟨p2, 0, none⟩)] W _
  have Y := h! (Box.new_at (w := W) (t := 93) (cs := #[.int .u8 ck, .int .i64 ai, .slice A0 ag.length c0, .int .i64 at_, .string ak, .string ab, .int .i64 bid, .int .i64 btm, .slice B0 bms.length d0, .int .i64 btp, .int .i64 bwh, .int .i64 bn, .int .i64 S1.c, .slice A5 n5 a5, .slice B5 m5 b5, .int .i64 S2.c, .slice A6 S2.ws.length a6, .slice B6 S2.ds.length b6, .slice A7 O2.length a7]) q0 hq0)
  obtain ⟨o, ho⟩ : ∃ o, o = Obj.cells #[.int .u8 ck, .int .i64 ai, .slice A0 ag.length c0, .int .i64 at_, .string ak, .string ab, .int .i64 bid, .int .i64 btm, .slice B0 bms.length d0, .int .i64 btp, .int .i64 bwh, .int .i64 bn, .int .i64 S1.c, .slice A5 n5 a5, .slice B5 m5 b5, .int .i64 S2.c, .slice A6 S2.ws.length a6, .slice B6 S2.ds.length b6, .slice A7 O2.length a7] 93 := ⟨_, rfl⟩
  have HO := h! ho
  have hal : Below W.heap.size W (W.alloc o) := b!
  rw [← ho] at Y
  have X01 := h! (X0.out.below hal X0.out.lt)
  have X21 := h! (X2.out.below hal X2.out.lt)
  have HK41 := h! (HK4.out.below hal)
  have HM1 := h! (HM.out.below hal)
  have HST1 := h! (fun (W3 : World) (G : Option Addr) (u v : Nat) => HST.out W3 G u v o)
  have HBL := h! (show b ≤ W.heap.size from Nat.le_trans hb (Nat.le_trans hb1 hbb))
  have HBL1 := h! (Nat.le_trans HBL.out hal.size)
  have hbb' : b ≤ bb := Nat.le_trans hb hb1
  clear hal HST X0 X2 HK4 HM
  go_enter Tryz.func41, Tryz.ntmps41
  go_upto_region 1 with (fail)
  rw [← ho]
  clear ho
  generalize hW1 : W.alloc o = W1 at Y X01 X21 HK41 HM1 HST1 HBL1 ⊢
  try simp only [hq0]
  obtain ⟨x0, x1, x2, f0, f1, f2⟩ := X01.out.three
  have y15 := Y.out.cell 15
  have y16 := Y.out.cell 16
  have y17 := Y.out.cell 17
  simp at y15 y16 y17
  have P1 := h! (X01.out.put3 (.int .i64 S2.c) (.slice A6 S2.ws.length a6) (.slice B6 S2.ds.length b6))
  have P2 := h! (X21.out.putFar3 (fun e => hne e.symm) (.int .i64 S2.c) (.slice A6 S2.ws.length a6) (.slice B6 S2.ds.length b6))
  have PY := h! (Y.out.putFar3 hqn (.int .i64 S2.c) (.slice A6 S2.ws.length a6) (.slice B6 S2.ds.length b6))
  have HKP := kept_put3 X01.out (.int .i64 S2.c) (.slice A6 S2.ws.length a6) (.slice B6 S2.ds.length b6)
  have PK := h! (HK41.out.kept HKP (by decide) (by decide))
  have PM := h! (HM1.out.kept HKP (by decide) (by decide))
  have PS := h! (Nat.le_trans HBL1.out HKP.size)
  clear HKP hq0 hW1
  go_upto_region 2 with (fail)
  clear x0 x1 x2 f0 f1 f2 y15 y16 y17
  generalize (((W1.setCell ⟨p1, 0, none⟩ (.int .i64 S2.c)).setCell ⟨p1, 1, none⟩ (.slice A6 S2.ws.length a6)).setCell ⟨p1, 2, none⟩ (.slice B6 S2.ds.length b6)) = W2 at P1 P2 PY PK PM HST1 PS ⊢
  have z0 := P2.out.cell 0
  have y18 := PY.out.cell 18
  simp at z0 y18
  go_wp2_with (at_builtin; refine wpList_append_kos (K := KM_) rfl _ _ 40 rfl j0 _ 72 Tryz.underlying40 hj hy0 hy1 hy2 rfl rfl PK.out rfl PM.out hbb' (Below.refl _ _) (fun q hq => .inl (HN4.out q hq)) (by unfold maxLen; omega) (by omega) PS.out ?_; intro A8 c8 w3 hko hgr hob; have HF := h! (HST1.out w3 A8 _ c8 hko hgr hob); have HP2 := h! (P2.out.grown hgr (by obtain ⟨es, _, ho, _⟩ := PK.out; exact own_ne ho P2.out (by decide))); clear hko hgr hob z0 y18; have z0 := HP2.out.cell 0; have z1 := HP2.out.frozen 0; simp at z0)
  go_end0
  exact ⟨rfl, HF.out⟩
theorem seeTe (g : Int) (cs : List Cm) (W0 w : World) (b p : Nat) (hg : 0 ≤ g ∧ g < 4) (hcs : ∀ c ∈ cs, CM.may c) (hlen : cs.length ≤ 200) (h1 : p < w.heap.size) (hb : b ≤ w.heap.size) :
  See 58 #[.pointer (some ⟨p, 0, none⟩)] g cs W0 w.heap.size (RTe g cs W0 b p) := by
 refine ⟨fun args w => by rfl, fun k X W W' h hB hK => ?_, fun k X W h q hq => ?_, fun k c X W hc ho h => ?_, ?_⟩
 ·obtain ⟨⟨C, i, j, D, u, v, k1, k2, k3, rfl⟩, hk⟩ := h
  exact ⟨⟨C, i, j, D, u, v, k1.below hB h1, k2.kept hK (by decide), k3.kept hK (by decide), rfl⟩, hk⟩
 ·obtain ⟨⟨C, i, j, D, u, v, k1, k2, k3, rfl⟩, hk⟩ := h
  rcases hq with rfl | hq | hq
  ·exact k1.lt
  ·exact (k2.blk hq).2
  ·exact (k3.blk hq).2
 ·have e : cs.take (k + 1) = cs.take k ++ [c] := by rw [List.take_add_one, hc]; rfl
  have e1 : (OM.play g (cs.take (k + 1))).2.2 = (OM.play g (cs.take k)).2.2 := by
   rw [e, OM.times_snoc, OM.play_snoc]
   unfold OM.nx stA at *
   simp only [ho]
   unfold OM.tm1
   rw [if_neg (Nat.lt_irrefl _), List.append_nil]
  have e2 : OM.fins g (cs.take (k + 1)) = OM.fins g (cs.take k) := by
   rw [e, OM.fins_snoc]
   unfold stA at *
   rw [ho]
   unfold OM.fin1
   rw [if_neg (fun k => k.2 rfl), List.append_nil]
  exact rTe_same h hc e1 e2 (Below.refl _ _)
 ·intro k e X W va vda vb vdb vm bb hc hp hR hB0 r1 r2 hsa hX hbb hb1 hsb hm
  have hRR := h! hR
  obtain ⟨⟨C, i, j, D, u, v, k1, k2, k3, rfl⟩, hk⟩ := hR
  obtain ⟨A5, a5, B5, b5, n5, m5, rfl, rfl⟩ := skIs_form hsa
  obtain ⟨A6, a6, B6, b6, rfl, rfl⟩ := skO_form hsb
  obtain ⟨A7, a7, rfl, _⟩ := hm.g
  have hnx := tm_next hc hg hcs hp
  obtain ⟨t1, t2⟩ := told_few g (cs.take k)
  have htk : (cs.take k).length ≤ 200 := by rw [List.length_take]; omega
  have f1 := k2.len
  have f2 := k3.len
  rw [List.length_map] at f1
  have hi : i ≤ 200 := by omega
  have hu : u ≤ 200 := by omega
  clear f1 f2 t1 t2 htk
  obtain ⟨j0, hj, hy0, hy1, hy2⟩ := info_parts info_wt
  obtain ⟨j1, hz, hz0, hz1, hz2⟩ := info_parts info_cm
  obtain ⟨q0, hq0⟩ : ∃ q0, W.heap.size = q0 := ⟨_, rfl⟩
  have HDO := h! (fun (kind : Int) W' (hb : Below W.heap.size W W') => pdoes_any kind e.A e.c e.B e.d e.x (stA g cs k) (KM.putF (stA g cs k) g e.x).1 A5 n5 a5 B5 m5 b5 A6 _ a6 B6 _ b6 A7 (KM.putF (stA g cs k) g e.x).2.1.length a7 W' (hsa.below hb) (hsb.is.below hb))
  have HSB := h! (fun (W3 : World) (Wa : World) (G : Option Addr) (x y : Nat) hb h1 h2 hgr hob => rTe_b (W3 := W3) (Wa := Wa) (G := G) (x := x) (y := y) hc k1 k3 k2 hb h1 h2 hgr hob)
  have HSF := h! (fun (W3 : World) (Wa : World) (G : Option Addr) (x y : Nat) hb h1 h2 hgr hob => rTe_f (W3 := W3) (Wa := Wa) (G := G) (x := x) (y := y) hc k1 k3 k2 hb h1 h2 hgr hob)
  have HSS := h! (fun (W' : World) h1 h2 (hb : Below W.heap.size W W') => rTe_same hRR.out hc h1 h2 hb)
  obtain ⟨T1, hT1⟩ : ∃ T1, T1 = (OM.play g (cs.take k)).2.2 := ⟨_, rfl⟩
  obtain ⟨T2, hT2⟩ : ∃ T2, T2 = (OM.play g (cs.take (k + 1))).2.2 := ⟨_, rfl⟩
  obtain ⟨F1, hF1⟩ : ∃ F1, F1 = OM.fins g (cs.take k) := ⟨_, rfl⟩
  obtain ⟨F2, hF2⟩ : ∃ F2, F2 = OM.fins g (cs.take (k + 1)) := ⟨_, rfl⟩
  obtain ⟨S1, hS1⟩ : ∃ S1, S1 = stA g cs k := ⟨_, rfl⟩
  obtain ⟨O2, hO2⟩ : ∃ O2, O2 = (KM.putF (stA g cs k) g e.x).2.1 := ⟨_, rfl⟩
  obtain ⟨S2, hS2⟩ : ∃ S2, S2 = (KM.putF (stA g cs k) g e.x).1 := ⟨_, rfl⟩
  rw [← hS2, ← hO2, ← hS1] at HDO ⊢
  rw [← hS1] at hS2
  rw [← hT1, ← hT2, ← hF1, ← hF2, ← hS1, ← hS2] at hnx
  rw [← hT2] at HSB HSF HSS
  rw [← hF2] at HSB HSF HSS
  rw [← hF1] at HSB HSS k3
  rw [← hT1] at HSF HSS k2
  have HNX := h! hnx
  have X1 := h! k1
  have X2 := h! k2
  have X3 := h! k3
  have HBL := h! (show b ≤ W.heap.size from Nat.le_trans hb (Nat.le_trans hb1 hbb))
  have HRA := h! (show RowIs W0 e.A e.c e.x.m.gs ∧ RowIs W0 e.B e.d e.x.ms from ⟨r1, r2⟩)
  clear hsa hsb hX k1 k2 k3 hm hT1 hT2 hF1 hF2 hS1 hS2 hO2 hB0 r1 r2 hc hp hk hnx hRR hbb hb1
  obtain ⟨A0, c0, B0, d0, x⟩ := e
  obtain ⟨xx, hxx⟩ : ∃ xx, xx = x := ⟨_, rfl⟩
  have HXX := h! hxx
  obtain ⟨ck, ⟨ai, ag, at_, ak, ab⟩, bid, btm, bms, btp, bwh, bn⟩ := x
  clear hxx
  unfold scells at HDO ⊢
  simp only at HDO HNX HRA ⊢
  show Calls Tryz.prog 58 #[.agg #[.int .u8 ck, .int .i64 ai, .slice A0 ag.length c0, .int .i64 at_, .string ak, .string ab, .int .i64 bid, .int .i64 btm, .slice B0 bms.length d0, .int .i64 btp, .int .i64 bwh, .int .i64 bn, .int .i64 S1.c, .slice A5 n5 a5, .slice B5 m5 b5, .int .i64 S2.c, .slice A6 S2.ws.length a6, .slice B6 S2.ds.length b6, .slice A7 O2.length a7], .pointer (some ⟨p, 0, none⟩)] W _
  obtain ⟨cl, hcl⟩ : ∃ cl : Array Value, cl = #[.int .u8 ck, .int .i64 ai, .slice A0 ag.length c0, .int .i64 at_, .string ak, .string ab, .int .i64 bid, .int .i64 btm, .slice B0 bms.length d0, .int .i64 btp, .int .i64 bwh, .int .i64 bn, .int .i64 S1.c, .slice A5 n5 a5, .slice B5 m5 b5, .int .i64 S2.c, .slice A6 S2.ws.length a6, .slice B6 S2.ds.length b6, .slice A7 O2.length a7] := ⟨_, rfl⟩
  have Y := Box.new_at (w := W) (t := 93) (cs := cl) q0 hq0
  have HB := h! (show Below W.heap.size W (W.alloc (.cells cl 93)) from (Below.refl _ _).alloc n! _)
  rw [hcl] at Y HB
  clear hcl
  have D1 := h! (fun W' (hb : Below W.heap.size W W') => HDO.out 1 W' hb)
  have D2 := h! (fun W' (hb : Below W.heap.size W W') => HDO.out 2 W' hb)
  obtain ⟨z1, hz1⟩ : ∃ z1, z1 = decide (ck = 1 ∧ S1 ≠ S2) := ⟨_, rfl⟩
  obtain ⟨z2, hz2⟩ : ∃ z2, z2 = decide (ck = 2 ∧ S1 ≠ S2) := ⟨_, rfl⟩
  have hzz : z1 = true → z2 = false := fun h => by
   rw [hz1, decide_eq_true_eq] at h
   rw [hz2, decide_eq_false_iff_not]
   omega
  have HZZ := h! hzz
  rw [← hz1] at D1 HNX
  rw [← hz2] at D2 HNX
  clear hz1 hz2 hzz HDO
  go_enter Tryz.func58, Tryz.ntmps58
  go_upto_region 1 with (fail)
  generalize W.alloc (.cells #[.int .u8 ck, .int .i64 ai, .slice A0 ag.length c0, .int .i64 at_, .string ak, .string ab, .int .i64 bid, .int .i64 btm, .slice B0 bms.length d0, .int .i64 btp, .int .i64 bwh, .int .i64 bn, .int .i64 S1.c, .slice A5 n5 a5, .slice B5 m5 b5, .int .i64 S2.c, .slice A6 S2.ws.length a6, .slice B6 S2.ds.length b6, .slice A7 O2.length a7] 93) = W1 at HB Y ⊢
  clear hq0
  have YY := h! Y
  clear Y
  go_wp2_with (refine wpList_load_step rfl _ rfl rfl YY.out rfl ?_)
  refine (D1.out _ HB.out).mono ?_
  rintro e w2 ⟨rfl, hb2⟩
  have HB2 := h! (bmore HB.out hb2 n!)
  have Y2 := h! (YY.out.below hb2 YY.out.lt)
  clear hb2 D1
  rcases z1 with _ | _
  rotate_left
  ·have hz2 := HZZ.out rfl
   subst hz2
   have N2 := h! (show F2 = F1 by have := HNX.out.2; simpa using this)
   have N1 := h! (show T2 = T1 ++ [(S2.c, ⟨ai, ag, at_, ak, ab⟩)] by have := HNX.out.1; simpa using this)
   have y0 := Y2.out.cell 0
   have y1 := Y2.out.cell 1
   have y2 := Y2.out.cell 2
   have y3 := Y2.out.cell 3
   have y4 := Y2.out.cell 4
   have y5 := Y2.out.cell 5
   have y6 := Y2.out.cell 6
   have y7 := Y2.out.cell 7
   have y8 := Y2.out.cell 8
   have y9 := Y2.out.cell 9
   have y10 := Y2.out.cell 10
   have y11 := Y2.out.cell 11
   have y12 := Y2.out.cell 12
   have y13 := Y2.out.cell 13
   have y14 := Y2.out.cell 14
   have y15 := Y2.out.cell 15
   have y16 := Y2.out.cell 16
   have y17 := Y2.out.cell 17
   have y18 := Y2.out.cell 18
   simp at y0 y1 y2 y3 y4 y5 y6 y7 y8 y9 y10 y11 y12 y13 y14 y15 y16 y17 y18
   obtain ⟨x0, x1, x2, f0, f1, f2⟩ := (X1.out.below HB2.out X1.out.lt).three
   have HKX := h! (X2.out.below HB2.out)
   have HLB := h! (Nat.le_trans HBL.out HB2.out.size)
   have HAL := h! (bmore HB2.out ((Below.refl w2.heap.size w2).alloc n! (.cells #[.int .i64 ai, .slice A0 ag.length c0, .int .i64 at_, .string ak, .string ab, .int .i64 S2.c, .bool false] 78)) n!)
   go_wp2_with (at_builtin; refine wpList_append_kx (K := KW) rfl _ _ 37 rfl 78 j0 _ 88 Tryz.underlying37 hj hy0 hy1 hy2 rfl rfl HKX.out rfl #[.int .i64 ai, .slice A0 ag.length c0, .int .i64 at_, .string ak, .string ab, .int .i64 S2.c, .bool false] (show _ = KW.cel A0 c0 ⟨⟨ai, ag, at_, ak, ab⟩, S2.c, false⟩ from rfl) HRA.out.1 (by unfold maxLen; omega) (by omega) HLB.out ?_; intro A8 c8 w3 hko hgr hob; have HF := h! (HSB.out w3 _ A8 _ c8 HAL.out (by rw [N1.out, List.map_append]; exact hko) N2.out hgr hob); have HP2 := h! ((X1.out.below HAL.out X1.out.lt).grown hgr (by obtain ⟨es, _, ho, _⟩ := HKX.out.below ((Below.refl w2.heap.size w2).alloc n! (.cells #[.int .i64 ai, .slice A0 ag.length c0, .int .i64 at_, .string ak, .string ab, .int .i64 S2.c, .bool false] 78)); exact own_ne ho (X1.out.below HAL.out X1.out.lt) (by decide))); clear hko hgr hob x0 x1 x2 f0 f1 f2 y0 y1 y2 y3 y4 y5 y6 y7 y8 y9 y10 y11 y12 y13 y14 y15 y16 y17 y18; obtain ⟨x0, x1, x2, f0, f1, f2⟩ := HP2.out.three)
   go_end0
   exact ⟨rfl, HF.out⟩
  have N1 := h! (show T2 = T1 by have := HNX.out.1; simpa using this)
  go_wp2_with (refine wpList_load_step rfl _ rfl rfl Y2.out rfl ?_)
  refine (D2.out _ HB2.out).mono ?_
  rintro e w4 ⟨rfl, hb4⟩
  have HB4 := h! (bmore HB2.out hb4 n!)
  have Y4 := h! (Y2.out.below hb4 Y2.out.lt)
  clear hb4 D2
  rcases z2 with _ | _
  ·have N2 := h! (show F2 = F1 by have := HNX.out.2; simpa using this)
   go_wp2_with fail
   go_end0
   exact ⟨rfl, _, HSS.out _ N1.out N2.out HB4.out, KpX.of_below HB4.out, fun q hq => .inl hq⟩
  have N2 := h! (show F2 = F1 ++ [xx] by have := HNX.out.2; rw [HXX.out]; simpa using this)
  have y0 := Y4.out.cell 0
  have y1 := Y4.out.cell 1
  have y2 := Y4.out.cell 2
  have y3 := Y4.out.cell 3
  have y4 := Y4.out.cell 4
  have y5 := Y4.out.cell 5
  have y6 := Y4.out.cell 6
  have y7 := Y4.out.cell 7
  have y8 := Y4.out.cell 8
  have y9 := Y4.out.cell 9
  have y10 := Y4.out.cell 10
  have y11 := Y4.out.cell 11
  have y12 := Y4.out.cell 12
  have y13 := Y4.out.cell 13
  have y14 := Y4.out.cell 14
  have y15 := Y4.out.cell 15
  have y16 := Y4.out.cell 16
  have y17 := Y4.out.cell 17
  have y18 := Y4.out.cell 18
  simp at y0 y1 y2 y3 y4 y5 y6 y7 y8 y9 y10 y11 y12 y13 y14 y15 y16 y17 y18
  obtain ⟨x0, x1, x2, f0, f1, f2⟩ := (X1.out.below HB4.out X1.out.lt).three
  have HKX := h! (X3.out.below HB4.out)
  have HLB := h! (Nat.le_trans HBL.out HB4.out.size)
  have hal := (Below.refl w4.heap.size w4).alloc n! (.cells #[.int .u8 ck, .int .i64 ai, .slice A0 ag.length c0, .int .i64 at_, .string ak, .string ab, .int .i64 bid, .int .i64 btm, .slice B0 bms.length d0, .int .i64 btp, .int .i64 bwh, .int .i64 bn] 91)
  have HAL := h! (bmore HB4.out hal n!)
  have HKA := h! (HKX.out.below hal)
  clear hal
  go_wp2_with (at_builtin; refine wpList_append_cx (e := ⟨A0, c0, B0, d0, ⟨ck, ⟨ai, ag, at_, ak, ab⟩, bid, btm, bms, btp, bwh, bn⟩⟩) rfl _ _ 73 rfl 91 j1 _ Tryz.underlying73 hz hz0 hz1 hz2 rfl rfl HKX.out rfl #[.int .u8 ck, .int .i64 ai, .slice A0 ag.length c0, .int .i64 at_, .string ak, .string ab, .int .i64 bid, .int .i64 btm, .slice B0 bms.length d0, .int .i64 btp, .int .i64 bwh, .int .i64 bn] rfl HRA.out (by unfold maxLen; omega) (by omega) HLB.out ?_; intro A8 c8 w5 hko hgr hob; have HF := h! (HSF.out w5 _ A8 _ c8 HAL.out (by rw [N2.out, HXX.out]; exact hko) N1.out hgr hob); have HP2 := h! ((X1.out.below HAL.out X1.out.lt).grown hgr (by obtain ⟨es, _, ho, _⟩ := HKA.out; exact own_ne ho (X1.out.below HAL.out X1.out.lt) (by decide))); clear hko hgr hob x0 x1 x2 f0 f1 f2 y0 y1 y2 y3 y4 y5 y6 y7 y8 y9 y10 y11 y12 y13 y14 y15 y16 y17 y18; obtain ⟨x0, x1, x2, f0, f1, f2⟩ := HP2.out.three)
  go_end0
  exact ⟨rfl, HF.out⟩
theorem pplay16_any (g : Int) (A : Option Addr) (n c : Nat) (l : List ByteArray) (w : World) (h : TxIs w A n c l) : Calls Tryz.prog 14 #[.int .i64 g, .slice A n c] w (ApIs (playR g l) w) := by
 have HP := h! (fun W (hb : Below w.heap.size w W) => playerOf_any g A n c l W (h.below hb))
 unfold PoIs at HP
 have HA := h! (fun h0 => asked_zero (g := g) (l := l) h0)
 have HM := h! (fun h0 => log_may (l := l) h0)
 unfold playR
 obtain ⟨r, hr⟩ : ∃ r, r = asked g l := ⟨_, rfl⟩
 rw [← hr] at HP HA ⊢
 obtain ⟨cs, hcs⟩ : ∃ cs, cs = LM.cmds l := ⟨_, rfl⟩
 rw [← hcs] at HP HM ⊢
 obtain ⟨RR, hRR⟩ : ∃ RR, RR = (if r = 0 then ((OM.play g cs).1, (OM.play g cs).2.1, 0) else (KM.zero, [], r) : Sk × List Mg × Int) := ⟨_, rfl⟩
 rw [← hRR]
 have HRR := h! hRR
 clear h hr hcs hRR
 obtain ⟨q0, hq0⟩ : ∃ q0, w.heap.size = q0 := ⟨_, rfl⟩
 have HB := h! (show Below w.heap.size w (w.alloc (.cells #[.int .i64 0, .slice none 0 0, .slice none 0 0] 39)) from (Below.refl _ _).alloc n! _)
 have X := h! (Box.new_at (w := w) (t := 39) (cs := #[.int .i64 0, .slice none 0 0, .slice none 0 0]) q0 hq0)
 have HQ0 := h! hq0
 go_enter Tryz.func14, Tryz.ntmps14
 go_upto_region 1 with (fail)
 generalize w.alloc (.cells #[.int .i64 0, .slice none 0 0, .slice none 0 0] 39) = w1 at HB X ⊢
 clear hq0
 go_wp2_with fail
 refine (HP.out _ HB.out).mono ?_
 rintro e w2 ⟨hb, ⟨h0, rfl⟩ | ⟨h0, v, rfl, hv⟩⟩
 ·have hk : (r == 0) = false := by simpa using h0
  have HB2 := h! (bmore HB.out hb n!)
  have X2 := h! (X.out.below hb X.out.lt)
  have HF := h! (show RR = (KM.zero, [], r) by rw [HRR.out, if_neg h0])
  clear hb HP HA HM h0
  obtain ⟨x0, x1, x2, f0, f1, f2⟩ := X2.out.three
  have ZP := h! (X2.out.put3 (.int .i64 0) (.slice none 0 0) (.slice none 0 0))
  have ZB := h! (below_put3 HB2.out (by have := HQ0.out; omega) (.int .i64 0) (.slice none 0 0) (.slice none 0 0) (g := q0))
  go_wp2_with fail
  obtain ⟨u0, u1, u2⟩ := box_sk ZP.out
  exact bodyPost_ret (v := .tuple #[.agg #[.int .i64 0, .slice none 0 0, .slice none 0 0], .slice none 0 0, .int .i64 r]) (by simp [results, Tryz.results14, go_sem, u0, u1, u2]; try rfl) rfl ⟨_, _, by rw [HF.out], by rw [HF.out]; exact skO_zero _ _, by rw [HF.out]; exact kO_nil KM_ _ _ _, ZB.out⟩
 ·subst h0
  obtain ⟨hg, hck⟩ := HA.out rfl
  obtain ⟨hmay, hlen⟩ := HM.out hck
  have HMay := h! hmay
  have HF := h! (show RR = ((OM.play g cs).1, (OM.play g cs).2.1, 0) by rw [HRR.out, if_pos rfl])
  obtain ⟨pc, pg, sv, b0, rfl, v1, v2, v3⟩ := hv
  have HV1 := h! v1
  have HV2 := h! v2
  have HV3 := h! v3
  have HB2 := h! (bmore HB.out hb n!)
  have X2 := h! (X.out.below hb X.out.lt)
  clear hb HP HA HM hck hmay hlen v1 v2 v3
  go_wp2_with fail
  refine (pnew15_any _).mono ?_
  rintro e w3 ⟨v, rfl, ⟨vw, vd, rfl, k1, k2⟩, hb3⟩
  obtain ⟨A4, c4, rfl, _⟩ := k1.g
  obtain ⟨B4, d4, rfl, _, _⟩ := own_form k2
  unfold vsk
  obtain ⟨p1, hp1⟩ : ∃ p1, w3.heap.size = p1 := ⟨_, rfl⟩
  obtain ⟨W4, hW4⟩ : ∃ W4, W4 = (w3.alloc (.cells #[.int .i64 KM.zero.c, .slice A4 KM.zero.ws.length c4, .slice B4 KM.zero.ds.length d4] 39)).alloc (.cells #[.slice none 0 0] 40) := ⟨_, rfl⟩
  have hal4 : Below w3.heap.size w3 W4 := by rw [hW4]; exact ((Below.refl _ _).alloc n! _).alloc (by simp) _
  have HB4 := h! (show Below w2.heap.size w2 W4 from bmore hb3 hal4 n!)
  have P1 := h! (show Box W4 p1 39 #[.int .i64 KM.zero.c, .slice A4 KM.zero.ws.length c4, .slice B4 KM.zero.ds.length d4] from by rw [hW4]; exact (Box.new_at _ hp1).alloc _)
  have P2 := h! (show Box W4 (p1 + 1) 40 #[.slice none 0 0] from by rw [hW4]; exact Box.new_at _ (by rw [← hp1]; simp))
  have HLW := h! (show q0 < p1 ∧ w2.heap.size ≤ p1 from by have := X2.out.lt; have := hb3.size; omega)
  have HR0 := h! (show RPl g cs w.heap.size p1 (p1 + 1) 0 (fun q => q = p1 ∨ q = p1 + 1 ∨ (Value.slice none 0 0).ownBlock = some q) W4 from
   ⟨⟨A4, _, c4, B4, _, d4, none, 0, 0, P1.out, P2.out, (SkO.mono ⟨_, _, rfl, k1.below hal4, own_below3 k2 hal4⟩ HB2.out.size), kO_nil KM_ _ _ _, rfl⟩, Nat.zero_le _⟩)
  clear k1 k2 hb3 hal4
  go_upto_region 6 with (fail)
  rw [← hW4]
  clear hW4
  try simp only [hp1]
  clear hp1
  have HCA := h! (pplay_any papply15 41 #[.pointer (some ⟨p1, 0, none⟩), .pointer (some ⟨p1 + 1, 0, none⟩)] g cs w2 W4 (RPl g cs w.heap.size p1 (p1 + 1)) _ pc pg b0 sv HV1.out HV2.out HV3.out HB4.out
   (seePl g cs w2 W4 w.heap.size p1 (p1 + 1) hg HMay.out P1.out.lt P2.out.lt (by omega) (Nat.le_trans HB2.out.size HB4.out.size)) HR0.out (fun q hq => by have := HLW.out; rcases hq with rfl | rfl | hq; omega; omega; cases hq) hg HMay.out)
  go_wp2_with fail
  refine (HCA.out).mono ?_
  rintro e w5 ⟨rfl, X', hR, hK, hX⟩
  obtain ⟨⟨A, n', a, B, m, d, C, i, j, r1, r2, r3, r4, rfl⟩, _⟩ := hR
  have hq1 : q0 ≠ p1 := by have := HLW.out; omega
  have hq2 : q0 ≠ p1 + 1 := by have := HLW.out; omega
  have X4 := X2.out.below HB4.out X2.out.lt
  have X5 := h! (hK.box X4 (fun q => by rcases q with k | k | k; exact hq1 k; exact hq2 k; cases k))
  have HB5 := h! (show Below w.heap.size w w5 from (bmore HB2.out HB4.out n!).trans (hK.below (Nat.le_trans HB2.out.size HB4.out.size) (fun q hq => by have := HLW.out; have := HB2.out.size; rcases hq with rfl | rfl | hq; omega; omega; cases hq)))
  have est : stA g cs cs.length = (OM.play g cs).1 := by unfold stA; rw [List.take_length]
  rw [est] at r1 r3
  rw [List.take_length] at r4
  have R3 := h! r3
  have R4 := h! r4
  have PQ1 := h! r1
  have PQ2 := h! r2
  obtain ⟨S2, hS2⟩ : ∃ S2, S2 = (OM.play g cs).1 := ⟨_, rfl⟩
  rw [← hS2] at R3 PQ1
  have HS2 := h! hS2
  clear HCA hX HR0 r1 r2 r3 r4 hK X4 est hS2
  have hq3 : ¬ p1 = q0 := fun e => hq1 e.symm
  have hq4 : ¬ p1 + 1 = q0 := fun e => hq2 e.symm
  obtain ⟨y0, y1, y2⟩ := box_sk PQ1.out
  have z0 := PQ2.out.cell 0
  simp at z0
  obtain ⟨x0, x1, x2, f0, f1, f2⟩ := X5.out.three
  have ZP := h! (fun W (hw : W = ((w5.setCell ⟨q0, 0, none⟩ (.int .i64 S2.c)).setCell ⟨q0, 1, none⟩ (.slice A n' a)).setCell ⟨q0, 2, none⟩ (.slice B m d)) => show Box W q0 39 #[.int .i64 S2.c, .slice A n' a, .slice B m d] ∧ Below w.heap.size w W ∧ SkO W w.heap.size (vsk S2.c (.slice A n' a) (.slice B m d)) S2 ∧ KO KM_ W w.heap.size 33 (.slice C i j) (OM.play g cs).2.1 from by
   have q1 := kept_put3 X5.out (.int .i64 S2.c) (.slice A n' a) (.slice B m d)
   subst hw
   exact ⟨X5.out.put3 _ _ _, below_put3 HB5.out (by have := HQ0.out; omega) _ _ _, sko_kept R3.out q1 (by decide) (by decide) (by decide), R4.out.kept q1 (by decide) (by decide)⟩)
  go_wp2_with fail
  go_region
  all_goals
   obtain ⟨z1, z2, z3, z4⟩ := ZP.out _ rfl
   have zd : Below (((w5.setCell ⟨q0, 0, none⟩ (.int .i64 S2.c)).setCell ⟨q0, 1, none⟩ (.slice A n' a)).setCell ⟨q0, 2, none⟩ (.slice B m d)).heap.size (((w5.setCell ⟨q0, 0, none⟩ (.int .i64 S2.c)).setCell ⟨q0, 1, none⟩ (.slice A n' a)).setCell ⟨q0, 2, none⟩ (.slice B m d)) (((w5.setCell ⟨q0, 0, none⟩ (.int .i64 S2.c)).setCell ⟨q0, 1, none⟩ (.slice A n' a)).setCell ⟨q0, 2, none⟩ (.slice B m d)).drew := below_drewN (Below.refl _ _) 1
   replace z1 := z1.below zd z1.lt
   replace z2 := bmore z2 zd n!
   replace z3 := z3.below zd
   replace z4 := z4.below zd
   clear zd
   go_wp2_with fail
   generalize (((w5.setCell ⟨q0, 0, none⟩ (.int .i64 S2.c)).setCell ⟨q0, 1, none⟩ (.slice A n' a)).setCell ⟨q0, 2, none⟩ (.slice B m d)).drew = W9 at z1 z2 z3 z4 ⊢
   obtain ⟨u0, u1, u2⟩ := box_sk z1
   exact bodyPost_ret (v := .tuple #[.agg #[.int .i64 S2.c, .slice A n' a, .slice B m d], .slice C i j, .int .i64 0]) (by simp [results, Tryz.results14, go_sem, u0, u1, u2]; try rfl) rfl ⟨_, _, by rw [HF.out], by rw [HF.out, ← HS2.out]; exact z3, by rw [HF.out]; exact z4, z2⟩
end KP
end Go.Proofs.YteebeiaokfenmaaGreat
