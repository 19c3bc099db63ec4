/- Contracts of functions, L36: each as its theorem says. -/
import Derived.Test.YteebeiaokfenmaaGreatL35
import Derived.Deep.MidRow
set_option linter.unusedVariables false
set_option linter.unusedSimpArgs false
set_option maxRecDepth 100000
set_option maxHeartbeats 16000000
namespace Go.Proofs.YteebeiaokfenmaaGreat
namespace KP
open Go.RowKit CP TP LP
open CM (Mg Cm)
open TM (Sp)
open KM (Wt Sk)
theorem size_st : (Tryz.prog.info? 93).map (·.size) = some 19 := by kernel_rfl
theorem wpList_load_step {ops : Array Oper} {rest : List Oper} {op : Oper} {a : Act} {w : World} {Q : Exit → Act → World → Prop} {g : Nat} {cs : Array Value} (hgd : op.guard = none) (x : Operand) (ho : op.op = .load 93 x)
  (hx : a.eval x = .pointer (some ⟨g, 0, none⟩)) (h : Box w g 93 cs) (hn : cs.size = 19) (hq : wpList Tryz.prog ops Q rest (a.put op.dst (.agg cs)) w) : wpList Tryz.prog ops Q (op :: rest) a w := by
 refine wpList_load_mid (P := Tryz.prog) hgd 93 x ho g 0 hx cs.toList _ (fun j v hv => by rw [h.cell, Nat.zero_add, ← hv]; simp) Tryz.underlying93 rfl (by rw [size_st, Array.length_toList, hn]) ?_
 simpa using hq
theorem pdoes_any (kind : Int) (A0 : Option Addr) (c0 : Nat) (B0 : Option Addr) (d0 : Nat) (x : Cm) (s1 s2 : Sk) (A5 : Option Addr) (n5 a5 : Nat) (B5 : Option Addr) (m5 b5 : Nat) (A6 : Option Addr) (n6 a6 : Nat) (B6 : Option Addr) (m6 b6 : Nat) (A7 : Option Addr) (n7 a7 : Nat) (W : World)
  (h1 : SkIs W (vsk s1.c (.slice A5 n5 a5) (.slice B5 m5 b5)) s1) (h2 : SkIs W (vsk s2.c (.slice A6 n6 a6) (.slice B6 m6 b6)) s2) :
  Calls Tryz.prog 59 #[.agg (scells A0 c0 B0 d0 x s1.c (.slice A5 n5 a5) (.slice B5 m5 b5) s2.c (.slice A6 n6 a6) (.slice B6 m6 b6) (.slice A7 n7 a7)), .int .u8 kind] W (IsB (decide (x.k = kind ∧ s1 ≠ s2)) W) := by
 have HS := h! (fun W' (hb : Below W.heap.size W W') => psame15_any _ _ s1 s2 W' (h1.below hb) (h2.below hb))
 unfold vsk at HS
 clear h1 h2
 obtain ⟨ck, ⟨ai, ag, at_, ak, ab⟩, bid, btm, bms, btp, bwh, bn⟩ := x
 unfold scells
 simp only
 obtain ⟨b, hb⟩ : ∃ b, b = decide (s1 = s2) := ⟨_, rfl⟩
 rw [← hb] at HS
 obtain ⟨r, hr⟩ : ∃ r, r = decide (ck = kind ∧ s1 ≠ s2) := ⟨_, rfl⟩
 rw [← hr]
 have HR := h! (show (ck = kind → r = !b) ∧ (ck ≠ kind → r = false) by
  subst hb hr
  refine ⟨fun h => by subst h; by_cases e : s1 = s2 <;> simp [e], fun h => by simp [h]⟩)
 clear hb hr
 obtain ⟨q0, hq0⟩ : ∃ q0, W.heap.size = q0 := ⟨_, rfl⟩
 have HB := h! (show Below W.heap.size W (W.alloc (.cells #[.int .u8 ck, .int .i64 ai, .slice A0 ag.length c0, .int .i64 at_, .string ak, .string ab, .int .i64 bid, .int .i64 btm, .slice B0 bms.length d0, .int .i64 btp, .int .i64 bwh, .int .i64 bn, .int .i64 s1.c, .slice A5 n5 a5, .slice B5 m5 b5, .int .i64 s2.c, .slice A6 n6 a6, .slice B6 m6 b6, .slice A7 n7 a7] 93)) from (Below.refl _ _).alloc n! _)
 have Y := h! (Box.new_at (w := W) (t := 93) (cs := #[.int .u8 ck, .int .i64 ai, .slice A0 ag.length c0, .int .i64 at_, .string ak, .string ab, .int .i64 bid, .int .i64 btm, .slice B0 bms.length d0, .int .i64 btp, .int .i64 bwh, .int .i64 bn, .int .i64 s1.c, .slice A5 n5 a5, .slice B5 m5 b5, .int .i64 s2.c, .slice A6 n6 a6, .slice B6 m6 b6, .slice A7 n7 a7]) q0 hq0)
 go_enter Tryz.func59, Tryz.ntmps59
 go_upto_region 1 with (fail)
 generalize W.alloc (.cells #[.int .u8 ck, .int .i64 ai, .slice A0 ag.length c0, .int .i64 at_, .string ak, .string ab, .int .i64 bid, .int .i64 btm, .slice B0 bms.length d0, .int .i64 btp, .int .i64 bwh, .int .i64 bn, .int .i64 s1.c, .slice A5 n5 a5, .slice B5 m5 b5, .int .i64 s2.c, .slice A6 n6 a6, .slice B6 m6 b6, .slice A7 n7 a7] 93) = W1 at HB Y ⊢
 clear hq0
 have y0 := Y.out.cell 0
 have y12 := Y.out.cell 12
 have y13 := Y.out.cell 13
 have y14 := Y.out.cell 14
 have y15 := Y.out.cell 15
 have y16 := Y.out.cell 16
 have y17 := Y.out.cell 17
 simp at y0 y12 y13 y14 y15 y16 y17
 by_cases hk : ck = kind
 ·have HF := h! (HR.out.1 hk)
  have hk2 : (ck == kind) = true := by simpa using hk
  clear HR
  subst hk
  go_wp2_with fail
  refine (HS.out _ HB.out).mono ?_
  rintro e w2 ⟨rfl, hb2⟩
  have HB2 := h! (bmore HB.out hb2 n!)
  clear y0 y12 y13 y14 y15 y16 y17 HS hb2
  go_wp2_with fail
  go_ret
  exact ⟨by rw [HF.out]; rfl, HB2.out⟩
 ·have HF := h! (HR.out.2 hk)
  have hk2 : (ck == kind) = false := by simpa using hk
  clear HR
  go_wp2_with fail
  go_ret
  exact ⟨by rw [HF.out]; rfl, HB.out⟩
theorem times_len (g : Int) : ∀ r : List Cm, (OM.play g r.reverse).2.2.length ≤ r.length
 | [] => Nat.le_refl _
 | c :: r => by
  rw [List.reverse_cons, OM.play_snoc]
  have := times_len g r
  show ((OM.play g r.reverse).2.2 ++ OM.tm1 (OM.play g r.reverse).1 (OM.one (OM.play g r.reverse).1 g c).1 c).length ≤ _
  have h1 : (OM.tm1 (OM.play g r.reverse).1 (OM.one (OM.play g r.reverse).1 g c).1 c).length ≤ 1 := by unfold OM.tm1; split <;> simp
  rw [List.length_append, List.length_cons]
  omega
theorem fins_len (g : Int) : ∀ r : List Cm, (OM.fins g r.reverse).length ≤ r.length
 | [] => Nat.le_refl _
 | c :: r => by
  rw [List.reverse_cons, OM.fins_snoc, List.length_append, List.length_cons]
  have := fins_len g r
  have h1 : (OM.fin1 (OM.play g r.reverse).1 (OM.one (OM.play g r.reverse).1 g c).1 c).length ≤ 1 := by unfold OM.fin1; split <;> simp
  omega
theorem told_few (g : Int) (l : List Cm) : (OM.play g l).2.2.length ≤ l.length ∧ (OM.fins g l).length ≤ l.length := by
 have h1 := times_len g l.reverse
 have h2 := fins_len g l.reverse
 rw [List.reverse_reverse, List.length_reverse] at h1 h2
 exact ⟨h1, h2⟩
structure RTe (g : Int) (cs : List Cm) (W0 : World) (b p : Nat) (k : Nat) (X : Nat → Prop) (W : World) : Prop where
 x : ∃ (C : Option Addr) (i j : Nat) (D : Option Addr) (u v : Nat), Box W p 75 #[.slice C i j, .map none, .slice D u v] ∧ KX KW W0 W b 78 (.slice C i j) ((OM.play g (cs.take k)).2.2.map toWt) ∧ CX W0 W b (.slice D u v) (OM.fins g (cs.take k)) ∧
  X = fun q => q = p ∨ (Value.slice C i j).ownBlock = some q ∨ (Value.slice D u v).ownBlock = some q
 k : k ≤ cs.length
section
variable {g : Int} {cs : List Cm} {W0 W W' : World} {b p k : Nat} {c : Cm} {C : Option Addr} {i j : Nat} {D : Option Addr} {u v : Nat}
theorem tm_next (h : cs[k]? = some c) (hg : 0 ≤ g ∧ g < 4) (hcs : ∀ c ∈ cs, CM.may c) (hp : (KM.putF (stA g cs k) g c).2.2 = true) :
  (OM.play g (cs.take (k + 1))).2.2 = (OM.play g (cs.take k)).2.2 ++ (if decide (c.k = 1 ∧ stA g cs k ≠ (KM.putF (stA g cs k) g c).1) = true then [((KM.putF (stA g cs k) g c).1.c, c.m)] else []) ∧
  OM.fins g (cs.take (k + 1)) = OM.fins g (cs.take k) ++ (if decide (c.k = 2 ∧ stA g cs k ≠ (KM.putF (stA g cs k) g c).1) = true then [c] else []) := by
 have hI := OM.inv (l := cs.take k) hg fun c h => hcs c (List.mem_of_mem_take h)
 have hm := OM.tm1_is hI.m hg (hcs c (List.mem_of_getElem? h))
 have ho := one_ok hp
 unfold stA at *
 rw [ho] at hm
 rw [List.take_add_one, h]
 have e : cs.take k ++ (some c).toList = cs.take k ++ [c] := rfl
 rw [e, OM.times_snoc, OM.fins_snoc, OM.play_snoc]
 unfold OM.nx
 simp only [ho]
 rw [hm]
 unfold OM.fin1
 have hiff : ∀ a b : Sk, (b ≠ a) = (a ≠ b) := fun a b => by rw [ne_comm]
 simp only [decide_eq_true_eq, hiff (OM.play g (cs.take k)).1]
 exact ⟨by first | rfl | trivial, by first | rfl | trivial⟩
theorem rTe_same {X : Nat → Prop} (h : RTe g cs W0 b p k X W) (hc : cs[k]? = some c) (h1 : (OM.play g (cs.take (k + 1))).2.2 = (OM.play g (cs.take k)).2.2) (h2 : OM.fins g (cs.take (k + 1)) = OM.fins g (cs.take k)) (hb : Below W.heap.size W W') : RTe g cs W0 b p (k + 1) X W' := by
 obtain ⟨⟨C, i, j, D, u, v, k1, k2, k3, rfl⟩, _⟩ := h
 exact ⟨⟨C, i, j, D, u, v, k1.below hb k1.lt, by rw [h1]; exact k2.below hb, by rw [h2]; exact k3.below hb, rfl⟩, (List.getElem?_eq_some_iff.1 hc).1⟩
theorem rTe_b {Wa W3 : World} {G : Option Addr} {x y : Nat} (hc : cs[k]? = some c) (k1 : Box W p 75 #[.slice C i j, .map none, .slice D u v]) (k3 : CX W0 W b (.slice D u v) (OM.fins g (cs.take k)))
  (k2 : KX KW W0 W b 78 (.slice C i j) ((OM.play g (cs.take k)).2.2.map toWt)) (hb : Below W.heap.size W Wa) (h1 : KX KW W0 W3 b 78 (.slice G x y) ((OM.play g (cs.take (k + 1))).2.2.map toWt)) (h2 : OM.fins g (cs.take (k + 1)) = OM.fins g (cs.take k))
  (hgr : Wa.grownBy W3 (Value.slice C i j).ownBlock) (hob : (Value.slice G x y).ownBlock = (Value.slice C i j).ownBlock ∨ (Value.slice G x y).ownBlock = some Wa.heap.size) :
  ∃ X', RTe g cs W0 b p (k + 1) X' (W3.setCell ⟨p, 0, none⟩ (.slice G x y)) ∧ KpX (fun q => q = p ∨ (Value.slice C i j).ownBlock = some q ∨ (Value.slice D u v).ownBlock = some q) W (W3.setCell ⟨p, 0, none⟩ (.slice G x y)) ∧
   ∀ q, X' q → (q = p ∨ (Value.slice C i j).ownBlock = some q ∨ (Value.slice D u v).ownBlock = some q) ∨ W.heap.size ≤ q := by
 have a1 := k1.below hb k1.lt
 have a2 := k2.below hb
 have a3 := k3.below hb
 have q2 : Kept (fun e => e = 78) Wa W3 := by
  obtain ⟨es, _, ho, _⟩ := a2
  exact Kept.grown ho rfl hgr
 have b1 := q2.box _ _ _ (by decide) a1
 have q3 : Kept (fun e => e = 75) W3 (W3.setCell ⟨p, 0, none⟩ (.slice G x y)) := Kept.set (S := fun e => e = 75) b1 rfl _
 refine ⟨_, ⟨⟨G, x, y, D, u, v, ?_, h1.kept q3 (by decide), ?_, rfl⟩, (List.getElem?_eq_some_iff.1 hc).1⟩, ⟨?_, ?_, ?_, ?_, fun q hq hn => ?_⟩, fun q hq => ?_⟩
 ·have := b1.stored 0 (.slice G x y)
  simpa using this
 ·rw [h2]; exact (a3.kept q2 (by decide)).kept q3 (by decide)
 ·exact (q3.os.trans q2.os).trans hb.os
 ·exact (q3.tape.trans q2.tape).trans hb.tape
 ·exact (q3.output.trans q2.output).trans hb.output
 ·exact Nat.le_trans (Nat.le_trans hb.size q2.size) q3.size
 ·have n1 : q ≠ p := fun k => hn (.inl k)
  have n3 : some q ≠ (Value.slice C i j).ownBlock := fun k => hn (.inr (.inl k.symm))
  rw [Below.heap_setCell _ ⟨p, 0, none⟩ _ q n1, hgr.block q (Nat.lt_of_lt_of_le hq hb.size) n3]
  exact hb.block q hq
 ·rcases hq with k | k | k
  ·exact .inl (.inl k)
  ·rcases hob with z | z
   ·exact .inl (.inr (.inl (z.symm.trans k)))
   ·rw [z] at k; injection k with k; exact .inr (by have := hb.size; omega)
  ·exact .inl (.inr (.inr k))
theorem rTe_f {Wa W3 : World} {G : Option Addr} {x y : Nat} (hc : cs[k]? = some c) (k1 : Box W p 75 #[.slice C i j, .map none, .slice D u v]) (k3 : CX W0 W b (.slice D u v) (OM.fins g (cs.take k)))
  (k2 : KX KW W0 W b 78 (.slice C i j) ((OM.play g (cs.take k)).2.2.map toWt)) (hb : Below W.heap.size W Wa) (h1 : CX W0 W3 b (.slice G x y) (OM.fins g (cs.take (k + 1)))) (h2 : (OM.play g (cs.take (k + 1))).2.2 = (OM.play g (cs.take k)).2.2)
  (hgr : Wa.grownBy W3 (Value.slice D u v).ownBlock) (hob : (Value.slice G x y).ownBlock = (Value.slice D u v).ownBlock ∨ (Value.slice G x y).ownBlock = some Wa.heap.size) :
  ∃ X', RTe g cs W0 b p (k + 1) X' (W3.setCell ⟨p, 2, none⟩ (.slice G x y)) ∧ KpX (fun q => q = p ∨ (Value.slice C i j).ownBlock = some q ∨ (Value.slice D u v).ownBlock = some q) W (W3.setCell ⟨p, 2, none⟩ (.slice G x y)) ∧
   ∀ q, X' q → (q = p ∨ (Value.slice C i j).ownBlock = some q ∨ (Value.slice D u v).ownBlock = some q) ∨ W.heap.size ≤ q := by
 have a1 := k1.below hb k1.lt
 have a2 := k2.below hb
 have a3 := k3.below hb
 have q2 : Kept (fun e => e = 91) Wa W3 := by
  obtain ⟨es, _, ho, _⟩ := a3
  exact Kept.grown ho rfl hgr
 have b1 := q2.box _ _ _ (by decide) a1
 have q3 : Kept (fun e => e = 75) W3 (W3.setCell ⟨p, 2, none⟩ (.slice G x y)) := Kept.set (S := fun e => e = 75) b1 rfl _
 refine ⟨_, ⟨⟨C, i, j, G, x, y, ?_, ?_, h1.kept q3 (by decide), rfl⟩, (List.getElem?_eq_some_iff.1 hc).1⟩, ⟨?_, ?_, ?_, ?_, fun q hq hn => ?_⟩, fun q hq => ?_⟩
 ·have := b1.stored 2 (.slice G x y)
  simpa using this
 ·rw [h2]; exact (a2.kept q2 (by decide)).kept q3 (by decide)
 ·exact (q3.os.trans q2.os).trans hb.os
 ·exact (q3.tape.trans q2.tape).trans hb.tape
 ·exact (q3.output.trans q2.output).trans hb.output
 ·exact Nat.le_trans (Nat.le_trans hb.size q2.size) q3.size
 ·have n1 : q ≠ p := fun k => hn (.inl k)
  have n3 : some q ≠ (Value.slice D u v).ownBlock := fun k => hn (.inr (.inr k.symm))
  rw [Below.heap_setCell _ ⟨p, 2, none⟩ _ q n1, hgr.block q (Nat.lt_of_lt_of_le hq hb.size) n3]
  exact hb.block q hq
 ·rcases hq with k | k | k
  ·exact .inl (.inl k)
  ·exact .inl (.inr (.inl k))
  ·rcases hob with z | z
   ·exact .inl (.inr (.inr (z.symm.trans k)))
   ·rw [z] at k; injection k with k; exact .inr (by have := hb.size; omega)
end
theorem sko_kept {S : TypeId → Prop} {W W' : World} {b : Nat} {v : Value} {s : Sk} (h : SkO W b v s) (hk : Kept S W W') (h1 : ¬ S 3) (h2 : ¬ S 78) (h3 : ¬ S 46) : SkO W' b v s := by
 obtain ⟨vw, vd, e, k1, k2⟩ := h
 exact ⟨vw, vd, e, KO.kept hk h1 h2 k1, hk.own k2 h3⟩
theorem skO_form {W : World} {b : Nat} {c : Int} {vw vd : Value} {s : Sk} (h : SkO W b (vsk c vw vd) s) : ∃ A a B b, vw = .slice A s.ws.length a ∧ vd = .slice B s.ds.length b := by
 obtain ⟨vw', vd', e, k1, k2⟩ := h
 unfold vsk at e
 injection e with e
 injection e with e
 injection e with _ e
 injection e with e1 e
 injection e with e2 _
 obtain ⟨A, a, h1, _⟩ := k1.g
 obtain ⟨B, d, h2, _⟩ := own_form k2
 exact ⟨A, a, B, d, by rw [e1, h1], by rw [e2, h2]⟩
theorem seeTe (g : Int) (cs : List Cm) (W0 w : World) (b p : Nat) (hg : 0 ≤ g ∧ g < 4) (hcs : ∀ c ∈ cs, CM.may c) (hlen : cs.length ≤ 200) (h1 : p < w.heap.size) (hb : b ≤ w.heap.size) :
  See 58 #[.pointer (some ⟨p, 0, none⟩)] g cs W0 w.heap.size (RTe g cs W0 b p) := by
 refine ⟨fun args w => by rfl, fun k X W W' h hB hK => ?_, fun k X W h q hq => ?_, fun k c X W hc ho h => ?_, ?_⟩
 ·obtain ⟨⟨C, i, j, D, u, v, k1, k2, k3, rfl⟩, hk⟩ := h
  exact ⟨⟨C, i, j, D, u, v, k1.below hB h1, k2.kept hK (by decide), k3.kept hK (by decide), rfl⟩, hk⟩
 ·obtain ⟨⟨C, i, j, D, u, v, k1, k2, k3, rfl⟩, hk⟩ := h
  rcases hq with rfl | hq | hq
  ·exact k1.lt
  ·exact (k2.blk hq).2
  ·exact (k3.blk hq).2
 ·have e : cs.take (k + 1) = cs.take k ++ [c] := by rw [List.take_add_one, hc]; rfl
  have e1 : (OM.play g (cs.take (k + 1))).2.2 = (OM.play g (cs.take k)).2.2 := by
   rw [e, OM.times_snoc, OM.play_snoc]
   unfold OM.nx stA at *
   simp only [ho]
   unfold OM.tm1
   rw [if_neg (Nat.lt_irrefl _), List.append_nil]
  have e2 : OM.fins g (cs.take (k + 1)) = OM.fins g (cs.take k) := by
   rw [e, OM.fins_snoc]
   unfold stA at *
   rw [ho]
   unfold OM.fin1
   rw [if_neg (fun k => k.2 rfl), List.append_nil]
  exact rTe_same h hc e1 e2 (Below.refl _ _)
 ·intro k e X W va vda vb vdb vm bb hc hp hR hB0 r1 r2 hsa hX hbb hb1 hsb hm
  have hRR := h! hR
  obtain ⟨⟨C, i, j, D, u, v, k1, k2, k3, rfl⟩, hk⟩ := hR
  obtain ⟨A5, a5, B5, b5, n5, m5, rfl, rfl⟩ := skIs_form hsa
  obtain ⟨A6, a6, B6, b6, rfl, rfl⟩ := skO_form hsb
  obtain ⟨A7, a7, rfl, _⟩ := hm.g
  have hnx := tm_next hc hg hcs hp
  obtain ⟨t1, t2⟩ := told_few g (cs.take k)
  have htk : (cs.take k).length ≤ 200 := by rw [List.length_take]; omega
  have f1 := k2.len
  have f2 := k3.len
  rw [List.length_map] at f1
  have hi : i ≤ 200 := by omega
  have hu : u ≤ 200 := by omega
  clear f1 f2 t1 t2 htk
  obtain ⟨j0, hj, hy0, hy1, hy2⟩ := info_parts info_wt
  obtain ⟨j1, hz, hz0, hz1, hz2⟩ := info_parts info_cm
  obtain ⟨q0, hq0⟩ : ∃ q0, W.heap.size = q0 := ⟨_, rfl⟩
  have HDO := h! (fun (kind : Int) W' (hb : Below W.heap.size W W') => pdoes_any kind e.A e.c e.B e.d e.x (stA g cs k) (KM.putF (stA g cs k) g e.x).1 A5 n5 a5 B5 m5 b5 A6 _ a6 B6 _ b6 A7 (KM.putF (stA g cs k) g e.x).2.1.length a7 W' (hsa.below hb) (hsb.is.below hb))
  have HSB := h! (fun (W3 : World) (Wa : World) (G : Option Addr) (x y : Nat) hb h1 h2 hgr hob => rTe_b (W3 := W3) (Wa := Wa) (G := G) (x := x) (y := y) hc k1 k3 k2 hb h1 h2 hgr hob)
  have HSF := h! (fun (W3 : World) (Wa : World) (G : Option Addr) (x y : Nat) hb h1 h2 hgr hob => rTe_f (W3 := W3) (Wa := Wa) (G := G) (x := x) (y := y) hc k1 k3 k2 hb h1 h2 hgr hob)
  have HSS := h! (fun (W' : World) h1 h2 (hb : Below W.heap.size W W') => rTe_same hRR.out hc h1 h2 hb)
  obtain ⟨T1, hT1⟩ : ∃ T1, T1 = (OM.play g (cs.take k)).2.2 := ⟨_, rfl⟩
  obtain ⟨T2, hT2⟩ : ∃ T2, T2 = (OM.play g (cs.take (k + 1))).2.2 := ⟨_, rfl⟩
  obtain ⟨F1, hF1⟩ : ∃ F1, F1 = OM.fins g (cs.take k) := ⟨_, rfl⟩
  obtain ⟨F2, hF2⟩ : ∃ F2, F2 = OM.fins g (cs.take (k + 1)) := ⟨_, rfl⟩
  obtain ⟨S1, hS1⟩ : ∃ S1, S1 = stA g cs k := ⟨_, rfl⟩
  obtain ⟨O2, hO2⟩ : ∃ O2, O2 = (KM.putF (stA g cs k) g e.x).2.1 := ⟨_, rfl⟩
  obtain ⟨S2, hS2⟩ : ∃ S2, S2 = (KM.putF (stA g cs k) g e.x).1 := ⟨_, rfl⟩
  rw [← hS2, ← hO2, ← hS1] at HDO ⊢
  rw [← hS1] at hS2
  rw [← hT1, ← hT2, ← hF1, ← hF2, ← hS1, ← hS2] at hnx
  rw [← hT2] at HSB HSF HSS
  rw [← hF2] at HSB HSF HSS
  rw [← hF1] at HSB HSS k3
  rw [← hT1] at HSF HSS k2
  have HNX := h! hnx
  have X1 := h! k1
  have X2 := h! k2
  have X3 := h! k3
  have HBL := h! (show b ≤ W.heap.size from Nat.le_trans hb (Nat.le_trans hb1 hbb))
  have HRA := h! (show RowIs W0 e.A e.c e.x.m.gs ∧ RowIs W0 e.B e.d e.x.ms from ⟨r1, r2⟩)
  clear hsa hsb hX k1 k2 k3 hm hT1 hT2 hF1 hF2 hS1 hS2 hO2 hB0 r1 r2 hc hp hk hnx hRR hbb hb1
  obtain ⟨A0, c0, B0, d0, x⟩ := e
  obtain ⟨xx, hxx⟩ : ∃ xx, xx = x := ⟨_, rfl⟩
  have HXX := h! hxx
  obtain ⟨ck, ⟨ai, ag, at_, ak, ab⟩, bid, btm, bms, btp, bwh, bn⟩ := x
  clear hxx
  unfold scells at HDO ⊢
  simp only at HDO HNX HRA ⊢
  show Calls Tryz.prog 58 #[.agg #[.int .u8 ck, .int .i64 ai, .slice A0 ag.length c0, .int .i64 at_, .string ak, .string ab, .int .i64 bid, .int .i64 btm, .slice B0 bms.length d0, .int .i64 btp, .int .i64 bwh, .int .i64 bn, .int .i64 S1.c, .slice A5 n5 a5, .slice B5 m5 b5, .int .i64 S2.c, .slice A6 S2.ws.length a6, .slice B6 S2.ds.length b6, .slice A7 O2.length a7], .pointer (some ⟨p, 0, none⟩)] W _
  obtain ⟨cl, hcl⟩ : ∃ cl : Array Value, cl = #[.int .u8 ck, .int .i64 ai, .slice A0 ag.length c0, .int .i64 at_, .string ak, .string ab, .int .i64 bid, .int .i64 btm, .slice B0 bms.length d0, .int .i64 btp, .int .i64 bwh, .int .i64 bn, .int .i64 S1.c, .slice A5 n5 a5, .slice B5 m5 b5, .int .i64 S2.c, .slice A6 S2.ws.length a6, .slice B6 S2.ds.length b6, .slice A7 O2.length a7] := ⟨_, rfl⟩
  have Y := Box.new_at (w := W) (t := 93) (cs := cl) q0 hq0
  have HB := h! (show Below W.heap.size W (W.alloc (.cells cl 93)) from (Below.refl _ _).alloc n! _)
  rw [hcl] at Y HB
  clear hcl
  have D1 := h! (fun W' (hb : Below W.heap.size W W') => HDO.out 1 W' hb)
  have D2 := h! (fun W' (hb : Below W.heap.size W W') => HDO.out 2 W' hb)
  obtain ⟨z1, hz1⟩ : ∃ z1, z1 = decide (ck = 1 ∧ S1 ≠ S2) := ⟨_, rfl⟩
  obtain ⟨z2, hz2⟩ : ∃ z2, z2 = decide (ck = 2 ∧ S1 ≠ S2) := ⟨_, rfl⟩
  have hzz : z1 = true → z2 = false := fun h => by
   rw [hz1, decide_eq_true_eq] at h
   rw [hz2, decide_eq_false_iff_not]
   omega
  have HZZ := h! hzz
  rw [← hz1] at D1 HNX
  rw [← hz2] at D2 HNX
  clear hz1 hz2 hzz HDO
  go_enter Tryz.func58, Tryz.ntmps58
  go_upto_region 1 with (fail)
  generalize W.alloc (.cells #[.int .u8 ck, .int .i64 ai, .slice A0 ag.length c0, .int .i64 at_, .string ak, .string ab, .int .i64 bid, .int .i64 btm, .slice B0 bms.length d0, .int .i64 btp, .int .i64 bwh, .int .i64 bn, .int .i64 S1.c, .slice A5 n5 a5, .slice B5 m5 b5, .int .i64 S2.c, .slice A6 S2.ws.length a6, .slice B6 S2.ds.length b6, .slice A7 O2.length a7] 93) = W1 at HB Y ⊢
  clear hq0
  have YY := h! Y
  clear Y
  go_wp2_with (refine wpList_load_step rfl _ rfl rfl YY.out rfl ?_)
  refine (D1.out _ HB.out).mono ?_
  rintro e w2 ⟨rfl, hb2⟩
  have HB2 := h! (bmore HB.out hb2 n!)
  have Y2 := h! (YY.out.below hb2 YY.out.lt)
  clear hb2 D1
  rcases z1 with _ | _
  rotate_left
  ·have hz2 := HZZ.out rfl
   subst hz2
   have N2 := h! (show F2 = F1 by have := HNX.out.2; simpa using this)
   have N1 := h! (show T2 = T1 ++ [(S2.c, ⟨ai, ag, at_, ak, ab⟩)] by have := HNX.out.1; simpa using this)
   have y0 := Y2.out.cell 0
   have y1 := Y2.out.cell 1
   have y2 := Y2.out.cell 2
   have y3 := Y2.out.cell 3
   have y4 := Y2.out.cell 4
   have y5 := Y2.out.cell 5
   have y6 := Y2.out.cell 6
   have y7 := Y2.out.cell 7
   have y8 := Y2.out.cell 8
   have y9 := Y2.out.cell 9
   have y10 := Y2.out.cell 10
   have y11 := Y2.out.cell 11
   have y12 := Y2.out.cell 12
   have y13 := Y2.out.cell 13
   have y14 := Y2.out.cell 14
   have y15 := Y2.out.cell 15
   have y16 := Y2.out.cell 16
   have y17 := Y2.out.cell 17
   have y18 := Y2.out.cell 18
   simp at y0 y1 y2 y3 y4 y5 y6 y7 y8 y9 y10 y11 y12 y13 y14 y15 y16 y17 y18
   obtain ⟨x0, x1, x2, f0, f1, f2⟩ := (X1.out.below HB2.out X1.out.lt).three
   have HKX := h! (X2.out.below HB2.out)
   have HLB := h! (Nat.le_trans HBL.out HB2.out.size)
   have HAL := h! (bmore HB2.out ((Below.refl w2.heap.size w2).alloc n! (.cells #[.int .i64 ai, .slice A0 ag.length c0, .int .i64 at_, .string ak, .string ab, .int .i64 S2.c, .bool false] 78)) n!)
   go_wp2_with (at_builtin; refine wpList_append_kx (K := KW) rfl _ _ 37 rfl 78 j0 _ 88 Tryz.underlying37 hj hy0 hy1 hy2 rfl rfl HKX.out rfl #[.int .i64 ai, .slice A0 ag.length c0, .int .i64 at_, .string ak, .string ab, .int .i64 S2.c, .bool false] (show _ = KW.cel A0 c0 ⟨⟨ai, ag, at_, ak, ab⟩, S2.c, false⟩ from rfl) HRA.out.1 (by unfold maxLen; omega) (by omega) HLB.out ?_; intro A8 c8 w3 hko hgr hob; have HF := h! (HSB.out w3 _ A8 _ c8 HAL.out (by rw [N1.out, List.map_append]; exact hko) N2.out hgr hob); have HP2 := h! ((X1.out.below HAL.out X1.out.lt).grown hgr (by obtain ⟨es, _, ho, _⟩ := HKX.out.below ((Below.refl w2.heap.size w2).alloc n! (.cells #[.int .i64 ai, .slice A0 ag.length c0, .int .i64 at_, .string ak, .string ab, .int .i64 S2.c, .bool false] 78)); exact own_ne ho (X1.out.below HAL.out X1.out.lt) (by decide))); clear hko hgr hob x0 x1 x2 f0 f1 f2 y0 y1 y2 y3 y4 y5 y6 y7 y8 y9 y10 y11 y12 y13 y14 y15 y16 y17 y18; obtain ⟨x0, x1, x2, f0, f1, f2⟩ := HP2.out.three)
   go_end0
   exact ⟨rfl, HF.out⟩
  have N1 := h! (show T2 = T1 by have := HNX.out.1; simpa using this)
  go_wp2_with (refine wpList_load_step rfl _ rfl rfl Y2.out rfl ?_)
  refine (D2.out _ HB2.out).mono ?_
  rintro e w4 ⟨rfl, hb4⟩
  have HB4 := h! (bmore HB2.out hb4 n!)
  have Y4 := h! (Y2.out.below hb4 Y2.out.lt)
  clear hb4 D2
  rcases z2 with _ | _
  ·have N2 := h! (show F2 = F1 by have := HNX.out.2; simpa using this)
   go_wp2_with fail
   go_end0
   exact ⟨rfl, _, HSS.out _ N1.out N2.out HB4.out, KpX.of_below HB4.out, fun q hq => .inl hq⟩
  have N2 := h! (show F2 = F1 ++ [xx] by have := HNX.out.2; rw [HXX.out]; simpa using this)
  have y0 := Y4.out.cell 0
  have y1 := Y4.out.cell 1
  have y2 := Y4.out.cell 2
  have y3 := Y4.out.cell 3
  have y4 := Y4.out.cell 4
  have y5 := Y4.out.cell 5
  have y6 := Y4.out.cell 6
  have y7 := Y4.out.cell 7
  have y8 := Y4.out.cell 8
  have y9 := Y4.out.cell 9
  have y10 := Y4.out.cell 10
  have y11 := Y4.out.cell 11
  have y12 := Y4.out.cell 12
  have y13 := Y4.out.cell 13
  have y14 := Y4.out.cell 14
  have y15 := Y4.out.cell 15
  have y16 := Y4.out.cell 16
  have y17 := Y4.out.cell 17
  have y18 := Y4.out.cell 18
  simp at y0 y1 y2 y3 y4 y5 y6 y7 y8 y9 y10 y11 y12 y13 y14 y15 y16 y17 y18
  obtain ⟨x0, x1, x2, f0, f1, f2⟩ := (X1.out.below HB4.out X1.out.lt).three
  have HKX := h! (X3.out.below HB4.out)
  have HLB := h! (Nat.le_trans HBL.out HB4.out.size)
  have hal := (Below.refl w4.heap.size w4).alloc n! (.cells #[.int .u8 ck, .int .i64 ai, .slice A0 ag.length c0, .int .i64 at_, .string ak, .string ab, .int .i64 bid, .int .i64 btm, .slice B0 bms.length d0, .int .i64 btp, .int .i64 bwh, .int .i64 bn] 91)
  have HAL := h! (bmore HB4.out hal n!)
  have HKA := h! (HKX.out.below hal)
  clear hal
  go_wp2_with (at_builtin; refine wpList_append_cx (e := ⟨A0, c0, B0, d0, ⟨ck, ⟨ai, ag, at_, ak, ab⟩, bid, btm, bms, btp, bwh, bn⟩⟩) rfl _ _ 73 rfl 91 j1 _ Tryz.underlying73 hz hz0 hz1 hz2 rfl rfl HKX.out rfl #[.int .u8 ck, .int .i64 ai, .slice A0 ag.length c0, .int .i64 at_, .string ak, .string ab, .int .i64 bid, .int .i64 btm, .slice B0 bms.length d0, .int .i64 btp, .int .i64 bwh, .int .i64 bn] rfl HRA.out (by unfold maxLen; omega) (by omega) HLB.out ?_; intro A8 c8 w5 hko hgr hob; have HF := h! (HSF.out w5 _ A8 _ c8 HAL.out (by rw [N2.out, HXX.out]; exact hko) N1.out hgr hob); have HP2 := h! ((X1.out.below HAL.out X1.out.lt).grown hgr (by obtain ⟨es, _, ho, _⟩ := HKA.out; exact own_ne ho (X1.out.below HAL.out X1.out.lt) (by decide))); clear hko hgr hob x0 x1 x2 f0 f1 f2 y0 y1 y2 y3 y4 y5 y6 y7 y8 y9 y10 y11 y12 y13 y14 y15 y16 y17 y18; obtain ⟨x0, x1, x2, f0, f1, f2⟩ := HP2.out.three)
  go_end0
  exact ⟨rfl, HF.out⟩
def CmR (w : World) (v : Value) (l : List Cm) : Prop := ∃ es : List El, es.map (fun e => e.x) = l ∧ Row w.heap.size w v es ∧ ∀ e ∈ es, RowIs w e.A e.c e.x.m.gs ∧ RowIs w e.B e.d e.x.ms
theorem row_mono {n m : Nat} {W : World} {sv : Value} {es : List El} (h : Row n W sv es) (hn : n ≤ m) : Row m W sv es := by
 rcases h with e | ⟨b, off, cap, e, hb, hc⟩
 ·exact .inl e
 ·exact .inr ⟨b, off, cap, e, by omega, hc⟩
theorem CmR.below {w w' : World} {v : Value} {l : List Cm} (h : CmR w v l) (hb : Below w.heap.size w w') : CmR w' v l := by
 obtain ⟨es, h1, h2, h3⟩ := h
 exact ⟨es, h1, row_mono (h2.below hb) hb.size, fun e he => ⟨(h3 e he).1.below hb, (h3 e he).2.below hb⟩⟩
theorem CX.r {W0 w : World} {b : Nat} {v : Value} {l : List Cm} (h : CX W0 w b v l) (hb : Below W0.heap.size W0 w) : CmR w v l := by
 obtain ⟨es, h1, h2, h3⟩ := h
 refine ⟨es, h1, ?_, fun e he => ⟨(h3 e he).1.below hb, (h3 e he).2.below hb⟩⟩
 rcases Nat.eq_zero_or_pos es.length with h0 | h0
 ·obtain rfl := List.length_eq_zero_iff.1 h0
  rcases h2.2 with ⟨e, _⟩ | ⟨g, cap, cur, e, hb, hx, h5⟩
  ·exact .inl ⟨e, rfl⟩
  ·have hlt : g < w.heap.size := by
    rcases Nat.lt_or_ge g w.heap.size with k | k
    ·exact k
    ·rw [Array.getElem?_eq_none k] at hx; cases hx
   exact .inr ⟨g, 0, cap, e, hlt, fun p x hp => by cases hp⟩
 ·obtain ⟨g, cap, hv, _, hlt⟩ := h2.form h0
  refine .inr ⟨g, 0, cap, hv, hlt, fun p x hp j hj => ?_⟩
  have hc := h2.cells (g := g) (by rw [hv]; rfl)
  have he := ecells_at hp j hj
  have hs : ∃ u, (ecell x)[j]? = some u := ⟨_, List.getElem?_eq_getElem (by rw [ecell_len]; exact hj)⟩
  obtain ⟨u, hu⟩ := hs
  rw [hu] at he ⊢
  have := hc (p * 12 + j) u he
  have e2 : (⟨g, 0, none⟩ : Addr).add (p * 12 + j) = ⟨g, 0 + p * 12 + j, none⟩ := by unfold Addr.add; split <;> simp_all
  rw [e2] at this
  exact this
def ToIs (w : World) (v : Value) (T : List (Int × Mg)) (F : List Cm) : Prop :=
 ∃ (A : Option Addr) (n c : Nat) (b : Nat) (B : Option Addr) (m d : Nat), v = .agg #[.slice A n c, .map (some b), .slice B m d] ∧ KR KW w A n c (T.map toWt) ∧ MpIs w (.map (some b)) (T.map fun p => p.2.id) ∧ CmR w (.slice B m d) F
theorem ToIs.below {w w' : World} {v : Value} {T : List (Int × Mg)} {F : List Cm} (h : ToIs w v T F) (hb : Below w.heap.size w w') : ToIs w' v T F := by
 obtain ⟨A, n, c, b, B, m, d, e, h1, h2, h3⟩ := h
 exact ⟨A, n, c, b, B, m, d, e, h1.below hb, h2.below hb, h3.below hb⟩
def ToX (W0 w : World) (v : Value) (T : List (Int × Mg)) (F : List Cm) : Prop :=
 ∃ (A : Option Addr) (n c : Nat) (b : Nat) (B : Option Addr) (m d : Nat) (q : Nat), v = .agg #[.slice A n c, .map (some b), .slice B m d] ∧ KX KW W0 w q 78 (.slice A n c) (T.map toWt) ∧ MpIs w (.map (some b)) (T.map fun p => p.2.id) ∧ CX W0 w q (.slice B m d) F
theorem ToX.below {W0 w w' : World} {v : Value} {T : List (Int × Mg)} {F : List Cm} (h : ToX W0 w v T F) (hb : Below w.heap.size w w') : ToX W0 w' v T F := by
 obtain ⟨A, n, c, b, B, m, d, q, e, h1, h2, h3⟩ := h
 exact ⟨A, n, c, b, B, m, d, q, e, h1.below hb, h2.below hb, h3.below hb⟩
theorem ToX.is {W0 w : World} {v : Value} {T : List (Int × Mg)} {F : List Cm} (h : ToX W0 w v T F) (hb : Below W0.heap.size W0 w) : ToIs w v T F := by
 obtain ⟨A, n, c, b, B, m, d, q, e, h1, h2, h3⟩ := h
 exact ⟨A, n, c, b, B, m, d, e, h1.r hb, h2, h3.r hb⟩
theorem mp_set {w : World} {b : Nat} {l : List Int} {p i : Nat} {t : TypeId} {cs : Array Value} (h : MpIs w (.map (some b)) l) (hp : Box w p t cs) (u : Value) : MpIs (w.setCell ⟨p, i, none⟩ u) (.map (some b)) l := by
 obtain ⟨b', e, h1⟩ := h
 injection e with e
 injection e with e
 subst e
 refine ⟨b, rfl, h1.setCell (a := ⟨p, i, none⟩) (fun e => ?_) u⟩
 obtain ⟨es, clock, h2, _⟩ := h1
 simp only at e
 rw [e, show w.heap[p]? = _ from hp] at h2
 cases h2
theorem ptell_any (v : Value) (g : Int) (cs : List Cm) (W0 w : World) (h : PlrIs W0 v g cs) (hbw : Below W0.heap.size W0 w) (hg : 0 ≤ g ∧ g < 4) (hcs : ∀ c ∈ cs, CM.may c) (hlen : cs.length ≤ 200) :
  Calls Tryz.prog 31 #[v] w fun e w' => ∃ vt, e = .returned vt ∧ ToX W0 w' vt (OM.play g cs).2.2 (OM.fins g cs) ∧ Below w.heap.size w w' := by
 have HBW := h! hbw
 have HBS := h! hbw.size
 obtain ⟨pc, pg, sv, b0, rfl, v1, v2, v3⟩ := h
 obtain ⟨q0, hq0⟩ : ∃ q0, w.heap.size = q0 := ⟨_, rfl⟩
 obtain ⟨W1, hW1⟩ : ∃ W1, W1 = (w.alloc (.cells #[.slice none 0 0, .map none, .slice none 0 0] 75)).alloc (.cells #[.slice none 0 0, .map none, .slice none 0 0] 75) := ⟨_, rfl⟩
 have HB := h! (show Below w.heap.size w W1 by rw [hW1]; exact ((Below.refl _ _).alloc n! _).alloc (by simp) _)
 have X := h! (show Box W1 q0 75 #[.slice none 0 0, .map none, .slice none 0 0] by rw [hW1]; exact (Box.new_at _ hq0).alloc _)
 have P := h! (show Box W1 (q0 + 1) 75 #[.slice none 0 0, .map none, .slice none 0 0] by rw [hW1]; exact Box.new_at _ (by rw [← hq0]; simp))
 have HQ := h! hq0
 have hid := fun p (hp : p ∈ (OM.play g cs).2.2) => show i64In p.2.id from by
  have := ((OM.inv hg hcs).tm p hp).2.2.2.1.1
  unfold CM.idOk at this
  unfold i64In
  omega
 have HID := h! hid
 have hfew := (told_few g cs).1
 have HCA := h! (pplay_any papply15 58 #[.pointer (some ⟨q0 + 1, 0, none⟩)] g cs W0 W1 (RTe g cs W0 w.heap.size (q0 + 1)) (fun q => q = q0 + 1 ∨ (Value.slice none 0 0).ownBlock = some q ∨ (Value.slice none 0 0).ownBlock = some q) pc pg b0 sv v1 v2 v3 (bmore hbw HB.out n!)
  (seeTe g cs W0 W1 w.heap.size (q0 + 1) hg hcs hlen P.out.lt HB.out.size) ⟨⟨none, 0, 0, none, 0, 0, P.out, kX_nil KW _ _ _ _, cX_nil _ _ _, rfl⟩, Nat.zero_le _⟩ (fun q hq => by have := hbw.size; rcases hq with rfl | hq | hq; omega; cases hq; cases hq) hg hcs)
 clear hid v1 v2 v3 hbw
 go_enter Tryz.func31, Tryz.ntmps31
 go_upto_region 2 with (fail)
 rw [← hW1]
 clear hW1
 try simp only [hq0]
 clear hq0
 go_wp2_with fail
 refine (HCA.out).mono ?_
 rintro e w2 ⟨rfl, X', hR, hK, hX⟩
 clear HCA
 have HB2 := h! (show Below w.heap.size w w2 from HB.out.trans (hK.below HB.out.size (fun q hq => by have := HQ.out; rcases hq with rfl | hq | hq; omega; cases hq; cases hq)))
 have X2 := h! (hK.box X.out (fun q => by rcases q with k | k | k; omega; cases k; cases k))
 obtain ⟨⟨C, i, j, D, u, v, r1, r2, r3, rfl⟩, _⟩ := hR
 rw [List.take_length] at r2 r3
 have P2 := h! r1
 have K2 := h! r2
 have K3 := h! r3
 have hi : i ≤ 4096 := by have := r2.len; rw [List.length_map] at this; omega
 have HPL := h! (pplW_any C i j _ w2 (r2.r (bmore HBW.out HB2.out n!)) hi (fun x hx => by obtain ⟨p, hp, rfl⟩ := List.mem_map.1 hx; exact HID.out p hp))
 clear r1 r2 r3 hK hX
 obtain ⟨x0, x1, x2⟩ := box_sk P2.out
 go_upto_region 4 with (go_at_call 60; refine (HPL.out).mono ?_; rintro e w3 ⟨vm, rfl, hm0, hb3⟩; have HM := h! hm0; obtain ⟨bm, rfl, hm⟩ := hm0; have HB3 := h! hb3; have P3 := h! (P2.out.below hb3 P2.out.lt); clear hm hb3 x0 x1 x2; obtain ⟨x0, x1, x2, f0, f1, f2⟩ := P3.out.three)
 clear x0 x1 x2 f0 f1 f2 HPL
 have q3 := Kept.set (S := fun e => e = 75) (i := 1) P3.out rfl (.map (some bm))
 have P4 := h! (show Box (w3.setCell ⟨q0 + 1, 1, none⟩ (.map (some bm))) (q0 + 1) 75 #[.slice C i j, .map (some bm), .slice D u v] from by
  have := P3.out.stored 1 (.map (some bm))
  simpa using this)
 have X4 := h! ((X2.out.below HB3.out X2.out.lt).far (p := ⟨q0 + 1, 1, none⟩) (by simp) (.map (some bm)))
 have M4 := h! (mp_set (i := 1) HM.out P3.out (.map (some bm)))
 have K24 := h! ((K2.out.below HB3.out).kept q3 (by decide))
 have K34 := h! ((K3.out.below HB3.out).kept q3 (by decide))
 have HB4 := h! (show Below w.heap.size w (w3.setCell ⟨q0 + 1, 1, none⟩ (.map (some bm))) from (bmore HB2.out HB3.out n!).setCell (p := ⟨q0 + 1, 1, none⟩) (by have := HQ.out; simp; omega) _)
 clear q3
 generalize w3.setCell ⟨q0 + 1, 1, none⟩ (.map (some bm)) = w4 at P4 X4 M4 K24 K34 HB4 ⊢
 obtain ⟨x0, x1, x2⟩ := box_sk P4.out
 obtain ⟨y0, y1, y2, f0, f1, f2⟩ := X4.out.three
 have q5 := kept_put3 X4.out (.slice C i j) (.map (some bm)) (.slice D u v)
 have X5 := h! (X4.out.put3 (.slice C i j) (.map (some bm)) (.slice D u v))
 have M5 := h! (mp_set (i := 2) (mp_set (i := 1) (mp_set (i := 0) M4.out X4.out (.slice C i j)) (X4.out.stored 0 (.slice C i j)) (.map (some bm))) ((X4.out.stored 0 (.slice C i j)).stored 1 (.map (some bm))) (.slice D u v))
 have K25 := h! (K24.out.kept q5 (by decide))
 have K35 := h! (K34.out.kept q5 (by decide))
 have HB5 := h! (below_put3 HB4.out (by have := HQ.out; omega) (.slice C i j) (.map (some bm)) (.slice D u v) (g := q0))
 clear q5
 go_wp2_with fail
 obtain ⟨u0, u1, u2⟩ := box_sk X5.out
 exact bodyPost_ret (v := .agg #[.slice C i j, .map (some bm), .slice D u v]) (by simp [results, Tryz.results31, go_sem, u0, u1, u2]; try rfl) rfl ⟨_, rfl, ⟨C, i, j, bm, D, u, v, _, rfl, K25.out, by have := M5.out; rw [List.map_map] at this; exact this, K35.out⟩, HB5.out⟩
end KP
end Go.Proofs.YteebeiaokfenmaaGreat
