/- Contracts of functions of towncrier, layers 5 to 9, and of the document's own ones, part 13; each as its theorem says. -/
import Derived.Test.YtiiobafcgdelmaaGreatL12
import Derived.Test.YtiiobafcgdelmaaGreatL02
import Derived.Test.YtiiobafcgdelmaaGreatL03
import Derived.Test.YtiiobafcgdelmaaGreatL01
import Derived.Test.YtiiobafcgdelmaaGreatL04
import Derived.Test.YtiiobafcgdelmaaGreatL05
import Derived.Test.YtiiobafcgdelmaaGreatL06
import Derived.Deep.QuietTactic
import Derived.BigQuiet
import Derived.Deep.RegionLaw
import Derived.Deep.DeepCutAuto
import Derived.Shelf.RegionOpenPlain
import Derived.Deep.MidRow
import Derived.Deep.AppendSrc
set_option linter.unusedVariables false
set_option linter.unusedSimpArgs false
namespace Go.Proofs.YtiiobafcgdelmaaGreat
open Go.RowKit
theorem onward_eta (a : AM.At) : AM.onward a = ⟨(AM.onward a).ph, a.ba, a.ms, a.wi, (AM.onward a).va, a.ps, a.ac⟩ := by
 have h1 := onward_ba a
 have h2 := onward_ms a
 have h3 := onward_wi a
 have h4 := onward_ps a
 have h5 := onward_ac a
 generalize AM.onward a = o at *
 obtain ⟨p1, p2, p3, p4, p5, p6, p7⟩ := o
 simp only at h1 h2 h3 h4 h5
 subst h1 h2 h3 h4 h5
 rfl
theorem prom_any (v : Value) (a : AM.At) (b : Int) (p : AM.Pr) (w : World) (H : AtIs w v a) (F : Fit a) (FP : FitP p) :
  Calls Tryz.prog 101 #[v, .int .i64 b, .agg #[.int .i64 p.n, .int .i64 p.b, .string p.v]] w (ErrRet (AM.prom a b p) (AM.errP a b p) w) := by
 rcases hm : AM.may a with _ | _
 ·have he : AM.errP a b p = 8 := by unfold AM.errP; rw [if_pos hm]
  have hp : AM.prom a b p = AM.zero := by unfold AM.prom; rw [he]; rfl
  rw [he, hp]
  exact prom_bad v a b p w H F FP hm
 ·have e0 : ∀ y z : Int, (if AM.may a = false then y else z) = z := fun y z => by rw [hm]; rfl
  by_cases hc : a.ph = 1
  ·rcases hc2 : (decide (b = a.ba) && QM.has a.ms p.n) with _ | _
   ·have hn : ¬ (a.ph = 1 ∧ b = a.ba ∧ QM.has a.ms p.n = true) := by
     rintro ⟨_, e1, e2⟩
     rw [e2] at hc2
     simp [e1] at hc2
    have he : AM.errP a b p = 6 := by unfold AM.errP; rw [e0, if_pos hn]
    have hp : AM.prom a b p = AM.zero := by unfold AM.prom; rw [he]; rfl
    rw [he, hp]
    exact prom_none2 v a b p w H F FP hm hc hc2
   ·have hy : a.ph = 1 ∧ b = a.ba ∧ QM.has a.ms p.n = true := by
     simp only [Bool.and_eq_true, decide_eq_true_eq] at hc2
     exact ⟨hc, hc2.1, hc2.2⟩
    rcases ho : AM.okP b p with _ | _
    ·have he : AM.errP a b p = 8 := by unfold AM.errP; rw [e0, if_neg (not_not_intro hy), if_pos ho]
     have hp : AM.prom a b p = AM.zero := by unfold AM.prom; rw [he]; rfl
     rw [he, hp]
     exact prom_bad2 v a b p w H F FP hm hc hc2 ho
    ·have he : AM.errP a b p = 0 := by unfold AM.errP; rw [e0, if_neg (not_not_intro hy), if_neg (by rw [ho]; decide)]
     have hp : AM.prom a b p = AM.onward (AM.addP a p) := by unfold AM.prom; rw [if_pos he]
     rw [he, hp, onward_eta]
     rcases hh : QM.has (AM.nodes a.ps) p.n with _ | _
     ·have ha : AM.addP a p = ⟨a.ph, a.ba, a.ms, a.wi, a.va, AM.insP a.ps p, a.ac⟩ := by unfold AM.addP; rw [hh]; rfl
      rw [ha]
      exact prom_new v a b p w H F FP hm hc hc2 ho hh _ _ rfl rfl
     ·have ha : AM.addP a p = ⟨a.ph, a.ba, a.ms, a.wi, a.va, a.ps, a.ac⟩ := by unfold AM.addP; rw [hh]; rfl
      rw [ha]
      exact prom_has v a b p w H F FP hm hc hc2 ho hh _ _ rfl rfl
  ·have he : AM.errP a b p = 6 := by unfold AM.errP; rw [e0, if_pos (fun h => hc h.1)]
   have hp : AM.prom a b p = AM.zero := by unfold AM.prom; rw [he]; rfl
   rw [he, hp]
   exact prom_none1 v a b p w H F FP hm hc
theorem accd_any (v : Value) (a : AM.At) (b x : Int) (w : World) (H : AtIs w v a) (F : Fit a) :
  Calls Tryz.prog 103 #[v, .int .i64 b, .int .i64 x] w (ErrRet (AM.acc a b x) (AM.errA a b x) w) := by
 rcases hm : AM.may a with _ | _
 ·have he : AM.errA a b x = 8 := by unfold AM.errA; rw [if_pos hm]
  have hp : AM.acc a b x = AM.zero := by unfold AM.acc; rw [he]; rfl
  rw [he, hp]
  exact acc_bad v a b x w H F hm
 ·have e0 : ∀ y z : Int, (if AM.may a = false then y else z) = z := fun y z => by rw [hm]; rfl
  by_cases hc : 2 ≤ a.ph
  ·rcases hc2 : (decide (b = a.ba) && QM.has a.ms x) with _ | _
   ·have hn : ¬ (2 ≤ a.ph ∧ b = a.ba ∧ QM.has a.ms x = true) := by
     rintro ⟨_, e1, e2⟩
     rw [e2] at hc2
     simp [e1] at hc2
    have he : AM.errA a b x = 6 := by unfold AM.errA; rw [e0, if_pos hn]
    have hp : AM.acc a b x = AM.zero := by unfold AM.acc; rw [he]; rfl
    rw [he, hp]
    exact acc_none2 v a b x w H F hm hc hc2
   ·have hy : 2 ≤ a.ph ∧ b = a.ba ∧ QM.has a.ms x = true := by
     simp only [Bool.and_eq_true, decide_eq_true_eq] at hc2
     exact ⟨hc, hc2.1, hc2.2⟩
    have he : AM.errA a b x = 0 := by unfold AM.errA; rw [e0, if_neg (not_not_intro hy)]
    have hp : AM.acc a b x = AM.onward (AM.addA a x) := by unfold AM.acc; rw [if_pos he]
    rw [he, hp, onward_eta]
    rcases hh : QM.has a.ac x with _ | _
    ·have ha : AM.addA a x = ⟨a.ph, a.ba, a.ms, a.wi, a.va, a.ps, AM.insI a.ac x⟩ := by unfold AM.addA; rw [hh]; rfl
     rw [ha]
     exact acc_new v a b x w H F hm hc hc2 hh _ _ rfl rfl
    ·have ha : AM.addA a x = ⟨a.ph, a.ba, a.ms, a.wi, a.va, a.ps, a.ac⟩ := by unfold AM.addA; rw [hh]; rfl
     rw [ha]
     exact acc_has v a b x w H F hm hc hc2 hh _ _ rfl rfl
  ·have he : AM.errA a b x = 6 := by unfold AM.errA; rw [e0, if_pos (fun h => hc h.1)]
   have hp : AM.acc a b x = AM.zero := by unfold AM.acc; rw [he]; rfl
   rw [he, hp]
   exact acc_none1 v a b x w H F hm hc
def begAt (ms : List Int) (ba : Int) (wi : ByteArray) (y : Int) : AM.At := if y = 0 then AM.start ms ba wi else AM.zero
theorem begin_any (A : Option Addr) (n c : Nat) (ms : List Int) (ba : Int) (wi : ByteArray) (y : Int) (w : World) (hr : Rd w A n (ic ms)) (hl : ms.length ≤ 2000) (b1 : -9223372036854775808 ≤ ba) (b2 : ba ≤ 9223372036854775807) (hs : wi.size ≤ maxLen) (hy : AM.BegIs ms ba wi y) :
  Calls Tryz.prog 77 #[.slice A n c, .int .i64 ba, .string wi] w (ErrRet (begAt ms ba wi y) y w) := by
 by_cases h0 : y = 0
 ·rw [begAt, if_pos h0]
  exact begin_ok A n c ms ba wi y w hr hl b1 b2 hs hy h0
 ·rw [begAt, if_neg h0]
  exact begin_err A n c ms ba wi y w hr hl b1 b2 hs hy h0
theorem may_lens {a : AM.At} (h : AM.may a = true) : a.ms.length ≤ 6 ∧ a.ps.length ≤ 6 ∧ a.ac.length ≤ 6 := by
 by_cases h0 : a.ph = 0
 ·unfold AM.may at h
  rw [if_pos h0, decide_eq_true_iff] at h
  subst h
  exact ⟨by decide, by decide, by decide⟩
 ·obtain ⟨_, _, k, _⟩ := AM.may_pos h h0
  obtain ⟨_, _, k3, k4⟩ := AM.okL_parts'.1 k
  have e3 := AM.some_len k3
  rw [AM.nodes_length] at e3
  exact ⟨(QM.may_len (AM.okL_may k)).2.1, e3, AM.some_len k4⟩
theorem fit_prom {a : AM.At} {b : Int} {p : AM.Pr} (F : Fit a) (FP : FitP p) : Fit (AM.prom a b p) := by
 by_cases h : AM.errP a b p = 0
 ·have hl := may_lens (AM.may_prom h)
  have hall : ∀ q ∈ AM.addPs a.ps p, FitP q := fun q hq => by
   rcases AM.mem_addPs.1 hq with h | ⟨rfl, _⟩
   ·exact F.all q h
   ·exact FP
  rw [AM.prom_eq h] at hl ⊢
  split at hl
  ·rename_i hm
   rw [if_pos hm]
   exact ⟨by simp, by simp, F.b1, F.b2, F.wi, by have := hl.1; simp only at this ⊢; omega, by have := hl.2.1; simp only at this ⊢; omega, by simp, hall⟩
  ·rename_i hm
   rw [if_neg hm]
   exact ⟨by simp, by simp, F.b1, F.b2, F.wi, by have := hl.1; simp only at this ⊢; omega, by have := hl.2.1; simp only at this ⊢; omega, by simp, hall⟩
 ·unfold AM.prom
  rw [if_neg h]
  exact fit_zero
def LoopMid (wr : World) (y : AM.At) (e : Int) (u v : Value) (wx : World) : Prop :=
 ∃ g A c D q C f, u = .pointer (some ⟨g, 0, none⟩) ∧ v = .int .i64 e ∧ Below wr.heap.size wr wx ∧ wr.heap.size ≤ g ∧
  Box wx g 57 #[.int .u8 y.ph, .int .i64 y.ba, .slice A y.ms.length c, .string y.wi, .string y.va, .slice D y.ps.length q, .slice C y.ac.length f] ∧
  AtOwn wx wr.heap.size (.agg #[.int .u8 y.ph, .int .i64 y.ba, .slice A y.ms.length c, .string y.wi, .string y.va, .slice D y.ps.length q, .slice C y.ac.length f]) y
theorem lm_1 {wr w4 : World} {y : AM.At} {e : Int} {A D C : Option Addr} {c q f : Nat} (hb : Below wr.drew.heap.size wr.drew w4)
  (own : AtOwn w4 wr.drew.heap.size (.agg #[.int .u8 y.ph, .int .i64 y.ba, .slice A y.ms.length c, .string y.wi, .string y.va, .slice D y.ps.length q, .slice C y.ac.length f]) y) :
  Below wr.heap.size wr w4 ∧ LoopMid wr y e (.pointer (some ⟨w4.heap.size, 0, none⟩)) (.int .i64 e) (w4.alloc (.cells #[.int .u8 y.ph, .int .i64 y.ba, .slice A y.ms.length c, .string y.wi, .string y.va, .slice D y.ps.length q, .slice C y.ac.length f] 57)) := by
 have h : Below wr.heap.size wr w4 := bmore ((Below.refl _ _).drew) hb n!
 exact ⟨h, _, A, c, D, q, C, f, rfl, rfl, h.alloc h.size _, h.size, Box.new _ _ _, own.below ((Below.refl _ _).alloc n! _)⟩
theorem lm_2 {wr w4 : World} {y : AM.At} {e : Int} {A D C : Option Addr} {c q f : Nat} {z0 z1 z2 z3 z4 z5 z6 : Value}
  (hb : Below ((wr.alloc (.cells #[z0, z1, z2, z3, z4, z5, z6] 57)).drew).heap.size ((wr.alloc (.cells #[z0, z1, z2, z3, z4, z5, z6] 57)).drew) w4)
  (own : AtOwn w4 ((wr.alloc (.cells #[z0, z1, z2, z3, z4, z5, z6] 57)).drew).heap.size (.agg #[.int .u8 y.ph, .int .i64 y.ba, .slice A y.ms.length c, .string y.wi, .string y.va, .slice D y.ps.length q, .slice C y.ac.length f]) y) :
  Below wr.heap.size wr w4 ∧ Box w4 wr.heap.size 57 #[z0, z1, z2, z3, z4, z5, z6] ∧ LoopMid wr y e (.pointer (some ⟨wr.heap.size, 0, none⟩)) (.int .i64 e)
   (put7 w4 wr.heap.size (.int .u8 y.ph) (.int .i64 y.ba) (.slice A y.ms.length c) (.string y.wi) (.string y.va) (.slice D y.ps.length q) (.slice C y.ac.length f)) := by
 have h : Below wr.heap.size wr w4 := bmore (((Below.refl _ _).alloc n! _).drew) hb n!
 have hlt : wr.heap.size < ((wr.alloc (.cells #[z0, z1, z2, z3, z4, z5, z6] 57)).drew).heap.size := by show wr.heap.size < (wr.alloc (.cells #[z0, z1, z2, z3, z4, z5, z6] 57)).heap.size; simp
 have hx : Box w4 wr.heap.size 57 #[z0, z1, z2, z3, z4, z5, z6] := ((Box.new wr 57 #[z0, z1, z2, z3, z4, z5, z6]).drew).below hb hlt
 obtain ⟨x, y', z, ev, o1, o2, o3⟩ := own
 exact ⟨h, hx, _, A, c, D, q, C, f, rfl, rfl, below_put7 h n! .., Nat.le_refl _, hx.put7 .., x, y', z, ev, own_base (own_put7 o1 hlt ..) (Nat.le_of_lt hlt), own_base (own_put7 o2 hlt ..) (Nat.le_of_lt hlt), own_base (own_put7 o3 hlt ..) (Nat.le_of_lt hlt)⟩
end Go.Proofs.YtiiobafcgdelmaaGreat
namespace Go.Proofs.YtiiobafcgdelmaaGreat
open Go.RowKit Go.Shelf
theorem step_append_h {P : Program} {ops : Array Oper} {o : Oper} {a : Act} {w : World} {K : Act → World → Prop} {Q : Exit → Act → World → Prop} {E : Prop}
  (hgd : o.guard = none) (so x : Operand) (t : TypeId)
  (ho : o.op = .call { callee := .builtin .append, args := #[so, x], argTypes := #[t, t] })
  (base : Nat) (e : TypeId) (i : TypeInfo) (z : Value) (s bytes : Nat) (ht : P.underlying t = some (.slice e)) (hi : P.info? e = some i) (hz : i.zero = some z)
  (hsize : i.size = s) (hby : i.bytes = bytes) (hzs : z.cells.size = s) (hsz : 0 < s)
  (v : Value) (n : Nat) (xs : List Value) (hs : a.eval so = v) (hown : w.ownsRow base e s v n xs)
  (A : Option Addr) (m c : Nat) (news : List Value) (hx : a.eval x = .slice A m c) (hr : RdG w s A m news) (h1 : ∀ u ∈ news, u.oneCell' = true)
  (h63 : n + m ≤ maxLen) (hbytes : (n + m) * bytes ≤ 140737488355328) (hbase : base ≤ w.heap.size)
  (hK : ∀ v' w', w'.ownsRow base e s v' (n + m) (xs ++ news) → w.grownBy w' v.ownBlock → (v'.ownBlock = v.ownBlock ∨ v'.ownBlock = some w.heap.size) → K (a.put o.dst v') w') :
  if Region.wanted o (yielded ops a.tmps) = true then Oper.wp P o a w K Q else E := by
 have hw : Region.wanted o (yielded ops a.tmps) = true := by simp [Region.wanted, hgd]
 rw [if_pos hw]
 obtain ⟨v', w', hrun, h2, h3, h4⟩ := run_append_g (P := P) w base t o.type e i z s bytes ht hi hz hsize hby hzs hsz v n xs hown A m c news hr h1 h63 hbytes hbase
 unfold Oper.wp execOp
 simp only [ho, resolve, invoke, builtin, Sem.run_bind, Sem.run_pure, Result.andThen_ok, List.map_toArray, List.map_cons, List.map_nil, hs, hx, hrun]
 exact hK _ _ h2 h3 h4
theorem run_append_cut {P : Program} (w : World) (t ty e : TypeId) (i : TypeInfo) (z : Value) (s bytes : Nat) (ht : P.underlying t = some (.slice e)) (hi : P.info? e = some i) (hz : i.zero = some z)
  (hsize : i.size = s) (hby : i.bytes = bytes) (hzs : z.cells.size = s)
  (A : Option Addr) (n : Nat) (xs : List Value) (hr : RdG w s A n xs) (B : Option Addr) (m c : Nat) (news : List Value) (hx : RdG w s B m news) (hm : 0 < m) (h1 : ∀ u ∈ news, u.oneCell' = true)
  (h63 : n + m ≤ maxLen) (hbytes : (n + m) * bytes ≤ 140737488355328) :
  ∃ cap w', (Builtin.append_ #[t, t] ty #[.slice A n n, .slice B m c]).run P w = .ok (.slice (some ⟨w.heap.size, 0, none⟩) (n + m) cap) w' ∧ w'.ownsRow w.heap.size e s (.slice (some ⟨w.heap.size, 0, none⟩) (n + m) cap) (n + m) (xs ++ news) ∧ Below w.heap.size w w' := by
 subst hsize
 subst hby
 obtain ⟨x, rfl, _, hnews⟩ := hx.2 hm
 have hold : (Builtin.firstCells i.size n (.slice A n n)).run P w.drew = .ok xs.toArray w.drew := by
  rcases A with _ | a
  ·have hn : n = 0 := by
    rcases Nat.eq_zero_or_pos n with h0 | h0
    ·exact h0
    ·obtain ⟨ad, h, _⟩ := hr.2 h0; cases h
   subst hn
   have hn : xs = [] := List.eq_nil_of_length_eq_zero (by simpa using hr.1)
   subst hn
   exact run_firstCells_none w.drew _ _ _ _
  ·refine run_firstCells_some w.drew i.size n a n n xs hr.1 fun j v hv => ?_
   rcases Nat.eq_zero_or_pos n with h0 | h0
   ·subst h0
    have hn : xs = [] := List.eq_nil_of_length_eq_zero (by simpa using hr.1)
    subst hn
    simp at hv
   ·obtain ⟨ad, h, _, hc⟩ := hr.2 h0
    injection h with h
    subst h
    exact hc j v hv
 have hsm : n + m ≤ 9223372036854775807 := by unfold maxLen at h63; omega
 have hrun := run_append_grow_src (P := P) w t t ty e i z ht hi hz A n n xs hold (.slice (some x) m c) m news (Src.ofSlice w ht x m c news hx.1 hnews h1) (by omega) (by omega) (growslice_fits (by omega) hbytes)
 have hge := grownCap_ge w (n + m) n e
 have hcm := grownCap_le_maxLen w (n + m) n e h63
 have hlen : (xs ++ news).length = (n + m) * i.size := by rw [List.length_append, hr.1, hx.1, Nat.add_mul]
 refine ⟨_, _, hrun, ⟨hlen, .inr ⟨w.heap.size, _, _, rfl, Nat.le_refl _, heap_alloc_new w.drew _, hge, hcm, ?_, ?_⟩⟩, (((Below.refl _ _).drew).alloc n! _)⟩
 ·simp only [Array.size_append, List.size_toArray, size_zeroCells, hzs, hlen, ← Nat.add_mul]
  congr 1
  omega
 ·simp only [Array.toList_append]
  rw [← hlen]
  exact List.take_left
theorem run_append_none {P : Program} (w : World) (t ty e : TypeId) (i : TypeInfo) (ht : P.underlying t = some (.slice e)) (hi : P.info? e = some i) (a : Addr) (n k : Nat) (hn : n ≤ k) (B : Option Addr) (c : Nat) :
  (Builtin.append_ #[t, t] ty #[.slice (some a) n k, .slice B 0 c]).run P w = .ok (.slice (some a) n k) w := by
 rcases B with _ | x
 ·simp [Builtin.append_, run_underlying ht, sizeOf, typeInfo, hi, Builtin.lenOf, Builtin.firstCells, hn, storeCells]
 ·have h := run_firstCells_some (P := P) w i.size 0 x 0 c [] (by simp) (by simp)
  simp [Builtin.append_, run_underlying ht, sizeOf, typeInfo, hi, Builtin.lenOf, h, hn, storeCells]
theorem OwnsM.rd {w : World} {base n c : Nat} {A : Option Addr} {xs : List Value} (h : OwnsM w base (.slice A n c) n xs) : RdG w 10 A n xs := by
 rcases h with h | ⟨h1, h2, g, cur, hv, hg, hx, hc⟩
 ·refine ⟨h.1, fun hn => ?_⟩
  obtain ⟨g, cap, hv, _, hlt⟩ := h.form hn
  have hA : A = some ⟨g, 0, none⟩ := by injection hv
  subst hA
  exact ⟨_, rfl, hlt, h.cells (g := g) rfl⟩
 ·injection hv with hv
  subst hv
  refine ⟨h1, fun _ => ⟨_, rfl, hx.lt, fun j u hu => ?_⟩⟩
  have : (⟨g, 0, none⟩ : Addr).add j = ⟨g, j, none⟩ := by unfold Addr.add; split <;> simp_all
  have hj : j < n * 10 := by rw [← h1]; exact (List.getElem?_eq_some_iff.1 hu).1
  rw [this, hx.cell j, ← hu, ← hc, List.getElem?_take, if_pos hj]
  simp
theorem step_append_m {P : Program} {ops : Array Oper} {o : Oper} {a : Act} {w : World} {K : Act → World → Prop} {Q : Exit → Act → World → Prop} {E : Prop}
  (hgd : o.guard = none) (so x : Operand) (t : TypeId)
  (ho : o.op = .call { callee := .builtin .append, args := #[so, x], argTypes := #[t, t] })
  (base : Nat) (i : TypeInfo) (z : Value) (bytes : Nat) (ht : P.underlying t = some (.slice 51)) (hi : P.info? 51 = some i) (hz : i.zero = some z)
  (hsize : i.size = 10) (hby : i.bytes = bytes) (hzs : z.cells.size = 10)
  (v : Value) (n : Nat) (xs : List Value) (hs : a.eval so = v) (hown : OwnsM w base v n xs)
  (A : Option Addr) (m c : Nat) (hm : 0 < m) (news : List Value) (hx : a.eval x = .slice A m c) (hr : RdG w 10 A m news) (h1 : ∀ u ∈ news, u.oneCell' = true)
  (h63 : n + m ≤ maxLen) (hbytes : (n + m) * bytes ≤ 140737488355328) (hbase : base ≤ w.heap.size)
  (hK : ∀ v' w', w'.ownsRow base 51 10 v' (n + m) (xs ++ news) → w.grownBy w' v.ownBlock → (v'.ownBlock = v.ownBlock ∨ v'.ownBlock = some w.heap.size) → K (a.put o.dst v') w') :
  if Region.wanted o (yielded ops a.tmps) = true then Oper.wp P o a w K Q else E := by
 rcases hown with hown | hown
 ·exact step_append_h hgd so x t ho base _ i z 10 bytes ht hi hz hsize hby hzs (by omega) v n xs hs hown A m c news hx hr h1 h63 hbytes hbase hK
 ·have hw : Region.wanted o (yielded ops a.tmps) = true := by simp [Region.wanted, hgd]
  rw [if_pos hw]
  have hrd : OwnsM w base v n xs := .inr hown
  obtain ⟨_, _, g, cur, rfl, _⟩ := hown
  obtain ⟨cap, w', hrun, h2, h3⟩ := run_append_cut (P := P) w t o.type _ i z 10 bytes ht hi hz hsize hby hzs _ n xs hrd.rd A m c news hr hm h1 h63 hbytes
  unfold Oper.wp execOp
  simp only [ho, resolve, invoke, builtin, Sem.run_bind, Sem.run_pure, Result.andThen_ok, List.map_toArray, List.map_cons, List.map_nil, hs, hx, hrun]
  exact hK _ _ (own_base h2 hbase) ⟨h3.os, h3.tape, h3.output, h3.size, fun k hk _ => h3.block k hk⟩ (.inr rfl)
theorem info_mail : (Tryz.prog.info? 51).map (fun i => (i.zero, i.size, i.bytes)) = some (some (.agg #[.int .i64 0, .int .i64 0, .int .u8 0, .int .i64 0, .int .i64 0, .int .i64 0, .int .i64 0, .string ⟨#[]⟩, .int .i64 0, .int .i64 0]), 10, 88) := by kernel_rfl
theorem info_choice : (Tryz.prog.info? 53).map (fun i => (i.zero, i.size, i.bytes)) = some (some (.agg #[.int .i64 0, .string ⟨#[]⟩]), 2, 24) := by kernel_rfl
theorem others_snoc (ms : List Int) (m : DC.Ml) {j : Nat} {y : Int} (h : ms[j]? = some y) : DC.others (ms.take (j + 1)) m = DC.others (ms.take j) m ++ (if y = m.f then [] else [{ m with t := y }]) := by
 obtain ⟨hj, rfl⟩ := List.getElem?_eq_some_iff.1 h
 unfold DC.others
 rw [List.take_succ_eq_append_getElem hj, List.filter_append, List.map_append]
 congr 1
 rw [List.filter_cons]
 split
 ·rename_i e
  rw [if_neg (by simpa using e)]
  rfl
 ·rename_i e
  rw [if_pos (by simpa using e)]
  rfl
theorem Box.five {w : World} {g : Nat} {t : TypeId} {a b c d e : Value} (h : Box w g t #[a, b, c, d, e]) :
  (w.cell? ⟨g, 0, none⟩ = some a ∧ w.cell? ⟨g, 1, none⟩ = some b ∧ w.cell? ⟨g, 2, none⟩ = some c ∧ w.cell? ⟨g, 3, none⟩ = some d ∧ w.cell? ⟨g, 4, none⟩ = some e) ∧
  (w.frozen? ⟨g, 0, none⟩ = false ∧ w.frozen? ⟨g, 1, none⟩ = false ∧ w.frozen? ⟨g, 2, none⟩ = false ∧ w.frozen? ⟨g, 3, none⟩ = false ∧ w.frozen? ⟨g, 4, none⟩ = false) :=
 ⟨⟨h.cell 0, h.cell 1, h.cell 2, h.cell 3, h.cell 4⟩, h.frozen 0, h.frozen 1, h.frozen 2, h.frozen 3, h.frozen 4⟩
theorem Box.ten {w : World} {g : Nat} {t : TypeId} {a b c d e f i j k l : Value} (h : Box w g t #[a, b, c, d, e, f, i, j, k, l]) :
  w.cell? ⟨g, 0, none⟩ = some a ∧ w.cell? ⟨g, 1, none⟩ = some b ∧ w.cell? ⟨g, 2, none⟩ = some c ∧ w.cell? ⟨g, 3, none⟩ = some d ∧ w.cell? ⟨g, 4, none⟩ = some e ∧ w.cell? ⟨g, 5, none⟩ = some f ∧ w.cell? ⟨g, 6, none⟩ = some i ∧ w.cell? ⟨g, 7, none⟩ = some j ∧ w.cell? ⟨g, 8, none⟩ = some k ∧ w.cell? ⟨g, 9, none⟩ = some l :=
 ⟨h.cell 0, h.cell 1, h.cell 2, h.cell 3, h.cell 4, h.cell 5, h.cell 6, h.cell 7, h.cell 8, h.cell 9⟩
theorem own_some {w : World} {base s n c : Nat} {e : TypeId} {A : Option Addr} {xs : List Value} (h : w.ownsRow base e s (.slice A n c) n xs) (hn : 0 < n) : ∃ q, A = some ⟨q, 0, none⟩ ∧ base ≤ q ∧ ∀ j u, xs[j]? = some u → w.cell? ⟨q, j, none⟩ = some u := by
 obtain ⟨g, cap, hv, hb, hlt⟩ := h.form hn
 have hA : A = some ⟨g, 0, none⟩ := by injection hv
 subst hA
 refine ⟨g, rfl, hb, fun j u hu => ?_⟩
 have := h.cells (g := g) rfl j u hu
 rwa [show (⟨g, 0, none⟩ : Addr).add j = ⟨g, j, none⟩ by unfold Addr.add; split <;> simp_all] at this
theorem try_cells {W : World} {base c n i : Nat} {A : Option Addr} {xs : List Value} {ts : List AM.At} {t : AM.At} (h : W.ownsRow base 57 7 (.slice A n c) n xs) (ht : TsRow W base xs ts) (hi : ts[i]? = some t) (hn : n = ts.length) :
  ∃ q x y z, A = some ⟨q, 0, none⟩ ∧ base ≤ q ∧ AtOwn W base (.agg #[.int .u8 t.ph, .int .i64 t.ba, x, .string t.wi, .string t.va, y, z]) t ∧
   W.cell? ⟨q, i * 7, none⟩ = some (.int .u8 t.ph) ∧ W.cell? ⟨q, i * 7 + 1, none⟩ = some (.int .i64 t.ba) ∧ W.cell? ⟨q, i * 7 + 2, none⟩ = some x ∧ W.cell? ⟨q, i * 7 + 3, none⟩ = some (.string t.wi) ∧ W.cell? ⟨q, i * 7 + 4, none⟩ = some (.string t.va) ∧ W.cell? ⟨q, i * 7 + 5, none⟩ = some y ∧ W.cell? ⟨q, i * 7 + 6, none⟩ = some z := by
 have hlt : i < ts.length := (List.getElem?_eq_some_iff.1 hi).1
 obtain ⟨q, hA, hb, hc⟩ := own_some h (by omega)
 obtain ⟨v, ho, hx⟩ := ht.get hi
 obtain ⟨x, y, z, rfl, o1, o2, o3⟩ := ho
 refine ⟨q, x, y, z, hA, hb, ⟨x, y, z, rfl, o1, o2, o3⟩, ?_⟩
 exact ⟨hc _ _ (hx 0 (by omega)), hc _ _ (hx 1 (by omega)), hc _ _ (hx 2 (by omega)), hc _ _ (hx 3 (by omega)), hc _ _ (hx 4 (by omega)), hc _ _ (hx 5 (by omega)), hc _ _ (hx 6 (by omega))⟩
def isA (e : TypeId) : Prop := e = 57
def isV (e : TypeId) : Prop := e = 59
def putAt7 (w : World) (g o : Nat) (a b c d e f i : Value) : World :=
 ((((((w.setCell ⟨g, o, none⟩ a).setCell ⟨g, o + 1, none⟩ b).setCell ⟨g, o + 2, none⟩ c).setCell ⟨g, o + 3, none⟩ d).setCell ⟨g, o + 4, none⟩ e).setCell ⟨g, o + 5, none⟩ f).setCell ⟨g, o + 6, none⟩ i
def putAt3 (w : World) (g o : Nat) (a b c : Value) : World := ((w.setCell ⟨g, o, none⟩ a).setCell ⟨g, o + 1, none⟩ b).setCell ⟨g, o + 2, none⟩ c
theorem kept_own {W : World} {S : TypeId → Prop} {base s n c q : Nat} {e : TypeId} {xs : List Value} (h : W.ownsRow base e s (.slice (some ⟨q, 0, none⟩) n c) n xs) (hn : 0 < n) (he : S e) (j : Nat) (u : Value) : Kept S W (W.setCell ⟨q, j, none⟩ u) := by
 obtain ⟨_, cur, hx⟩ := own_block h (show (Value.slice (some ⟨q, 0, none⟩) n c).ownBlock = some q from rfl)
 exact Kept.set hx he u
theorem own_at7 {W : World} {base n c q o : Nat} {e : TypeId} {S : TypeId → Prop} {xs : List Value} (h : W.ownsRow base e 7 (.slice (some ⟨q, 0, none⟩) n c) n xs) (hn : 0 < n) (he : S e) (a b c' d e' f i : Value) :
  (putAt7 W q o a b c' d e' f i).ownsRow base e 7 (.slice (some ⟨q, 0, none⟩) n c) n (puts xs o [a, b, c', d, e', f, i]) ∧ Kept S W (putAt7 W q o a b c' d e' f i) := by
 have h1 := (h.stored o a).1
 have h2 := (h1.stored (o + 1) b).1
 have h3 := (h2.stored (o + 2) c').1
 have h4 := (h3.stored (o + 3) d).1
 have h5 := (h4.stored (o + 4) e').1
 have h6 := (h5.stored (o + 5) f).1
 have h7 := (h6.stored (o + 6) i).1
 exact ⟨h7, ((((((kept_own h hn he o a).trans (kept_own h1 hn he _ b)).trans (kept_own h2 hn he _ c')).trans (kept_own h3 hn he _ d)).trans (kept_own h4 hn he _ e')).trans (kept_own h5 hn he _ f)).trans (kept_own h6 hn he _ i)⟩
theorem own_at3 {W : World} {base n c q o : Nat} {e : TypeId} {S : TypeId → Prop} {xs : List Value} (h : W.ownsRow base e 3 (.slice (some ⟨q, 0, none⟩) n c) n xs) (hn : 0 < n) (he : S e) (a b c' : Value) :
  (putAt3 W q o a b c').ownsRow base e 3 (.slice (some ⟨q, 0, none⟩) n c) n (puts xs o [a, b, c']) ∧ Kept S W (putAt3 W q o a b c') := by
 have h1 := (h.stored o a).1
 have h2 := (h1.stored (o + 1) b).1
 have h3 := (h2.stored (o + 2) c').1
 exact ⟨h3, ((kept_own h hn he o a).trans (kept_own h1 hn he _ b)).trans (kept_own h2 hn he _ c')⟩
theorem below_at7 {B g : Nat} {u w : World} (h : Below B u w) (hg : B ≤ g) (o : Nat) (a b c d e f i : Value) : Below B u (putAt7 w g o a b c d e f i) :=
 ((((((h.setCell (p := ⟨g, o, none⟩) hg a).setCell (p := ⟨g, o + 1, none⟩) hg b).setCell (p := ⟨g, o + 2, none⟩) hg c).setCell (p := ⟨g, o + 3, none⟩) hg d).setCell (p := ⟨g, o + 4, none⟩) hg e).setCell (p := ⟨g, o + 5, none⟩) hg f).setCell (p := ⟨g, o + 6, none⟩) hg i
theorem below_at3 {B g : Nat} {u w : World} (h : Below B u w) (hg : B ≤ g) (o : Nat) (a b c : Value) : Below B u (putAt3 w g o a b c) :=
 ((h.setCell (p := ⟨g, o, none⟩) hg a).setCell (p := ⟨g, o + 1, none⟩) hg b).setCell (p := ⟨g, o + 2, none⟩) hg c
theorem vote_cells {W : World} {base c n i : Nat} {A : Option Addr} {vs : List DC.Vt} {v : DC.Vt} (h : W.ownsRow base 59 3 (.slice A n c) n (flat vcell vs)) (hi : vs[i]? = some v) (hn : n = vs.length) :
  ∃ q, A = some ⟨q, 0, none⟩ ∧ base ≤ q ∧ W.cell? ⟨q, i * 3, none⟩ = some (.int .i64 v.p) ∧ W.cell? ⟨q, i * 3 + 1, none⟩ = some (.int .i64 v.b) ∧ W.cell? ⟨q, i * 3 + 2, none⟩ = some (.string v.v) := by
 have hlt : i < vs.length := (List.getElem?_eq_some_iff.1 hi).1
 obtain ⟨q, hA, hb, hc⟩ := own_some h (by omega)
 have hg := flat_get (f := vcell) (s := 3) (fun _ _ => rfl) hi
 exact ⟨q, hA, hb, hc _ _ (hg 0 (by omega)), hc _ _ (hg 1 (by omega)), hc _ _ (hg 2 (by omega))⟩
theorem fit_mayT {ms : List Int} {n : Int} {t : AM.At} (h : DC.MayT ms n t) : Fit t := by
 by_cases h0 : t.ph = 0
 ·have := h.1
  unfold AM.may at this
  rw [if_pos h0] at this
  have e : t = AM.zero := by simpa using this
  rw [e]; exact fit_zero
 ·obtain ⟨p1, p3, hok, _⟩ := AM.may_pos h.1 h0
  obtain ⟨hg, hw, hps⟩ := DC.may_good h.1 h0
  obtain ⟨l1, l2, l3⟩ := may_lens h.1
  unfold BM.good at hg
  refine ⟨by omega, by omega, by omega, by omega, by unfold maxLen; omega, by omega, by omega, by omega, fun p hp => ?_⟩
  have ho := List.all_eq_true.1 hps p hp
  have hs := DC.okP_size ho
  have hb := DC.okP_bal ho (by unfold BM.good; omega)
  exact ⟨by omega, by omega, by unfold maxLen; omega⟩
def VoteMid (wr : World) (x y : Int) (t : ByteArray) (e : Int) (u v : Value) (wx : World) : Prop :=
 ∃ g, u = .pointer (some ⟨g, 0, none⟩) ∧ v = .int .i64 e ∧ Below wr.heap.size wr wx ∧ wr.heap.size ≤ g ∧ Box wx g 59 #[.int .i64 x, .int .i64 y, .string t]
theorem vm_1 {wr w4 : World} {x y e : Int} {t : ByteArray} (hb : Below wr.drew.heap.size wr.drew w4) :
  Below wr.heap.size wr w4 ∧ VoteMid wr x y t e (.pointer (some ⟨w4.heap.size, 0, none⟩)) (.int .i64 e) (w4.alloc (.cells #[.int .i64 x, .int .i64 y, .string t] 59)) := by
 have h : Below wr.heap.size wr w4 := bmore ((Below.refl _ _).drew) hb n!
 exact ⟨h, _, rfl, rfl, h.alloc h.size _, h.size, Box.new _ _ _⟩
theorem vm_2 {wr w4 : World} {x y e : Int} {t : ByteArray} {z0 z1 z2 : Value} (hb : Below ((wr.alloc (.cells #[z0, z1, z2] 59)).drew).heap.size ((wr.alloc (.cells #[z0, z1, z2] 59)).drew) w4) :
  Below wr.heap.size wr w4 ∧ Box w4 wr.heap.size 59 #[z0, z1, z2] ∧ VoteMid wr x y t e (.pointer (some ⟨wr.heap.size, 0, none⟩)) (.int .i64 e) (((w4.setCell ⟨wr.heap.size, 0, none⟩ (.int .i64 x)).setCell ⟨wr.heap.size, 1, none⟩ (.int .i64 y)).setCell ⟨wr.heap.size, 2, none⟩ (.string t)) := by
 have h : Below wr.heap.size wr w4 := bmore (((Below.refl _ _).alloc n! _).drew) hb n!
 have hlt : wr.heap.size < ((wr.alloc (.cells #[z0, z1, z2] 59)).drew).heap.size := by show wr.heap.size < (wr.alloc (.cells #[z0, z1, z2] 59)).heap.size; simp
 have hx : Box w4 wr.heap.size 59 #[z0, z1, z2] := ((Box.new wr 59 #[z0, z1, z2]).drew).below hb hlt
 exact ⟨h, hx, _, rfl, rfl, below_put3 h n! .., Nat.le_refl _, hx.put3 ..⟩
theorem step_store_mid {P : Program} {ops : Array Oper} {o : Oper} {a : Act} {w : World} {K : Act → World → Prop} {Q : Exit → Act → World → Prop} {E : Prop} (hgd : o.guard = none) (ty : TypeId) (x y : Operand) (ho : o.op = .store ty x y)
  (b off : Nat) (cells : Array Value) (hx : a.eval x = .pointer (some ⟨b, off, none⟩)) (hy : a.eval y = .agg cells)
  (ht : w.there b off cells.size) (hi : (P.info? ty).map (·.size) = some cells.size) (h1 : cells.all (·.oneCell') = true)
  (h : K (a.put o.dst undef) (w.setCells b off cells.toList)) : if Region.wanted o (yielded ops a.tmps) = true then Oper.wp P o a w K Q else E := by
 have hw : Region.wanted o (yielded ops a.tmps) = true := by simp [Region.wanted, hgd]
 rw [if_pos hw]
 exact wp_store_mid ty x y ho b off cells hx hy ht hi h1 h
theorem there_own {W : World} {base s n c q o k : Nat} {e : TypeId} {xs : List Value} (h : W.ownsRow base e s (.slice (some ⟨q, 0, none⟩) n c) n xs) (hk : o + k ≤ n * s) : W.there q o k := by
 intro j hj
 obtain ⟨_, cur, hc⟩ := own_block h (show (Value.slice (some ⟨q, 0, none⟩) n c).ownBlock = some q from rfl)
 have hl := h.1
 have hn : 0 < n := by
  rcases Nat.eq_zero_or_pos n with h0 | h0
  ·subst h0; omega
  ·exact h0
 obtain ⟨q', hA, _, hx⟩ := own_some h hn
 injection hA with hA
 injection hA with hA
 subst hA
 refine ⟨?_, hc.frozen _⟩
 rw [hx (o + j) _ (List.getElem?_eq_getElem (by omega))]
 rfl
def TryVar (wx : World) (base gM : Nat) (a : AM.At) (A : Option Addr) (c : Nat) (D : Option Addr) (q : Nat) (C : Option Addr) (f : Nat) : Prop :=
 Box wx gM 57 #[.int .u8 a.ph, .int .i64 a.ba, .slice A a.ms.length c, .string a.wi, .string a.va, .slice D a.ps.length q, .slice C a.ac.length f] ∧
 AtOwn wx base (.agg #[.int .u8 a.ph, .int .i64 a.ba, .slice A a.ms.length c, .string a.wi, .string a.va, .slice D a.ps.length q, .slice C a.ac.length f]) a
theorem row_ne {W : World} {base q n c gM s : Nat} {e : TypeId} {xs : List Value} {cs : Array Value} (h : W.ownsRow base e s (.slice (some ⟨q, 0, none⟩) n c) n xs) (hn : 1 < n) (hb : Box W gM e cs) (hs : 0 < s) (hc : cs.size = s) : gM ≠ q := by
 intro e'
 subst e'
 rcases h.2 with ⟨h', _⟩ | ⟨g', cap', cur, h', _, hg, hnc, _, hcs, _⟩
 ·cases h'
 ·simp only [Value.slice.injEq, Option.some.injEq, Addr.mk.injEq, and_true, true_and] at h'
  obtain ⟨rfl, rfl⟩ := h'
  rw [Box] at hb
  rw [hg] at hb
  injection hb with hb
  injection hb with hb _
  subst hb
  have h2 : 2 * s ≤ n * s := Nat.mul_le_mul_right s (by omega)
  have h3 := Nat.mul_le_mul_right s hnc
  omega
theorem box_at7 {w : World} {g q o : Nat} {t : TypeId} {cs : Array Value} (h : Box w g t cs) (hg : g ≠ q) (a b c d e f i : Value) : Box (putAt7 w q o a b c d e f i) g t cs :=
 ((((((h.far (p := ⟨q, o, none⟩) hg a).far (p := ⟨q, o + 1, none⟩) hg b).far (p := ⟨q, o + 2, none⟩) hg c).far (p := ⟨q, o + 3, none⟩) hg d).far (p := ⟨q, o + 4, none⟩) hg e).far (p := ⟨q, o + 5, none⟩) hg f).far (p := ⟨q, o + 6, none⟩) hg i
section
variable {W wx wy : World} {base g : Nat} {w : DC.Wd} {gM : Nat} {a : AM.At} {A D C : Option Addr} {c q f : Nat}
theorem TryVar.kept {S : TypeId → Prop} (h : TryVar wx base gM a A c D q C f) (k : Kept S wx wy) (h1 : ¬ S 3) (h2 : ¬ S 86) (h3 : ¬ S 57) : TryVar wy base gM a A c D q C f := ⟨k.box _ _ _ h3 h.1, k.at_ h.2 h1 h2⟩
theorem below_more {B : Nat} {x y z : World} (h : Below B x y) (k : Below B y z) : Below B x z := h.trans k
end
theorem box_at3 {w : World} {g q o : Nat} {t : TypeId} {cs : Array Value} (h : Box w g t cs) (hg : g ≠ q) (a b c : Value) : Box (putAt3 w q o a b c) g t cs :=
 ((h.far (p := ⟨q, o, none⟩) hg a).far (p := ⟨q, o + 1, none⟩) hg b).far (p := ⟨q, o + 2, none⟩) hg c
theorem getT_set {w : DC.Wd} {i : Nat} {t : AM.At} {vs : List DC.Vt} {ml : List DC.Ml} {ch : List DC.Ch} (hi : i < w.ts.length) : DC.getT ⟨w.ms, vs, w.ts.set i t, ml, ch⟩ (i : Int) = t := by
 unfold DC.getT
 rw [Int.toNat_natCast, List.getElem?_set_self hi]; rfl
end Go.Proofs.YtiiobafcgdelmaaGreat
