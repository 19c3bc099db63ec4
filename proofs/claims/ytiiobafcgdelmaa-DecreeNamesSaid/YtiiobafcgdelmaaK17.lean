/-
  Package attempt's Begin, Promised and Accepted, each in one form. Conditions: the attempt fits.
  What is answered fits, where what was handed in did. No walk.
  Words for the laws' loops: an answer in a variable of the round; what an attempt keeps as promises come; the greatest ballot. No walk.
-/
import Derived.Test.YtiiobafcgdelmaaK16
import Derived.Test.YtiiobafcgdelmaaK03
import Derived.Test.YtiiobafcgdelmaaK04
namespace Go.Proofs.Ytiiobafcgdelmaa
open Go.RowKit
set_option linter.unusedVariables false

theorem onward_eta (a : AM.At) : AM.onward a = ⟨(AM.onward a).ph, a.ba, a.ms, a.wi, (AM.onward a).va, a.ps, a.ac⟩ := by
  have h1 := onward_ba a
  have h2 := onward_ms a
  have h3 := onward_wi a
  have h4 := onward_ps a
  have h5 := onward_ac a
  generalize AM.onward a = o at *
  obtain ⟨p1, p2, p3, p4, p5, p6, p7⟩ := o
  simp only at h1 h2 h3 h4 h5
  subst h1 h2 h3 h4 h5
  rfl
theorem prom_any (v : Value) (a : AM.At) (b : Int) (p : AM.Pr) (w : World) (H : AtIs w v a) (F : Fit a) (FP : FitP p) :
    Calls Try.prog 62 #[v, .int .i64 b, .agg #[.int .i64 p.n, .int .i64 p.b, .string p.v]] w (ErrRet (AM.prom a b p) (AM.errP a b p) w) := by
  rcases hm : AM.may a with _ | _
  · have he : AM.errP a b p = 8 := by unfold AM.errP; rw [if_pos hm]
    have hp : AM.prom a b p = AM.zero := by unfold AM.prom; rw [he]; rfl
    rw [he, hp]
    exact prom_bad v a b p w H F FP hm
  · have e0 : ∀ y z : Int, (if AM.may a = false then y else z) = z := fun y z => by rw [hm]; rfl
    by_cases hc : a.ph = 1
    · rcases hc2 : (decide (b = a.ba) && QM.has a.ms p.n) with _ | _
      · have hn : ¬ (a.ph = 1 ∧ b = a.ba ∧ QM.has a.ms p.n = true) := by
          rintro ⟨_, e1, e2⟩
          rw [e2] at hc2
          simp [e1] at hc2
        have he : AM.errP a b p = 6 := by unfold AM.errP; rw [e0, if_pos hn]
        have hp : AM.prom a b p = AM.zero := by unfold AM.prom; rw [he]; rfl
        rw [he, hp]
        exact prom_none2 v a b p w H F FP hm hc hc2
      · have hy : a.ph = 1 ∧ b = a.ba ∧ QM.has a.ms p.n = true := by
          simp only [Bool.and_eq_true, decide_eq_true_eq] at hc2
          exact ⟨hc, hc2.1, hc2.2⟩
        rcases ho : AM.okP b p with _ | _
        · have he : AM.errP a b p = 8 := by unfold AM.errP; rw [e0, if_neg (not_not_intro hy), if_pos ho]
          have hp : AM.prom a b p = AM.zero := by unfold AM.prom; rw [he]; rfl
          rw [he, hp]
          exact prom_bad2 v a b p w H F FP hm hc hc2 ho
        · have he : AM.errP a b p = 0 := by unfold AM.errP; rw [e0, if_neg (not_not_intro hy), if_neg (by rw [ho]; decide)]
          have hp : AM.prom a b p = AM.onward (AM.addP a p) := by unfold AM.prom; rw [if_pos he]
          rw [he, hp, onward_eta]
          rcases hh : QM.has (AM.nodes a.ps) p.n with _ | _
          · have ha : AM.addP a p = ⟨a.ph, a.ba, a.ms, a.wi, a.va, AM.insP a.ps p, a.ac⟩ := by unfold AM.addP; rw [hh]; rfl
            rw [ha]
            exact prom_new v a b p w H F FP hm hc hc2 ho hh _ _ rfl rfl
          · have ha : AM.addP a p = ⟨a.ph, a.ba, a.ms, a.wi, a.va, a.ps, a.ac⟩ := by unfold AM.addP; rw [hh]; rfl
            rw [ha]
            exact prom_has v a b p w H F FP hm hc hc2 ho hh _ _ rfl rfl
    · have he : AM.errP a b p = 6 := by unfold AM.errP; rw [e0, if_pos (fun h => hc h.1)]
      have hp : AM.prom a b p = AM.zero := by unfold AM.prom; rw [he]; rfl
      rw [he, hp]
      exact prom_none1 v a b p w H F FP hm hc
theorem accd_any (v : Value) (a : AM.At) (b x : Int) (w : World) (H : AtIs w v a) (F : Fit a) :
    Calls Try.prog 64 #[v, .int .i64 b, .int .i64 x] w (ErrRet (AM.acc a b x) (AM.errA a b x) w) := by
  rcases hm : AM.may a with _ | _
  · have he : AM.errA a b x = 8 := by unfold AM.errA; rw [if_pos hm]
    have hp : AM.acc a b x = AM.zero := by unfold AM.acc; rw [he]; rfl
    rw [he, hp]
    exact acc_bad v a b x w H F hm
  · have e0 : ∀ y z : Int, (if AM.may a = false then y else z) = z := fun y z => by rw [hm]; rfl
    by_cases hc : 2 ≤ a.ph
    · rcases hc2 : (decide (b = a.ba) && QM.has a.ms x) with _ | _
      · have hn : ¬ (2 ≤ a.ph ∧ b = a.ba ∧ QM.has a.ms x = true) := by
          rintro ⟨_, e1, e2⟩
          rw [e2] at hc2
          simp [e1] at hc2
        have he : AM.errA a b x = 6 := by unfold AM.errA; rw [e0, if_pos hn]
        have hp : AM.acc a b x = AM.zero := by unfold AM.acc; rw [he]; rfl
        rw [he, hp]
        exact acc_none2 v a b x w H F hm hc hc2
      · have hy : 2 ≤ a.ph ∧ b = a.ba ∧ QM.has a.ms x = true := by
          simp only [Bool.and_eq_true, decide_eq_true_eq] at hc2
          exact ⟨hc, hc2.1, hc2.2⟩
        have he : AM.errA a b x = 0 := by unfold AM.errA; rw [e0, if_neg (not_not_intro hy)]
        have hp : AM.acc a b x = AM.onward (AM.addA a x) := by unfold AM.acc; rw [if_pos he]
        rw [he, hp, onward_eta]
        rcases hh : QM.has a.ac x with _ | _
        · have ha : AM.addA a x = ⟨a.ph, a.ba, a.ms, a.wi, a.va, a.ps, AM.insI a.ac x⟩ := by unfold AM.addA; rw [hh]; rfl
          rw [ha]
          exact acc_new v a b x w H F hm hc hc2 hh _ _ rfl rfl
        · have ha : AM.addA a x = ⟨a.ph, a.ba, a.ms, a.wi, a.va, a.ps, a.ac⟩ := by unfold AM.addA; rw [hh]; rfl
          rw [ha]
          exact acc_has v a b x w H F hm hc hc2 hh _ _ rfl rfl
    · have he : AM.errA a b x = 6 := by unfold AM.errA; rw [e0, if_pos (fun h => hc h.1)]
      have hp : AM.acc a b x = AM.zero := by unfold AM.acc; rw [he]; rfl
      rw [he, hp]
      exact acc_none1 v a b x w H F hm hc
/-- what Begin answers -/
def begAt (ms : List Int) (ba : Int) (wi : ByteArray) (y : Int) : AM.At := if y = 0 then AM.start ms ba wi else AM.zero
theorem begin_any (A : Option Addr) (n c : Nat) (ms : List Int) (ba : Int) (wi : ByteArray) (y : Int) (w : World) (hr : Rd w A n (ic ms)) (hl : ms.length ≤ 2000) (b1 : -9223372036854775808 ≤ ba) (b2 : ba ≤ 9223372036854775807) (hs : wi.size ≤ maxLen) (hy : AM.BegIs ms ba wi y) :
    Calls Try.prog 42 #[.slice A n c, .int .i64 ba, .string wi] w (ErrRet (begAt ms ba wi y) y w) := by
  by_cases h0 : y = 0
  · rw [begAt, if_pos h0]
    exact begin_ok A n c ms ba wi y w hr hl b1 b2 hs hy h0
  · rw [begAt, if_neg h0]
    exact begin_err A n c ms ba wi y w hr hl b1 b2 hs hy h0
end Go.Proofs.Ytiiobafcgdelmaa

namespace Go.Proofs.Ytiiobafcgdelmaa
open Go.RowKit
set_option linter.unusedVariables false

theorem may_lens {a : AM.At} (h : AM.may a = true) : a.ms.length ≤ 6 ∧ a.ps.length ≤ 6 ∧ a.ac.length ≤ 6 := by
  by_cases h0 : a.ph = 0
  · unfold AM.may at h
    rw [if_pos h0, decide_eq_true_iff] at h
    subst h
    exact ⟨by decide, by decide, by decide⟩
  · obtain ⟨_, _, k, _⟩ := AM.may_pos h h0
    obtain ⟨_, _, k3, k4⟩ := AM.okL_parts'.1 k
    have e3 := AM.some_len k3
    rw [AM.nodes_length] at e3
    exact ⟨(QM.may_len (AM.okL_may k)).2.1, e3, AM.some_len k4⟩
theorem fit_prom {a : AM.At} {b : Int} {p : AM.Pr} (F : Fit a) (FP : FitP p) : Fit (AM.prom a b p) := by
  by_cases h : AM.errP a b p = 0
  · have hl := may_lens (AM.may_prom h)
    have hall : ∀ q ∈ AM.addPs a.ps p, FitP q := fun q hq => by
      rcases AM.mem_addPs.1 hq with h | ⟨rfl, _⟩
      · exact F.all q h
      · exact FP
    rw [AM.prom_eq h] at hl ⊢
    split at hl
    · rename_i hm
      rw [if_pos hm]
      exact ⟨by simp, by simp, F.b1, F.b2, F.wi, by have := hl.1; simp only at this ⊢; omega, by have := hl.2.1; simp only at this ⊢; omega, by simp, hall⟩
    · rename_i hm
      rw [if_neg hm]
      exact ⟨by simp, by simp, F.b1, F.b2, F.wi, by have := hl.1; simp only at this ⊢; omega, by have := hl.2.1; simp only at this ⊢; omega, by simp, hall⟩
  · unfold AM.prom
    rw [if_neg h]
    exact fit_zero
theorem fit_acc {a : AM.At} {b n : Int} (F : Fit a) : Fit (AM.acc a b n) := by
  by_cases h : AM.errA a b n = 0
  · have hl := may_lens (AM.may_acc h)
    rw [AM.acc_eq h] at hl ⊢
    exact ⟨by show 0 ≤ (if _ then (3 : Int) else 2); split <;> omega, by show (if _ then (3 : Int) else 2) ≤ 255; split <;> omega, F.b1, F.b2, F.wi, by have := hl.1; simp only at this ⊢; omega, by have := hl.2.1; simp only at this ⊢; omega, by have := hl.2.2; simp only at this ⊢; omega, F.all⟩
  · unfold AM.acc
    rw [if_neg h]
    exact fit_zero
end Go.Proofs.Ytiiobafcgdelmaa

namespace Go.Proofs.Ytiiobafcgdelmaa
open Go.RowKit
set_option linter.unusedVariables false

/-- a call's answer in a variable that the round lays -/
def LoopMid (wr : World) (y : AM.At) (e : Int) (u v : Value) (wx : World) : Prop :=
  ∃ g A c D q C f, u = .pointer (some ⟨g, 0, none⟩) ∧ v = .int .i64 e ∧ Below wr.heap.size wr wx ∧ wr.heap.size ≤ g ∧
    Box wx g 49 #[.int .u8 y.ph, .int .i64 y.ba, .slice A y.ms.length c, .string y.wi, .string y.va, .slice D y.ps.length q, .slice C y.ac.length f] ∧
    AtOwn wx wr.heap.size (.agg #[.int .u8 y.ph, .int .i64 y.ba, .slice A y.ms.length c, .string y.wi, .string y.va, .slice D y.ps.length q, .slice C y.ac.length f]) y
theorem lm_1 {wr w4 : World} {y : AM.At} {e : Int} {A D C : Option Addr} {c q f : Nat} (hb : Below wr.drew.heap.size wr.drew w4)
    (own : AtOwn w4 wr.drew.heap.size (.agg #[.int .u8 y.ph, .int .i64 y.ba, .slice A y.ms.length c, .string y.wi, .string y.va, .slice D y.ps.length q, .slice C y.ac.length f]) y) :
    Below wr.heap.size wr w4 ∧ LoopMid wr y e (.pointer (some ⟨w4.heap.size, 0, none⟩)) (.int .i64 e) (w4.alloc (.cells #[.int .u8 y.ph, .int .i64 y.ba, .slice A y.ms.length c, .string y.wi, .string y.va, .slice D y.ps.length q, .slice C y.ac.length f] 49)) := by
  have h : Below wr.heap.size wr w4 := bmore ((Below.refl _ _).drew) hb (Nat.le_refl _)
  exact ⟨h, _, A, c, D, q, C, f, rfl, rfl, h.alloc h.size _, h.size, Box.new _ _ _, own.below ((Below.refl _ _).alloc (Nat.le_refl _) _)⟩
theorem lm_2 {wr w4 : World} {y : AM.At} {e : Int} {A D C : Option Addr} {c q f : Nat} {z0 z1 z2 z3 z4 z5 z6 : Value}
    (hb : Below ((wr.alloc (.cells #[z0, z1, z2, z3, z4, z5, z6] 49)).drew).heap.size ((wr.alloc (.cells #[z0, z1, z2, z3, z4, z5, z6] 49)).drew) w4)
    (own : AtOwn w4 ((wr.alloc (.cells #[z0, z1, z2, z3, z4, z5, z6] 49)).drew).heap.size (.agg #[.int .u8 y.ph, .int .i64 y.ba, .slice A y.ms.length c, .string y.wi, .string y.va, .slice D y.ps.length q, .slice C y.ac.length f]) y) :
    Below wr.heap.size wr w4 ∧ Box w4 wr.heap.size 49 #[z0, z1, z2, z3, z4, z5, z6] ∧ LoopMid wr y e (.pointer (some ⟨wr.heap.size, 0, none⟩)) (.int .i64 e)
      (put7 w4 wr.heap.size (.int .u8 y.ph) (.int .i64 y.ba) (.slice A y.ms.length c) (.string y.wi) (.string y.va) (.slice D y.ps.length q) (.slice C y.ac.length f)) := by
  have h : Below wr.heap.size wr w4 := bmore (((Below.refl _ _).alloc (Nat.le_refl _) _).drew) hb (Nat.le_refl _)
  have hlt : wr.heap.size < ((wr.alloc (.cells #[z0, z1, z2, z3, z4, z5, z6] 49)).drew).heap.size := by show wr.heap.size < (wr.alloc (.cells #[z0, z1, z2, z3, z4, z5, z6] 49)).heap.size; simp
  have hx : Box w4 wr.heap.size 49 #[z0, z1, z2, z3, z4, z5, z6] := ((Box.new wr 49 #[z0, z1, z2, z3, z4, z5, z6]).drew).below hb hlt
  obtain ⟨x, y', z, ev, o1, o2, o3⟩ := own
  exact ⟨h, hx, _, A, c, D, q, C, f, rfl, rfl, below_put7 h (Nat.le_refl _) .., Nat.le_refl _, hx.put7 .., x, y', z, ev, own_base (own_put7 o1 hlt ..) (Nat.le_of_lt hlt), own_base (own_put7 o2 hlt ..) (Nat.le_of_lt hlt), own_base (own_put7 o3 hlt ..) (Nat.le_of_lt hlt)⟩

-- what an attempt keeps as promises come
def TellInv (ms : List Int) (ba : Int) (wi : ByteArray) (x : AM.At) : Prop := AM.may x = true ∧ (x.ph = 1 ∨ x.ph = 2) ∧ x.ba = ba ∧ x.wi = wi ∧ x.ms = ms ∧ Fit x
theorem tell_start {ms : List Int} {ba : Int} {wi : ByteArray} (h : AM.BegIs ms ba wi 0) (F : Fit (AM.start ms ba wi)) : TellInv ms ba wi (AM.start ms ba wi) := by
  have hb := AM.begIs_zero.1 h
  refine ⟨AM.may_mk (by simp [AM.start]) (by simp [AM.start]) (AM.okL_parts'.2 ⟨hb, rfl, rfl, rfl⟩) ?_, .inl rfl, rfl, rfl, rfl, F⟩
  show if (1 : Int) = 1 then _ else _
  rw [if_pos rfl]
  exact ⟨AM.most_none, rfl, rfl⟩
theorem tell_next {ms : List Int} {ba b : Int} {wi : ByteArray} {x : AM.At} {p : AM.Pr} (h : TellInv ms ba wi x) (FP : FitP p) (he : AM.errP x b p = 0) : TellInv ms ba wi (AM.prom x b p) := by
  obtain ⟨h1, h2, h3, h4, h5, h6⟩ := h
  have m1 := AM.may_prom he
  have f1 := fit_prom (b := b) h6 FP
  have e := AM.prom_eq he
  refine ⟨m1, ?_, ?_, ?_, ?_, f1⟩
  all_goals rw [e]; split
  all_goals first | exact .inr rfl | exact .inl rfl | exact h3 | exact h4 | exact h5
-- the greatest ballot
def grF : Int → List AM.Pr → Int
  | g, [] => g
  | g, p :: l => grF (max g p.b) l
theorem best_gr : ∀ (l : List AM.Pr) (m : Int) (s : ByteArray), (grF m l = m ∧ AM.bestF m s l = s) ∨ (m < grF m l ∧ ∃ p ∈ l, p.b = grF m l ∧ p.v = AM.bestF m s l)
  | [], m, s => .inl ⟨rfl, rfl⟩
  | p :: l, m, s => by
    unfold grF AM.bestF
    by_cases h : m < p.b
    · rw [if_pos h, show max m p.b = p.b by omega]
      rcases best_gr l p.b p.v with ⟨e1, e2⟩ | ⟨e1, q, hq, e2, e3⟩
      · exact .inr ⟨by omega, p, List.mem_cons_self .., by omega, e2.symm⟩
      · exact .inr ⟨by omega, q, List.mem_cons_of_mem _ hq, e2, e3⟩
    · rw [if_neg h, show max m p.b = m by omega]
      rcases best_gr l m s with ⟨e1, e2⟩ | ⟨e1, q, hq, e2, e3⟩
      · exact .inl ⟨e1, e2⟩
      · exact .inr ⟨e1, q, List.mem_cons_of_mem _ hq, e2, e3⟩
/-- is a promise the one that tells? -/
def hit (G : Int) (va : ByteArray) (p : AM.Pr) : Bool := (p.b == G) && (p.v.toList == va.toList)
theorem best_hit {l : List AM.Pr} {wi : ByteArray} {G : Int} (hG : grF 0 l = G) : (¬ 0 < G → AM.best l wi = wi) ∧ (0 < G → l.any (hit G (AM.best l wi)) = true) := by
  unfold AM.best
  rcases best_gr l 0 wi with ⟨e1, e2⟩ | ⟨e1, q, hq, e2, e3⟩
  · exact ⟨fun _ => e2, fun h => by omega⟩
  · refine ⟨fun h => by omega, fun _ => List.any_eq_true.2 ⟨q, hq, ?_⟩⟩
    unfold hit
    rw [← e3, ← hG, e2]
    simp
end Go.Proofs.Ytiiobafcgdelmaa
