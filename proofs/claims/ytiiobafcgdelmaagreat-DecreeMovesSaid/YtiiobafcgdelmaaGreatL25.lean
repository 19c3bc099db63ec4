/- Contracts of functions of towncrier, layers 5 to 9, and of the document's own ones, part 25; each as its theorem says. -/
import Derived.Test.YtiiobafcgdelmaaGreatL04
import Derived.Test.YtiiobafcgdelmaaGreatL01
import Derived.Test.YtiiobafcgdelmaaGreatL20
import Derived.Test.YtiiobafcgdelmaaGreatL23
import Derived.Test.YtiiobafcgdelmaaGreatL24
set_option linter.unusedVariables false
set_option linter.unusedSimpArgs false
namespace Go.Proofs.YtiiobafcgdelmaaGreat.DC
theorem insI_length (l : List Int) (x : Int) : (AM.insI l x).length = l.length + 1 := by
 unfold AM.insI
 rw [List.length_append, List.length_cons]
 have := congrArg List.length (List.takeWhile_append_dropWhile (p := fun y => decide (y < x)) (l := l))
 rw [List.length_append] at this
 omega
theorem others_len5 {ms : List Int} {m : Ml} (h : QM.may ms = true) (hn : isNode m.f) : (others ms m).length ≤ 5 := by
 have hr := (QM.may_len h).2.2
 obtain ⟨h1, h2⟩ := AM.rise_iff.1 hr
 have hs : AM.Srt (fun y : Int => y) (ms.filter (fun x => decide (x ≠ m.f))) := List.Pairwise.sublist List.filter_sublist h1
 have hi : AM.Srt (fun y : Int => y) (AM.insI (ms.filter (fun x => decide (x ≠ m.f))) m.f) := by
  rw [AM.insI_K]
  exact AM.srt_insK _ hs (fun q hq e => by
   have := (List.mem_filter.1 hq).2
   simp at this
   exact this e)
 have hrise : QM.rise (-1) (AM.insI (ms.filter (fun x => decide (x ≠ m.f))) m.f) = true := AM.rise_iff.2 ⟨hi, fun x hx => by
  rw [AM.insI_K] at hx
  rcases (AM.mem_insK _ _ _ _).1 hx with rfl | hx
  ·unfold isNode at hn; omega
  ·exact h2 x (List.mem_filter.1 hx).1⟩
 have := AM.rise_le hrise
 rw [insI_length] at this
 unfold others
 rw [List.length_map]
 omega
theorem others_one {ms : List Int} {m : Ml} (h : ms.length ≤ 1) (hm : m.f ∈ ms) : (others ms m).length = 0 := by
 match ms, h, hm with
 | [], _, hm => cases hm
 | [x], _, hm =>
  simp at hm
  subst hm
  unfold others
  simp
theorem cnt_one (ms : List Int) (x : Int) (hr : ms.Nodup) : QM.cnt ms [x] ≤ 1 := by
 unfold QM.cnt
 have hsub : (ms.filter (QM.has [x])).Nodup := List.Nodup.sublist List.filter_sublist hr
 have hall : ∀ y ∈ ms.filter (QM.has [x]), y = x := fun y hy => by
  have := (List.mem_filter.1 hy).2
  have := AM.has_iff.1 this
  simpa using this
 match hl : ms.filter (QM.has [x]), hsub, hall with
 | [], _, _ => simp
 | [a], _, _ => simp
 | a :: b :: r, hs, hq =>
  have h1 := hq a (by simp)
  have h2 := hq b (by simp)
  simp at hs
  exact absurd (h1.trans h2.symm) hs.1.1
theorem takes_ml {w : Wd} {n k : Int} {p : AM.Pr} (h : May0 w) (hn : isNode n) : (takes w n k p).ml.length ≤ w.ml.length + 5 := by
 obtain ⟨b, s, h1, _⟩ := takes_len w n k p
 have := others_len5 (m := mk n 0 3 b 0 s) h.ms hn
 omega
theorem comes_ml {w : Wd} {m : Ml} (h : May0 w) (ht : isNode m.t) : (comes w m).ml.length ≤ w.ml.length + 5 := by
 unfold comes
 split
 ·split <;> (simp only [List.length_append, List.length_cons, List.length_nil]; omega)
 ·split
  ·split <;> (simp only [List.length_append, List.length_cons, List.length_nil]; omega)
  ·split
   ·exact takes_ml h ht
   ·split
    ·split
     ·simp only; omega
     ·omega
    ·omega
theorem begin_get {w : Wd} {n : Int} {s : ByteArray} (h : May0 w) (hn : isNode n) : getT (begin1 w n s) n = AM.start w.ms (nextB (getV w n).p n) s := by
 unfold getT begin1
 simp only
 rw [List.getElem?_set_self (by rw [h.tl]; exact (node_nat hn).2)]
 rfl
theorem begins_ml {w : Wd} {n : Int} {s : ByteArray} (h : May0 w) (hn : isNode n) (hr : BM.rnd (getV w n).p n ≤ 1048576) (hs : s.size ≤ 1024) : (begins w n s).ml.length ≤ w.ml.length + 5 := by
 have hb := may_begin1 h hn hr hs
 have h5 := others_len5 (m := mk n 0 1 (nextB (getV w n).p n) 0 .empty) h.ms hn
 have hl : (begin1 w n s).ml.length = w.ml.length + (others w.ms (mk n 0 1 (nextB (getV w n).p n) 0 .empty)).length := by unfold begin1; simp
 unfold begins takes
 split
 ·rename_i he
  obtain ⟨e1, e2, e3, e4, e5⟩ := AM.errP_zero he
  split
  ·rename_i h2
   have hq := prom_parts he
   have ht := prom_t (hb.try_ hn) he
   obtain ⟨_, _, _, k⟩ := AM.may_pos ht.1 (by omega)
   rw [if_neg (by omega)] at k
   have hm := k.1
   rw [hq.2.2.2.1, hq.2.1, begin_get h hn] at hm
   have hlen : w.ms.length ≤ 1 := by
    have hm' : AM.most w.ms [n] = true := hm
    unfold AM.most at hm'
    have := cnt_one w.ms n (QM.rise_nodup (QM.may_len h.ms).2.2)
    simp only [decide_eq_true_eq] at hm'
    omega
   have hin : n ∈ w.ms := by
    rw [begin_get h hn] at e4
    exact AM.has_iff.1 e4
   obtain ⟨t1, _, _⟩ := tells_len (begin1 w n s) n (AM.prom (getT (begin1 w n s) n) (nextB (getV w n).p n) ⟨n, (getV w n).b, (getV w n).v⟩)
   have h0 := others_one (ms := w.ms) (m := mk n 0 3 (AM.prom (getT (begin1 w n s) n) (nextB (getV w n).p n) ⟨n, (getV w n).b, (getV w n).v⟩).ba 0 (AM.prom (getT (begin1 w n s) n) (nextB (getV w n).p n) ⟨n, (getV w n).b, (getV w n).v⟩).va) hlen hin
   have hms : (begin1 w n s).ms = w.ms := rfl
   rw [hms] at t1
   omega
  ·simp only
   omega
 ·omega
theorem aft_ml {w : Wd} {m : Mv} (h : May0 w) (hp : pre w m = 0) : (aft w m).ml.length ≤ w.ml.length + 5 := by
 obtain ⟨h1, h2, h3, h4⟩ := pre_zero hp
 unfold aft
 split
 ·rename_i e
  exact begins_ml h (h2 (.inl e)) (h3 e).2 (h3 e).1
 ·split
  ·simp only; omega
  ·split
   ·rename_i e
    obtain ⟨k1, k2⟩ := h4 (.inl e)
    have := comes_ml (h.cutM m.at_.toNat) (h.mm _ (mail_at k1 k2).2).2.2.1
    have h5 : (gone w m.at_.toNat).ml.length ≤ w.ml.length := by unfold gone; simp only; exact List.length_eraseIdx_le ..
    omega
   ·split
    ·rename_i e
     obtain ⟨k1, k2⟩ := h4 (.inr (.inl e))
     exact comes_ml h (h.mm _ (mail_at k1 k2).2).2.2.1
    ·have h5 : (gone w m.at_.toNat).ml.length ≤ w.ml.length := by unfold gone; simp only; exact List.length_eraseIdx_le ..
     omega
def PM (w : Wd) : Prop := ∀ m ∈ w.ml, m.p ≤ 9223372036854775807
theorem okP_le {p : Int} (h : VM.okP p) : p ≤ 9223372036854775807 ∧ 0 ≤ p := by
 rcases h with h | h
 ·omega
 ·unfold BM.good at h; omega
theorem okA_le {p b : Int} {s : ByteArray} (h : VM.okA p b s) : b ≤ 9223372036854775807 ∧ 0 ≤ b ∧ s.size ≤ 1024 := by
 rcases h with ⟨h1, h2⟩ | ⟨_, h1, _, h2⟩
 ·subst h2; exact ⟨by omega, by omega, by decide⟩
 ·unfold BM.good at h1; omega
theorem pm_others {ms : List Int} {x m : Ml} (h : m ∈ others ms x) : m.p = x.p := by
 obtain ⟨y, _, _, rfl⟩ := mem_others h
 rfl
theorem pm_tells {w : Wd} {n : Int} {a : AM.At} (h : PM w) : PM (tells w n a) := by
 have h1 : PM (tell1 w n a) := by
  intro m hm
  rcases List.mem_append.1 hm with hm | hm
  ·exact h m hm
  ·rw [pm_others hm]; show (0 : Int) ≤ _; omega
 unfold tells
 split
 ·exact h1
 ·exact h1
theorem pm_takes {w : Wd} {n k : Int} {p : AM.Pr} (h : PM w) : PM (takes w n k p) := by
 unfold takes
 split
 ·split
  ·exact pm_tells h
  ·exact h
 ·exact h
theorem pm_comes {w : Wd} {m : Ml} (h : PM w) (h0 : May0 w) (hm : MayM m) : PM (comes w m) := by
 have hn := hm.2.2.1
 have hv := h0.vote hn
 have hp := okP_le hv.1
 have hb := okA_le hv.2
 have key : ∀ x : Ml, x.p ≤ 9223372036854775807 → ∀ m ∈ w.ml ++ [x], m.p ≤ 9223372036854775807 := by
  intro x hx m hm
  rcases List.mem_append.1 hm with hm | hm
  ·exact h m hm
  ·rw [List.mem_singleton] at hm; subst hm; exact hx
 unfold comes
 split
 ·split
  ·exact key _ hb.1
  ·exact key _ hp.1
 ·split
  ·split
   ·exact key _ (by show (0 : Int) ≤ _; omega)
   ·exact key _ hp.1
  ·split
   ·exact pm_takes h
   ·split
    ·split
     ·exact h
     ·exact h
    ·exact h
theorem pm_gone {w : Wd} (h : PM w) (j : Nat) : PM (gone w j) := fun m hm => h m (List.mem_of_mem_eraseIdx hm)
theorem pm_aft {w : Wd} {m : Mv} (h : PM w) (h0 : May0 w) (hp : pre w m = 0) : PM (aft w m) := by
 obtain ⟨h1, h2, h3, h4⟩ := pre_zero hp
 unfold aft
 split
 ·refine pm_takes (fun x hx => ?_)
  rcases List.mem_append.1 hx with hx | hx
  ·exact h x hx
  ·rw [pm_others hx]; show (0 : Int) ≤ _; omega
 ·split
  ·exact h
  ·split
   ·rename_i e
    obtain ⟨k1, k2⟩ := h4 (.inl e)
    exact pm_comes (pm_gone h _) (h0.cutM _) (h0.mm _ (mail_at k1 k2).2)
   ·split
    ·rename_i e
     obtain ⟨k1, k2⟩ := h4 (.inr (.inl e))
     exact pm_comes h h0 (h0.mm _ (mail_at k1 k2).2)
    ·exact pm_gone h _
theorem pm_step {w : Wd} {m : Mv} (h : PM w) (h0 : May w) (he : errD w m = 0) : PM (aft w m) := pm_aft h h0.zero (errD_zero he).1
end Go.Proofs.YtiiobafcgdelmaaGreat.DC
namespace Go.Proofs.YtiiobafcgdelmaaGreat.PD
open Go.RowKit Go.Shelf
abbrev PM (w : DC.Wd) : Prop := DC.PM w
theorem move_any (base g : Nat) (w : DC.Wd) (k n at_ : Int) (s : ByteArray) (W : World) (H : WdAt W base g w) (h0 : DC.May w) (hP : PM w) (hw : wrg w k n at_ s = 0) (hbase : base ≤ W.heap.size) :
  Calls Tryz.prog 24 #[.pointer (some ⟨g, 0, none⟩), .agg #[.int .u8 k, .int .i64 n, .int .i64 at_, .string s]] W fun e W' =>
   (DC.pre w ⟨k, n, at_, s⟩ = 9 ∧ MovPost base g w 9 W e W') ∨ (DC.pre w ⟨k, n, at_, s⟩ = 0 ∧ MovPost base g (DC.aft w ⟨k, n, at_, s⟩) 0 W e W') := by
 obtain ⟨hp1, hp2⟩ := (pre_wrg w ⟨k, n, at_, s⟩).2 hw
 simp only at hp1 hp2
 unfold wrg at hw
 by_cases h1 : 1 ≤ k ∧ k ≤ 5
 rotate_left
 ·rw [if_pos h1] at hw; exact absurd hw (by decide)
 rw [if_neg (by simpa using h1)] at hw
 by_cases h2 : k = 1 ∨ k = 5
 ·rw [if_pos h2] at hw
  by_cases hn : DC.isNode n
  rotate_left
  ·rw [if_pos hn] at hw; exact absurd hw (by decide)
  rw [if_neg (by simpa using hn)] at hw
  obtain ⟨i, rfl⟩ : ∃ i : Nat, n = (i : Int) := ⟨n.toNat, by have := hn.1; omega⟩
  have hi : i < 6 := by have := hn.2; omega
  rcases h2 with rfl | rfl
  ·by_cases hs : 1024 < s.size
   ·rw [if_pos ⟨rfl, hs⟩] at hw; exact absurd hw (by decide)
   have ha : DC.aft w ⟨1, (i : Int), at_, s⟩ = DC.begins w (i : Int) s := by unfold DC.aft; rw [if_pos rfl]
   rw [ha, hp2 rfl]
   refine (move_1 base g i w at_ s W H h0 hi (by omega) hbase).mono ?_
   rintro e W' (⟨h, h'⟩ | ⟨h, h'⟩)
   ·exact .inl ⟨by rw [if_pos h], h'⟩
   ·exact .inr ⟨by rw [if_neg (by omega)], h'⟩
  ·have ha : DC.aft w ⟨5, (i : Int), at_, s⟩ = ⟨w.ms, w.vs, w.ts.set i AM.zero, w.ml, w.ch⟩ := by unfold DC.aft; rw [if_neg (show ¬ (5 : Int) = 1 by decide), if_pos rfl]; simp only [Int.toNat_natCast]
   rw [ha]
   exact (move_5 base g i w at_ s W H h0 hi hbase).mono fun e W' h => .inr ⟨hp1 (by decide), h⟩
 ·rw [if_neg h2] at hw
  by_cases ha : at_ < 0 ∨ (w.ml.length : Int) ≤ at_
  ·rw [if_pos ha] at hw; exact absurd hw (by decide)
  obtain ⟨j, rfl⟩ : ∃ j : Nat, at_ = (j : Int) := ⟨at_.toNat, by omega⟩
  obtain ⟨hm, hmm⟩ := DC.mail_at (w := w) (j := (j : Int)) (by omega) (by omega)
  rw [Int.toNat_natCast] at hm
  have hpm := hP _ hmm
  have hpre := hp1 (by omega)
  rcases (show k = 2 ∨ k = 3 ∨ k = 4 by omega) with rfl | rfl | rfl
  ·have hf : DC.aft w ⟨2, n, (j : Int), s⟩ = DC.comes (DC.gone w j) (DC.mailAt w (j : Int)) := by unfold DC.aft; rw [if_neg (show ¬ (2 : Int) = 1 by decide), if_neg (show ¬ (2 : Int) = 5 by decide), if_pos rfl]; simp only [Int.toNat_natCast]
   rw [hf]
   exact (move_2 base g j w n s _ W H h0 hm hpm hbase).mono fun e W' h => .inr ⟨hpre, h⟩
  ·have hf : DC.aft w ⟨3, n, (j : Int), s⟩ = DC.comes w (DC.mailAt w (j : Int)) := by unfold DC.aft; rw [if_neg (show ¬ (3 : Int) = 1 by decide), if_neg (show ¬ (3 : Int) = 5 by decide), if_neg (show ¬ (3 : Int) = 2 by decide), if_pos rfl]
   rw [hf]
   exact (move_3 base g j w n s _ W H h0 hm hpm hbase).mono fun e W' h => .inr ⟨hpre, h⟩
  ·have hf : DC.aft w ⟨4, n, (j : Int), s⟩ = DC.gone w j := by unfold DC.aft; rw [if_neg (show ¬ (4 : Int) = 1 by decide), if_neg (show ¬ (4 : Int) = 5 by decide), if_neg (show ¬ (4 : Int) = 2 by decide), if_neg (show ¬ (4 : Int) = 3 by decide)]; simp only [Int.toNat_natCast]
   rw [hf]
   exact (move_4 base g j w n s _ W H h0 hm hbase).mono fun e W' h => .inr ⟨hpre, h⟩
def zeroW : Value := .agg #[.slice none 0 0, .slice none 0 0, .slice none 0 0, .slice none 0 0, .slice none 0 0]
def DoIs (w : DC.Wd) (m : DC.Mv) (y : Int) : Prop := (DC.May w ∧ y = DC.errD w m) ∨ (¬ DC.May w ∧ y = 8)
def DoRet (w : DC.Wd) (m : DC.Mv) (W : World) (e : Ending) (W' : World) : Prop :=
 ∃ v y, e = .returned (.tuple #[v, .int .i64 y]) ∧ DoIs w m y ∧ Below W.heap.size W W' ∧ ((y ≠ 0 ∧ v = zeroW) ∨ (y = 0 ∧ WOwn W' W.heap.size v (DC.aft w m)))
theorem WOwn.at_ {W U : World} {base g : Nat} {w : DC.Wd} {A0 A1 A2 A3 A4 : Option Addr} {c0 c1 c2 c3 c4 : Nat} (h : WOwn W base (.agg #[.slice A0 w.ms.length c0, .slice A1 w.vs.length c1, .slice A2 w.ts.length c2, .slice A3 w.ml.length c3, .slice A4 w.ch.length c4]) w)
  (hb : Below W.heap.size W U) (hg : base ≤ g) (hx : Box U g 62 #[.slice A0 w.ms.length c0, .slice A1 w.vs.length c1, .slice A2 w.ts.length c2, .slice A3 w.ml.length c3, .slice A4 w.ch.length c4]) : WdAt U base g w := by
 obtain ⟨B0, d0, B1, d1, B2, d2, B3, d3, B4, d4, xs, e, o0, o1, o2, ht, o3, o4⟩ := h.below hb
 simp only [Value.agg.injEq, Array.mk.injEq, List.cons.injEq, Value.slice.injEq, and_true, true_and] at e
 obtain ⟨⟨rfl, rfl⟩, ⟨rfl, rfl⟩, ⟨rfl, rfl⟩, ⟨rfl, rfl⟩, rfl, rfl⟩ := e
 exact ⟨_, _, _, _, _, _, _, _, _, _, xs, hg, hx, o0, o1, o2, ht, o3, o4⟩
theorem WOwn.form {W : World} {base : Nat} {v : Value} {w : DC.Wd} (h : WOwn W base v w) :
  ∃ A0 c0 A1 c1 A2 c2 A3 c3 A4 c4, v = .agg #[.slice A0 w.ms.length c0, .slice A1 w.vs.length c1, .slice A2 w.ts.length c2, .slice A3 w.ml.length c3, .slice A4 w.ch.length c4] := by
 obtain ⟨B0, d0, B1, d1, B2, d2, B3, d3, B4, d4, xs, e, _⟩ := h
 exact ⟨_, _, _, _, _, _, _, _, _, _, e⟩
theorem WdAt.own {W : World} {base g : Nat} {w : DC.Wd} (h : WdAt W base g w) :
  ∃ A0 c0 A1 c1 A2 c2 A3 c3 A4 c4, Box W g 62 #[.slice A0 w.ms.length c0, .slice A1 w.vs.length c1, .slice A2 w.ts.length c2, .slice A3 w.ml.length c3, .slice A4 w.ch.length c4] ∧
   WOwn W base (.agg #[.slice A0 w.ms.length c0, .slice A1 w.vs.length c1, .slice A2 w.ts.length c2, .slice A3 w.ml.length c3, .slice A4 w.ch.length c4]) w := by
 obtain ⟨A0, c0, A1, c1, A2, c2, A3, c3, A4, c4, xs, hgb, hx, o0, o1, o2, ht, o3, o4⟩ := h
 exact ⟨A0, c0, A1, c1, A2, c2, A3, c3, A4, c4, hx, A0, c0, A1, c1, A2, c2, A3, c3, A4, c4, xs, rfl, o0, o1, o2, ht, o3, o4⟩
theorem below3 {W : World} (a b c : Obj) : Below W.heap.size W (((W.alloc a).alloc b).alloc c) := (below2 a b).alloc (by simp; omega) _
theorem res5 {U : World} {gr : Nat} {b0 b1 b2 b3 b4 : Value} (h : Box U gr 28 #[b0, b1, b2, b3, b4]) (a0 a1 a2 a3 a4 : Value) :
  Box (((((U.setCell ⟨gr, 0, none⟩ a0).setCell ⟨gr, 1, none⟩ a1).setCell ⟨gr, 2, none⟩ a2).setCell ⟨gr, 3, none⟩ a3).setCell ⟨gr, 4, none⟩ a4) gr 28 #[a0, a1, a2, a3, a4] ∧
  Kept isW U (((((U.setCell ⟨gr, 0, none⟩ a0).setCell ⟨gr, 1, none⟩ a1).setCell ⟨gr, 2, none⟩ a2).setCell ⟨gr, 3, none⟩ a3).setCell ⟨gr, 4, none⟩ a4) ∧
  ∀ (B : Nat) (W : World), Below B W U → B ≤ gr → Below B W (((((U.setCell ⟨gr, 0, none⟩ a0).setCell ⟨gr, 1, none⟩ a1).setCell ⟨gr, 2, none⟩ a2).setCell ⟨gr, 3, none⟩ a3).setCell ⟨gr, 4, none⟩ a4) :=
 ⟨box_setAll h [a0, a1, a2, a3, a4] rfl, kept_setCells isW_w [a0, a1, a2, a3, a4] 0 h, fun B W hb hg => below_setCells [a0, a1, a2, a3, a4] 0 hb hg⟩
theorem WOwn.kept {W W' : World} {base : Nat} {v : Value} {w : DC.Wd} (h : WOwn W base v w) (k : Kept isW W W') : WOwn W' base v w := by
 obtain ⟨A0, c0, A1, c1, A2, c2, A3, c3, A4, c4, xs, e, o0, o1, o2, ht, o3, o4⟩ := h
 exact ⟨A0, c0, A1, c1, A2, c2, A3, c3, A4, c4, xs, e, k.own o0 (by unfold isW; decide), k.own o1 (by unfold isW; decide), k.own o2 (by unfold isW; decide), ht.kept k (by unfold isW; decide) (by unfold isW; decide), k.own o3 (by unfold isW; decide), k.own o4 (by unfold isW; decide)⟩
structure DoSt (W U : World) (gb gm gr : Nat) (w5 m4 : Array Value) : Prop where
 bx : Box U gb 28 w5
 bm : Box U gm 30 m4
 br : Box U gr 28 #[.slice none 0 0, .slice none 0 0, .slice none 0 0, .slice none 0 0, .slice none 0 0]
 bl : Below W.heap.size W U
 hr : W.heap.size ≤ gr
theorem DoSt.below {W U U' : World} {gb gm gr : Nat} {w5 m4 : Array Value} (h : DoSt W U gb gm gr w5 m4) (hb : Below U.heap.size U U') : DoSt W U' gb gm gr w5 m4 :=
 ⟨h.bx.below hb h.bx.lt, h.bm.below hb h.bm.lt, h.br.below hb h.br.lt, bmore h.bl hb n!, h.hr⟩
theorem box4 {w : World} {g : Nat} {t : TypeId} {a b c d : Value} (h : Box w g t #[a, b, c, d]) :
  w.cell? ⟨g, 0, none⟩ = some a ∧ w.cell? ⟨g, 1, none⟩ = some b ∧ w.cell? ⟨g, 2, none⟩ = some c ∧ w.cell? ⟨g, 3, none⟩ = some d := ⟨h.cell 0, h.cell 1, h.cell 2, h.cell 3⟩
theorem errD_pre {w : DC.Wd} {m : DC.Mv} (h : DC.pre w m ≠ 0) : DC.errD w m = DC.pre w m := by unfold DC.errD; rw [if_pos h]
set_option maxRecDepth 100000 in
set_option maxHeartbeats 8000000 in
theorem wdo_any (v : Value) (w : DC.Wd) (k n at_ : Int) (s : ByteArray) (W : World) (H : WIs W v w) (F : WFit w) (k0 : 0 ≤ k) (k255 : k ≤ 255) (hs : s.size ≤ maxLen) :
  Calls Tryz.prog 7 #[v, .agg #[.int .u8 k, .int .i64 n, .int .i64 at_, .string s]] W (DoRet w ⟨k, n, at_, s⟩ W) := by
 obtain ⟨y0, hy0, HWR⟩ : ∃ y0, ((DC.May w ∧ y0 = wrg w k n at_ s) ∨ (¬ DC.May w ∧ y0 = 8)) ∧ Hid (∀ U, Below W.heap.size W U → Calls Tryz.prog 23 #[v, .agg #[.int .u8 k, .int .i64 n, .int .i64 at_, .string s]] U (IntIs y0 U)) := by
  by_cases hm : DC.May w
  ·exact ⟨_, .inl ⟨hm, rfl⟩, h! fun U hU => wrong_ok v w k n at_ s U (H.below hU) F hm k0 k255 hs⟩
  ·exact ⟨_, .inr ⟨hm, rfl⟩, h! fun U hU => wrong_not v w k n at_ s U (H.below hU) F hm⟩
 have HTW := h! (fun (U : World) (hU : Below W.heap.size W U) => wtwin_any v w U (H.below hU) F)
 have HP : Hid (PM w) := h! fun m hm => (F.ml m hm).2.2.2.2.1
 obtain ⟨A0, c0, A1, c1, A2, c2, A3, c3, A4, c4, xs, rfl, R⟩ := H
 obtain ⟨U0, hU0⟩ : ∃ U0, U0 = ((W.alloc (.cells #[.slice A0 w.ms.length c0, .slice A1 w.vs.length c1, .slice A2 w.ts.length c2, .slice A3 w.ml.length c3, .slice A4 w.ch.length c4] 28)).alloc (.cells #[.int .u8 k, .int .i64 n, .int .i64 at_, .string s] 30)).alloc (.cells #[.slice none 0 0, .slice none 0 0, .slice none 0 0, .slice none 0 0, .slice none 0 0] 28) := ⟨_, rfl⟩
 have hs0 : DoSt W U0 W.heap.size (W.heap.size + 1) (W.heap.size + 1 + 1) #[.slice A0 w.ms.length c0, .slice A1 w.vs.length c1, .slice A2 w.ts.length c2, .slice A3 w.ml.length c3, .slice A4 w.ch.length c4] #[.int .u8 k, .int .i64 n, .int .i64 at_, .string s] := by
  rw [hU0]
  refine ⟨(Box.new _ _ _).below (below2 _ _) (by simp), ?_, ?_, below3 _ _ _, by omega⟩
  ·have := (Box.new (W.alloc (.cells #[.slice A0 w.ms.length c0, .slice A1 w.vs.length c1, .slice A2 w.ts.length c2, .slice A3 w.ml.length c3, .slice A4 w.ch.length c4] 28)) 30 #[.int .u8 k, .int .i64 n, .int .i64 at_, .string s]).below ((Below.refl _ _).alloc n! (.cells #[.slice none 0 0, .slice none 0 0, .slice none 0 0, .slice none 0 0, .slice none 0 0] 28)) (by simp)
   simpa using this
  ·have := Box.new ((W.alloc (.cells #[.slice A0 w.ms.length c0, .slice A1 w.vs.length c1, .slice A2 w.ts.length c2, .slice A3 w.ml.length c3, .slice A4 w.ch.length c4] 28)).alloc (.cells #[.int .u8 k, .int .i64 n, .int .i64 at_, .string s] 30)) 28 #[.slice none 0 0, .slice none 0 0, .slice none 0 0, .slice none 0 0, .slice none 0 0]
   simpa using this
 have HS0 := h! hs0
 clear hs0 R F
 go_enter Tryz.func7, Tryz.ntmps7
 go_wp2_with fail
 rw [← hU0]
 refine (HWR.out _ HS0.out.bl).mono ?_
 rintro e w1 ⟨rfl, hb1⟩
 have HS1 := h! (HS0.out.below hb1)
 clear HS0 hb1 hU0 HWR
 generalize W.heap.size + 1 + 1 = gr at HS1 ⊢
 generalize W.heap.size + 1 = gm at HS1 ⊢
 obtain ⟨⟨x0, x1, x2, x3, x4⟩, _⟩ := HS1.out.bx.five
 obtain ⟨m0, m1, m2, m3⟩ := box4 HS1.out.bm
 obtain ⟨⟨_, _, _, _, _⟩, z0, z1, z2, z3, z4⟩ := HS1.out.br.five
 by_cases h0 : y0 = 0
 rotate_left
 ·have e0 : (y0 != 0) = true := by simpa using h0
  have HD : Hid (DoIs w ⟨k, n, at_, s⟩ y0) := h! (by
   rcases hy0 with ⟨h1, h2⟩ | ⟨h1, h2⟩
   ·have hp := (pre_wrg w ⟨k, n, at_, s⟩).1 (by simp only; rw [← h2]; exact h0)
    simp only at hp
    exact .inl ⟨h1, by rw [errD_pre (by rw [hp, ← h2]; exact h0), hp, h2]⟩
   ·exact .inr ⟨h1, h2⟩)
  have HN := h! h0
  clear hy0 h0 HTW HP x0 x1 x2 x3 x4 m0 m1 m2 m3
  go_wp2_with fail
  have hres := res5 HS1.out.br (.slice none 0 0) (.slice none 0 0) (.slice none 0 0) (.slice none 0 0) (.slice none 0 0)
  obtain ⟨⟨s0, s1, s2, s3, s4⟩, _⟩ := hres.1.five
  exact bodyPost_ret (v := .tuple #[.agg #[.slice none 0 0, .slice none 0 0, .slice none 0 0, .slice none 0 0, .slice none 0 0], .int .i64 y0]) (by simp [results, Tryz.results7, go_sem, s0, s1, s2, s3, s4]) rfl ⟨_, _, rfl, HD.out, hres.2.2 _ _ HS1.out.bl HS1.out.hr, .inl ⟨HN.out, rfl⟩⟩
 subst h0
 obtain ⟨hmay, hw0⟩ : DC.May w ∧ wrg w k n at_ s = 0 := by
  rcases hy0 with ⟨h1, h2⟩ | ⟨_, h2⟩
  ·exact ⟨h1, h2.symm⟩
  ·exact absurd h2 (by decide)
 have HTW2 := h! (HTW.out _ HS1.out.bl)
 clear hy0 HTW z0 z1 z2 z3 z4 m0 m1 m2 m3
 go_wp2_with fail
 refine HTW2.out.mono ?_
 rintro e w3 ⟨v3, rfl, own, hb3⟩
 obtain ⟨B0, d0, B1, d1, B2, d2, B3, d3, B4, d4, rfl⟩ := own.form
 have hal : Below w3.heap.size w3 (w3.alloc (.cells #[.slice B0 w.ms.length d0, .slice B1 w.vs.length d1, .slice B2 w.ts.length d2, .slice B3 w.ml.length d3, .slice B4 w.ch.length d4] 62)) := b!
 have hat := own.at_ hal hb3.size (Box.new _ _ _)
 have HB := h! (bmore hb3 hal n!)
 have HMV := h! (move_any w1.heap.size w3.heap.size w k n at_ s _ hat hmay HP.out hw0 HB.out.size)
 have HMY := h! hmay
 clear HTW2 own hal hat hmay hw0 HP hb3 x0 x1 x2 x3 x4
 go_upto_region 5 with (fail)
 generalize w3.alloc (.cells #[.slice B0 w.ms.length d0, .slice B1 w.vs.length d1, .slice B2 w.ts.length d2, .slice B3 w.ml.length d3, .slice B4 w.ch.length d4] 62) = U at HB HMV ⊢
 generalize w3.heap.size = g at HMV ⊢
 obtain ⟨m0, m1, m2, m3⟩ := box4 (HS1.out.below HB.out).bm
 go_wp2_with fail
 refine HMV.out.mono ?_
 clear HMV m0 m1 m2 m3
 rintro e w4 (⟨hpre, rfl, hat, _, hb4⟩ | ⟨hpre, rfl, hat, _, hb4⟩)
 ·have HS4 := h! (HS1.out.below (HB.out.trans hb4))
  have HD : Hid (DoIs w ⟨k, n, at_, s⟩ 9) := h! (.inl ⟨HMY.out, by rw [errD_pre (by rw [hpre]; decide), hpre]⟩)
  obtain ⟨⟨_, _, _, _, _⟩, z0, z1, z2, z3, z4⟩ := HS4.out.br.five
  clear hpre hat hb4 HB HS1
  go_wp2_with fail
  have hres := res5 HS4.out.br (.slice none 0 0) (.slice none 0 0) (.slice none 0 0) (.slice none 0 0) (.slice none 0 0)
  obtain ⟨⟨s0, s1, s2, s3, s4⟩, _⟩ := hres.1.five
  exact bodyPost_ret (v := .tuple #[.agg #[.slice none 0 0, .slice none 0 0, .slice none 0 0, .slice none 0 0, .slice none 0 0], .int .i64 9]) (by simp [results, Tryz.results7, go_sem, s0, s1, s2, s3, s4]) rfl ⟨_, _, rfl, HD.out, hres.2.2 _ _ HS4.out.bl HS4.out.hr, .inl ⟨by decide, rfl⟩⟩
 ·have HS4 := h! (HS1.out.below (HB.out.trans hb4))
  have hl1 := DC.aft_ml HMY.out.zero hpre
  have hl2 := (DC.aft_ch w ⟨k, n, at_, s⟩).2
  have hl3 := HMY.out.ml
  have hl4 := HMY.out.cl
  have hE : DC.errD w ⟨k, n, at_, s⟩ = if 1000 < (DC.aft w ⟨k, n, at_, s⟩).ml.length ∨ 1000 < (DC.aft w ⟨k, n, at_, s⟩).ch.length then 9 else 0 := by unfold DC.errD; rw [if_neg (by rw [hpre]; decide)]
  obtain ⟨C0, q0, C1, q1, C2, q2, C3, q3, C4, q4, hx4, hown4⟩ := hat.own
  have HW : Hid (w1.heap.size ≥ W.heap.size) := h! HS1.out.bl.size
  clear hat hb4 HB HS1 hpre
  generalize hA : DC.aft w ⟨k, n, at_, s⟩ = wa at hl1 hl2 hE hx4 hown4
  have HRM := h! (hasRoom_any C0 C1 C2 C3 C4 wa.ms.length q0 wa.vs.length q1 wa.ts.length q2 wa.ml.length q3 wa.ch.length q4 w4 (by omega) (by omega))
  have HA := h! hA
  have HO := h! hown4
  have HX := h! hx4
  obtain ⟨⟨x0, x1, x2, x3, x4⟩, _⟩ := hx4.five
  clear hA hown4 hx4 hl1 hl2 hl3 hl4
  by_cases hroom : wa.ml.length ≤ 1000 ∧ wa.ch.length ≤ 1000
  ·rw [decide_eq_true hroom] at HRM
   have HD : Hid (DoIs w ⟨k, n, at_, s⟩ 0) := h! (.inl ⟨HMY.out, by rw [hE, if_neg (by omega)]⟩)
   clear hE hroom HMY
   go_wp2_with fail
   refine HRM.out.mono ?_
   rintro e w5 ⟨rfl, hb5⟩
   clear x0 x1 x2 x3 x4
   obtain ⟨⟨x0, x1, x2, x3, x4⟩, _⟩ := (HX.out.below hb5 HX.out.lt).five
   have HS5 := h! (HS4.out.below hb5)
   have HO5 := h! ((HO.out.below hb5).mono HW.out)
   obtain ⟨⟨_, _, _, _, _⟩, z0, z1, z2, z3, z4⟩ := HS5.out.br.five
   clear HX HS4 HO hb5 HRM
   go_wp2_with fail
   have hres := res5 HS5.out.br (.slice C0 wa.ms.length q0) (.slice C1 wa.vs.length q1) (.slice C2 wa.ts.length q2) (.slice C3 wa.ml.length q3) (.slice C4 wa.ch.length q4)
   obtain ⟨⟨s0, s1, s2, s3, s4⟩, _⟩ := hres.1.five
   exact bodyPost_ret (v := .tuple #[.agg #[.slice C0 wa.ms.length q0, .slice C1 wa.vs.length q1, .slice C2 wa.ts.length q2, .slice C3 wa.ml.length q3, .slice C4 wa.ch.length q4], .int .i64 0]) (by simp [results, Tryz.results7, go_sem, s0, s1, s2, s3, s4]) rfl ⟨_, _, rfl, HD.out, hres.2.2 _ _ HS5.out.bl HS5.out.hr, .inr ⟨rfl, by rw [HA.out]; exact HO5.out.kept hres.2.1⟩⟩
  ·rw [decide_eq_false hroom] at HRM
   have HD : Hid (DoIs w ⟨k, n, at_, s⟩ 9) := h! (.inl ⟨HMY.out, by rw [hE, if_pos (by omega)]⟩)
   clear hE hroom HMY
   go_wp2_with fail
   refine HRM.out.mono ?_
   rintro e w5 ⟨rfl, hb5⟩
   clear x0 x1 x2 x3 x4
   have HS5 := h! (HS4.out.below hb5)
   obtain ⟨⟨_, _, _, _, _⟩, z0, z1, z2, z3, z4⟩ := HS5.out.br.five
   clear HX HS4 HO hb5 HRM
   go_wp2_with fail
   have hres := res5 HS5.out.br (.slice none 0 0) (.slice none 0 0) (.slice none 0 0) (.slice none 0 0) (.slice none 0 0)
   obtain ⟨⟨s0, s1, s2, s3, s4⟩, _⟩ := hres.1.five
   exact bodyPost_ret (v := .tuple #[.agg #[.slice none 0 0, .slice none 0 0, .slice none 0 0, .slice none 0 0, .slice none 0 0], .int .i64 9]) (by simp [results, Tryz.results7, go_sem, s0, s1, s2, s3, s4]) rfl ⟨_, _, rfl, HD.out, hres.2.2 _ _ HS5.out.bl HS5.out.hr, .inl ⟨by decide, rfl⟩⟩
def vmove (m : DC.Mv) : List Value := [.int .u8 m.k, .int .i64 m.n, .int .i64 m.at_, .string m.v]
def MvFit (m : DC.Mv) : Prop := 0 ≤ m.k ∧ m.k ≤ 255 ∧ m.v.size ≤ maxLen
theorem fit_may {w : DC.Wd} (h : DC.May w) (hp : PM w) : WFit w := by
 have h6 := (QM.may_len h.ms).2.1
 have hml := h.ml
 have hcl := h.cl
 have hvl := h.vl
 have htl := h.tl
 refine ⟨by omega, by omega, by omega, by omega, by omega, fun v hv => ?_, fun t ht => ?_, fun m hm => ?_, fun c hc => ?_⟩
 ·obtain ⟨h1, h2⟩ := h.vs v hv
  have := DC.okP_le h1
  have := DC.okA_le h2
  refine ⟨by omega, by omega, by omega, by omega, by unfold maxLen; omega⟩
 ·obtain ⟨i, hi⟩ := List.getElem?_of_mem ht
  exact fit_mayT (h.ts i t hi)
 ·obtain ⟨_, _, _, h1, h2, h3, h4, h5⟩ := h.mm m hm
  have := hp m hm
  unfold BM.good at h3
  exact ⟨by omega, by omega, by omega, by omega, this, by unfold maxLen; omega⟩
 ·have := (h.cc c hc).2
  unfold maxLen; omega
end Go.Proofs.YtiiobafcgdelmaaGreat.PD
