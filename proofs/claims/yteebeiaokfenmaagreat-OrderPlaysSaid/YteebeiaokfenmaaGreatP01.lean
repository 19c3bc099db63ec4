/- Contracts of functions, P01: each as its theorem says. -/
import Derived.Test.YteebeiaokfenmaaGreatK22
set_option linter.unusedVariables false
set_option linter.unusedSimpArgs false
set_option maxRecDepth 100000
set_option maxHeartbeats 16000000
namespace Go.Proofs.YteebeiaokfenmaaGreat
namespace KP
open Go.RowKit CP TP
open CM (Mg Cm)
open TM (Sp)
open KM (Wt Sk)
theorem pnew15_any (w : World) : Calls Tryz.prog 40 #[] w (SkNew KM.zero w) := by
 have HB := h! (show Below w.heap.size w (w.alloc (.cells #[.int .i64 0, .slice none 0 0, .slice none 0 0] 39)) from (Below.refl _ _).alloc n! _)
 have X := h! (Box.new w 39 #[.int .i64 0, .slice none 0 0, .slice none 0 0])
 go_enter Tryz.func40, Tryz.ntmps40
 go_upto_region 1 with (fail)
 generalize w.alloc (.cells #[.int .i64 0, .slice none 0 0, .slice none 0 0] 39) = w1 at HB X ⊢
 obtain ⟨g0, hg0⟩ : ∃ g0, w.heap.size = g0 := ⟨_, rfl⟩
 rw [hg0] at X
 simp only [hg0]
 have HG := h! hg0
 clear hg0
 obtain ⟨x0, x1, x2, f0, f1, f2⟩ := X.out.three
 have ZP := h! (Box.put3 X.out (.int .i64 0) (.slice none 0 0) (.slice none 0 0))
 have ZL := h! (below_put3 HB.out (by have := HG.out; omega) (.int .i64 0) (.slice none 0 0) (.slice none 0 0) (g := g0))
 go_wp2_with fail
 obtain ⟨u0, u1, u2⟩ := box_sk ZP.out
 exact bodyPost_ret (v := .agg #[.int .i64 0, .slice none 0 0, .slice none 0 0]) (by simp [results, Tryz.results40, go_sem, u0, u1, u2]; try rfl) rfl ⟨_, rfl, skO_zero _ _, ZL.out⟩
end KP
namespace CP
open Go.RowKit
open CM (Mg Cm)
def BsIs (w : World) (b : Nat) (v : Value) (l : List UInt8) : Prop := ∃ A c, v = .slice A l.length c ∧ Rd w A l.length (bc l) ∧ l.length ≤ c ∧ c ≤ maxLen ∧ ∀ ad, A = some ad → 0 < l.length → ad.block < b
theorem BsIs.below {w w' : World} {b : Nat} {v : Value} {l : List UInt8} (h : BsIs w b v l) (hb : Below w.heap.size w w') : BsIs w' b v l := by
 obtain ⟨A, c, e, h1, h2⟩ := h
 exact ⟨A, c, e, h1.below hb, h2⟩
theorem BsIs.set {w : World} {b : Nat} {v : Value} {l : List UInt8} (h : BsIs w b v l) {g i : Nat} (hg : b ≤ g) (u : Value) : BsIs (w.setCell ⟨g, i, none⟩ u) b v l := by
 obtain ⟨A, c, e, h1, h2, h3, h4⟩ := h
 refine ⟨A, c, e, ⟨h1.1, fun hn => ?_⟩, h2, h3, h4⟩
 obtain ⟨ad, e2, hB, hc⟩ := h1.2 hn
 have hb := h4 ad e2 hn
 refine ⟨ad, e2, by simpa using hB, fun j x hx => ?_⟩
 exact (World.cell?_of_block (Below.heap_setCell w ⟨g, i, none⟩ u (ad.add j).block (by rw [block_of_add]; show ad.block ≠ g; omega))).trans (hc j x hx)
def ListIs (o : Option (List Nat × List UInt8)) (b : Nat) (w : World) (e : Ending) (w' : World) : Prop :=
 Below w.heap.size w w' ∧ ((o = none ∧ e = .returned (.tuple #[.slice none 0 0, .slice none 0 0, .bool false])) ∨
  ∃ xs r B d v, o = some (xs, r) ∧ e = .returned (.tuple #[.slice B xs.length d, v, .bool true]) ∧ RowGe w' w.heap.size B d (CM.zs xs) ∧ BsIs w' b v r)
theorem zs_len (l : List Nat) : (CM.zs l).length = l.length := by simp [CM.zs]
theorem bs_rest {w : World} {A : Option Addr} {c k : Nat} {l : List UInt8} {b : Nat} (h : Rd w A l.length (bc l)) (hk : k ≤ l.length) (hc : l.length ≤ c) (hm : c ≤ maxLen) (hloc : ∀ ad, A = some ad → 0 < l.length → ad.block < b) : BsIs w b (.slice (Option.map (fun x => x.add k) A) (l.length - k) (c - k)) (l.drop k) :=
 ⟨_, _, by rw [List.length_drop], by rw [List.length_drop, ← bc_drop]; exact h.cutm hk, by rw [List.length_drop]; omega, by omega, fun ad e hn => by
  rw [List.length_drop] at hn
  rcases A with _ | a
  ·cases e
  ·simp at e
   subst e
   rw [block_of_add]
   exact hloc a rfl (by omega)⟩
theorem bs_end {w : World} {A : Option Addr} {k : Nat} {l : List UInt8} {b : Nat} (hk : l.length ≤ k) : BsIs w b (.slice A 0 0) (l.drop k) := by
 refine ⟨A, 0, by rw [List.length_drop, show l.length - k = 0 by omega], ?_, ?_, by unfold maxLen; omega, fun ad _ hn => by rw [List.length_drop] at hn; omega⟩
 ·rw [List.length_drop, List.drop_of_length_le hk, show l.length - k = 0 by omega]
  exact ⟨rfl, fun h => absurd h (Nat.lt_irrefl 0)⟩
 ·rw [List.length_drop]; omega
theorem list12_any (v : Value) (most : Nat) (l : List UInt8) (w : World) (b : Nat) (h : BsIs w b v l) (hmost : most ≤ 4096) :
  Calls Tryz.prog 142 #[v, .int .i64 most] w (ListIs (CM.lst most l) b w) := by
 obtain ⟨A, c, rfl, hr, hc, hm, hloc⟩ := h
 have HLoc := h! hloc
 clear hloc
 have G := h! (refGetInts_any A l.length c most l w hr hc hm hmost)
 have HR := h! hr
 unfold maxLen at hm
 clear hr
 rcases ho : NM.getInts l most with _ | ⟨xs, k⟩
 ·have HO := h! (show CM.lst most l = none by unfold CM.lst; rw [ho])
  rw [ho] at G
  clear ho
  go_enter Tryz.func142, Tryz.ntmps142
  go_wp2_with fail
  refine (G.out).mono ?_
  rintro e w1 ⟨hb, ⟨_, rfl⟩ | ⟨_, _, _, h, _⟩⟩
  ·go_wp2_with fail
   go_ret3
   exact ⟨hb, .inl ⟨HO.out, rfl⟩⟩
  ·cases h
 ·have hk := (NM.ints_getInts l most xs k ho).2.2.1
  have HO := h! (show CM.lst most l = some (xs, l.drop k) by unfold CM.lst; rw [ho])
  rw [ho] at G
  clear ho
  have k0 : (0 : Int) ≤ (k : Int) := by omega
  have k1 : (k : Int) ≤ (l.length : Int) := by omega
  have k2 : (k : Int) ≤ (c : Int) := by omega
  have DR := h! (show (l.drop k).length = l.length - k from List.length_drop)
  go_enter Tryz.func142, Tryz.ntmps142
  go_wp2_with fail
  refine (G.out).mono ?_
  rintro e w1 ⟨hb, ⟨h, _⟩ | ⟨xs', k', u, h, rfl, ho⟩⟩
  ·cases h
  ·injection h with h
   injection h with h1 h2
   subst h1 h2
   obtain ⟨B, d, rfl, hd1, hd2⟩ := own_slice ho
   have HW := h! (rowGe_own (l := CM.zs xs) ho (by rw [zs_len]) (by rw [zs_len]; exact hd1) hd2)
   have HB := h! hb
   clear ho hb hd1 hd2
   by_cases hck : c = k
   ·subst hck
    have HE : Hid (∀ W, BsIs W b (.slice A 0 0) (l.drop c)) := h! (fun W => bs_end (by omega))
    go_wp2_with fail
    go_quiet (fail)
    go_wp2_with fail
    go_ret3
    exact ⟨below_drewN HB.out _, .inr ⟨xs, _, B, d, _, HO.out, rfl, HW.out.below (below_drewN (Below.refl _ _) _), HE.out _⟩⟩
   ·have HE : Hid (∀ W, Below w.heap.size w W → BsIs W b (.slice (Option.map (fun x => x.add k) A) (l.length - k) (c - k)) (l.drop k)) := h! (fun W hb => bs_rest (HR.out.below hb) hk hc (by unfold maxLen; omega) HLoc.out)
    go_wp2_with fail
    go_quiet (fail)
    go_wp2_with fail
    go_ret3
    exact ⟨below_drewN HB.out _, .inr ⟨xs, _, B, d, _, HO.out, rfl, HW.out.below (below_drewN (Below.refl _ _) _), HE.out _ (below_drewN HB.out _)⟩⟩
theorem front_0 (A : Option Addr) (n c : Nat) (l : List UInt8) (w : World) (hr : Rd w A n (bc l)) (h1 : n ≤ c) (h2 : c ≤ maxLen) (i : Bool) (hf : Fl (RM.fk l : Nat) false false false false false i) (hk : ¬ RM.fk l = 1 ∧ ¬ RM.fk l = 2 ∧ ¬ RM.fk l = 3 ∧ ¬ RM.fk l = 4 ∧ ¬ (RM.fk l = 5 ∨ RM.fk l = 6)) :
  Calls Tryz.prog 100 #[.slice A n c] w (FrontPost w l) := by
 have CF := h! (fun w => fields_any hf w)
 have S := h! (f0_new hr h1 h2)
 have hm := h! (show ((RM.gt l).1 : Int) % 256 = (RM.fk l : Int) by unfold RM.fk; omega)
 have HE := h! (show fr l = (⟨(RM.fk l : Nat), CM.mz, 0, 0, [], 0, 0, 0⟩ : Cm) by unfold fr frB; rw [if_neg hk.1, if_neg hk.2.1, if_neg hk.2.2.1, if_neg hk.2.2.2.1, if_neg hk.2.2.2.2]; try rfl)
 clear hf hr hk
 go_enter Tryz.func100, Tryz.ntmps100
 go_upto_region 5 with (fail)
 generalize ((w.alloc (.cells #[.slice A n c] 120)).alloc (.cells #[.int .u8 0, .int .i64 0, .slice none 0 0, .int .i64 0, .string ⟨#[]⟩, .string ⟨#[]⟩, .int .i64 0, .int .i64 0, .slice none 0 0, .int .i64 0, .int .i64 0, .int .i64 0] 91)).alloc (.cells #[.int .u8 0, .int .i64 0, .slice none 0 0, .int .i64 0, .string ⟨#[]⟩, .string ⟨#[]⟩, .int .i64 0, .int .i64 0, .slice none 0 0, .int .i64 0, .int .i64 0, .int .i64 0] 91) = w1 at S ⊢
 generalize w.heap.size = g at S ⊢
 go_wp2_with fail
 refine (number_any g l w1 S.out.1).mono ?_
 rintro e w2 ⟨rfl, hn, hk⟩
 replace S := h! (S.out.num hn hk)
 clear hn hk
 have c0 := S.out.2.1.cell 0
 have f0 := S.out.2.1.frozen 0
 simp at c0
 go_upto_region 6 with (fail)
 clear c0 f0
 simp only [hm.out]
 replace S := h! (show F0 w _ g (RM.f1 l) #[.int .u8 (RM.fk l), .int .i64 0, .slice none 0 0, .int .i64 0, .string ⟨#[]⟩, .string ⟨#[]⟩, .int .i64 0, .int .i64 0, .slice none 0 0, .int .i64 0, .int .i64 0, .int .i64 0] from S.out.put 0 (.int .u8 (RM.fk l)))
 generalize w2.setCell ⟨g + 1 + 1, 0, none⟩ (.int .u8 (RM.fk l)) = w1 at S ⊢
 have c0 := S.out.2.1.cell 0
 simp at c0
 go_wp2_with fail
 refine (CF.out _).mono ?_
 rintro e w3 ⟨rfl, hb3⟩
 have S := h! (fr_at S.out hb3 false false false false false)
 clear hb3 CF c0
 go_upto_region 7 with (fail)
 generalize w3.alloc (.cells #[.bool false, .bool false, .bool false, .bool false, .bool false] 126) = w1 at S ⊢
 generalize w3.heap.size = f at S ⊢
 obtain ⟨y0, y1, y2, y3, y4⟩ := box_mg S.out.2.1
 obtain ⟨c0, c1, c2, c3, c4, c5, c6, c7, c8, c9, c10, c11⟩ := box_cm S.out.1.2.1
 obtain ⟨d0, d1, d2, d3, d4, d5, d6, d7, d8, d9, d10, d11⟩ := box_cm S.out.1.2.2.1
 have g0 := S.out.1.2.2.1.frozen 0
 have g1 := S.out.1.2.2.1.frozen 1
 have g2 := S.out.1.2.2.1.frozen 2
 have g3 := S.out.1.2.2.1.frozen 3
 have g4 := S.out.1.2.2.1.frozen 4
 have g5 := S.out.1.2.2.1.frozen 5
 have g6 := S.out.1.2.2.1.frozen 6
 have g7 := S.out.1.2.2.1.frozen 7
 have g8 := S.out.1.2.2.1.frozen 8
 have g9 := S.out.1.2.2.1.frozen 9
 have g10 := S.out.1.2.2.1.frozen 10
 have g11 := S.out.1.2.2.1.frozen 11
 have HG := h! S.out.1.2.2.2.1
 have HB := h! S.out.1.2.2.2.2
 have HRow := h! S.out.2.2.2
 clear S
 go_wp2_with fail
 refine bodyPost_ret (v := .agg #[.int .u8 (RM.fk l), .int .i64 0, .slice none 0 0, .int .i64 0, .string ⟨#[]⟩, .string ⟨#[]⟩, .int .i64 0, .int .i64 0, .slice none 0 0, .int .i64 0, .int .i64 0, .int .i64 0]) (by simp [results, Tryz.results100, go_sem, d0, d1, d2, d3, d4, d5, d6, d7, d8, d9, d10, d11]; try rfl) rfl ?_
 unfold FrontPost
 rw [HE.out]
 have hrow := HRow.out.put12 (show g + 1 < g + 1 + 1 + 1 by omega) (.int .u8 (RM.fk l)) (.int .i64 0) (.slice none 0 0) (.int .i64 0) (.string ⟨#[]⟩) (.string ⟨#[]⟩) (.int .i64 0) (.int .i64 0) (.slice none 0 0) (.int .i64 0) (.int .i64 0) (.int .i64 0)
 refine ⟨_, rfl, ⟨none, 0, none, 0, ?_, RowGe.none _ _, RowGe.none _ _⟩, put12_below HB.out (by rw [← HG.out]; omega) (.int .u8 (RM.fk l)) (.int .i64 0) (.slice none 0 0) (.int .i64 0) (.string ⟨#[]⟩) (.string ⟨#[]⟩) (.int .i64 0) (.int .i64 0) (.slice none 0 0) (.int .i64 0) (.int .i64 0) (.int .i64 0)⟩
 try simp only [ccells, CM.mz, zsl, List.length_nil]
 try rfl
theorem front_1 (A : Option Addr) (n c : Nat) (l : List UInt8) (w : World) (hr : Rd w A n (bc l)) (h1 : n ≤ c) (h2 : c ≤ maxLen) (i : Bool) (hf : Fl (RM.fk l : Nat) true false false false false i) (hk : RM.fk l = 1) :
  Calls Tryz.prog 100 #[.slice A n c] w (FrontPost w l) := by
 have CF := h! (fun w => fields_any hf w)
 have S := h! (f0_new hr h1 h2)
 have hm := h! (show ((RM.gt l).1 : Int) % 256 = (RM.fk l : Int) by unfold RM.fk; omega)
 have HE := h! (show fr l = (⟨1, ⟨(RM.gt (RM.f1 l)).1, (CM.zs (gl 4 (RM.gt (RM.f1 l)).2).1), ((RM.gt (gl 4 (RM.gt (RM.f1 l)).2).2).1 : Nat), ⟨((gx (RM.gt (gl 4 (RM.gt (RM.f1 l)).2).2).2).1).toArray⟩, ⟨((gx (gx (RM.gt (gl 4 (RM.gt (RM.f1 l)).2).2).2).2).1).toArray⟩⟩, 0, 0, [], 0, 0, 0⟩ : Cm) by unfold fr frB; rw [if_pos hk]; try rfl)
 have HK := h! hk
 clear hf hr hk
 go_enter Tryz.func100, Tryz.ntmps100
 go_upto_region 5 with (fail)
 generalize ((w.alloc (.cells #[.slice A n c] 120)).alloc (.cells #[.int .u8 0, .int .i64 0, .slice none 0 0, .int .i64 0, .string ⟨#[]⟩, .string ⟨#[]⟩, .int .i64 0, .int .i64 0, .slice none 0 0, .int .i64 0, .int .i64 0, .int .i64 0] 91)).alloc (.cells #[.int .u8 0, .int .i64 0, .slice none 0 0, .int .i64 0, .string ⟨#[]⟩, .string ⟨#[]⟩, .int .i64 0, .int .i64 0, .slice none 0 0, .int .i64 0, .int .i64 0, .int .i64 0] 91) = w1 at S ⊢
 generalize w.heap.size = g at S ⊢
 go_wp2_with fail
 refine (number_any g l w1 S.out.1).mono ?_
 rintro e w2 ⟨rfl, hn, hk⟩
 replace S := h! (S.out.num hn hk)
 clear hn hk
 have c0 := S.out.2.1.cell 0
 have f0 := S.out.2.1.frozen 0
 simp at c0
 go_upto_region 6 with (fail)
 clear c0 f0
 simp only [hm.out]
 replace S := h! (show F0 w _ g (RM.f1 l) #[.int .u8 (RM.fk l), .int .i64 0, .slice none 0 0, .int .i64 0, .string ⟨#[]⟩, .string ⟨#[]⟩, .int .i64 0, .int .i64 0, .slice none 0 0, .int .i64 0, .int .i64 0, .int .i64 0] from S.out.put 0 (.int .u8 (RM.fk l)))
 generalize w2.setCell ⟨g + 1 + 1, 0, none⟩ (.int .u8 (RM.fk l)) = w1 at S ⊢
 have c0 := S.out.2.1.cell 0
 simp at c0
 go_wp2_with fail
 refine (CF.out _).mono ?_
 rintro e w3 ⟨rfl, hb3⟩
 have S := h! (fr_at S.out hb3 true false false false false)
 clear hb3 CF c0
 go_upto_region 7 with (fail)
 generalize w3.alloc (.cells #[.bool true, .bool false, .bool false, .bool false, .bool false] 126) = w1 at S ⊢
 generalize w3.heap.size = f at S ⊢
 obtain ⟨y0, y1, y2, y3, y4⟩ := box_mg S.out.2.1
 go_wp2_with fail
 clear y0 y1 y2 y3 y4
 refine (number_any g _ _ S.out.1.1).mono ?_
 rintro e w2 ⟨rfl, hn, hk⟩
 replace S := h! (S.out.num hn hk)
 clear hn hk
 have c1 := S.out.1.2.1.cell 1
 have f1 := S.out.1.2.1.frozen 1
 simp at c1
 go_upto_region 9 with (fail)
 clear c1 f1
 replace S := h! (show Fr w _ g f (RM.gt (RM.f1 l)).2 #[.int .u8 (RM.fk l), .int .i64 (RM.gt (RM.f1 l)).1, .slice none 0 0, .int .i64 0, .string ⟨#[]⟩, .string ⟨#[]⟩, .int .i64 0, .int .i64 0, .slice none 0 0, .int .i64 0, .int .i64 0, .int .i64 0] true false false false false none 0 [] from (S.out).put 1 (.int .i64 (RM.gt (RM.f1 l)).1))
 generalize World.setCell _ ⟨g + 1 + 1, 1, none⟩ _ = wz at S ⊢
 obtain ⟨y0, y1, y2, y3, y4⟩ := box_mg S.out.2.1
 go_wp2_with fail
 clear y0 y1 y2 y3 y4
 refine (list_any g 4 _ _ S.out.1.1 (by omega)).mono ?_
 rintro e w2 ⟨B, d, rfl, hrow, hn, hk⟩
 replace S := h! (S.out.lst hn hk hrow)
 clear hn hk hrow
 have c2 := S.out.1.2.1.cell 2
 have f2 := S.out.1.2.1.frozen 2
 simp at c2
 go_upto_region 10 with (fail)
 clear c2 f2
 replace S := h! (show Fr w _ g f (gl 4 (RM.gt (RM.f1 l)).2).2 #[.int .u8 (RM.fk l), .int .i64 (RM.gt (RM.f1 l)).1, .slice B (gl 4 (RM.gt (RM.f1 l)).2).1.length d, .int .i64 0, .string ⟨#[]⟩, .string ⟨#[]⟩, .int .i64 0, .int .i64 0, .slice none 0 0, .int .i64 0, .int .i64 0, .int .i64 0] true false false false false B d (CM.zs (gl 4 (RM.gt (RM.f1 l)).2).1) from (S.out).put 2 (.slice B (gl 4 (RM.gt (RM.f1 l)).2).1.length d))
 generalize World.setCell _ ⟨g + 1 + 1, 2, none⟩ _ = wz at S ⊢
 obtain ⟨y0, y1, y2, y3, y4⟩ := box_mg S.out.2.1
 go_wp2_with fail
 clear y0 y1 y2 y3 y4
 refine (number_any g _ _ S.out.1.1).mono ?_
 rintro e w2 ⟨rfl, hn, hk⟩
 replace S := h! (S.out.num hn hk)
 clear hn hk
 have c3 := S.out.1.2.1.cell 3
 have f3 := S.out.1.2.1.frozen 3
 simp at c3
 go_upto_region 11 with (fail)
 clear c3 f3
 replace S := h! (show Fr w _ g f (RM.gt (gl 4 (RM.gt (RM.f1 l)).2).2).2 #[.int .u8 (RM.fk l), .int .i64 (RM.gt (RM.f1 l)).1, .slice B (gl 4 (RM.gt (RM.f1 l)).2).1.length d, .int .i64 (RM.gt (gl 4 (RM.gt (RM.f1 l)).2).2).1, .string ⟨#[]⟩, .string ⟨#[]⟩, .int .i64 0, .int .i64 0, .slice none 0 0, .int .i64 0, .int .i64 0, .int .i64 0] true false false false false B d (CM.zs (gl 4 (RM.gt (RM.f1 l)).2).1) from (S.out).put 3 (.int .i64 (RM.gt (gl 4 (RM.gt (RM.f1 l)).2).2).1))
 generalize World.setCell _ ⟨g + 1 + 1, 3, none⟩ _ = wz at S ⊢
 obtain ⟨y0, y1, y2, y3, y4⟩ := box_mg S.out.2.1
 go_wp2_with fail
 clear y0 y1 y2 y3 y4
 refine (text_any g _ _ S.out.1.1).mono ?_
 rintro e w2 ⟨rfl, hn, hk⟩
 replace S := h! (S.out.num hn hk)
 clear hn hk
 have c4 := S.out.1.2.1.cell 4
 have f4 := S.out.1.2.1.frozen 4
 simp at c4
 go_upto_region 12 with (fail)
 clear c4 f4
 replace S := h! (show Fr w _ g f (gx (RM.gt (gl 4 (RM.gt (RM.f1 l)).2).2).2).2 #[.int .u8 (RM.fk l), .int .i64 (RM.gt (RM.f1 l)).1, .slice B (gl 4 (RM.gt (RM.f1 l)).2).1.length d, .int .i64 (RM.gt (gl 4 (RM.gt (RM.f1 l)).2).2).1, .string ⟨(gx (RM.gt (gl 4 (RM.gt (RM.f1 l)).2).2).2).1.toArray⟩, .string ⟨#[]⟩, .int .i64 0, .int .i64 0, .slice none 0 0, .int .i64 0, .int .i64 0, .int .i64 0] true false false false false B d (CM.zs (gl 4 (RM.gt (RM.f1 l)).2).1) from (S.out).put 4 (.string ⟨(gx (RM.gt (gl 4 (RM.gt (RM.f1 l)).2).2).2).1.toArray⟩))
 generalize World.setCell _ ⟨g + 1 + 1, 4, none⟩ _ = wz at S ⊢
 obtain ⟨y0, y1, y2, y3, y4⟩ := box_mg S.out.2.1
 go_wp2_with fail
 clear y0 y1 y2 y3 y4
 refine (text_any g _ _ S.out.1.1).mono ?_
 rintro e w2 ⟨rfl, hn, hk⟩
 replace S := h! (S.out.num hn hk)
 clear hn hk
 have c5 := S.out.1.2.1.cell 5
 have f5 := S.out.1.2.1.frozen 5
 simp at c5
 go_upto_region 13 with (fail)
 clear c5 f5
 replace S := h! (show Fr w _ g f (gx (gx (RM.gt (gl 4 (RM.gt (RM.f1 l)).2).2).2).2).2 #[.int .u8 (RM.fk l), .int .i64 (RM.gt (RM.f1 l)).1, .slice B (gl 4 (RM.gt (RM.f1 l)).2).1.length d, .int .i64 (RM.gt (gl 4 (RM.gt (RM.f1 l)).2).2).1, .string ⟨(gx (RM.gt (gl 4 (RM.gt (RM.f1 l)).2).2).2).1.toArray⟩, .string ⟨(gx (gx (RM.gt (gl 4 (RM.gt (RM.f1 l)).2).2).2).2).1.toArray⟩, .int .i64 0, .int .i64 0, .slice none 0 0, .int .i64 0, .int .i64 0, .int .i64 0] true false false false false B d (CM.zs (gl 4 (RM.gt (RM.f1 l)).2).1) from (S.out).put 5 (.string ⟨(gx (gx (RM.gt (gl 4 (RM.gt (RM.f1 l)).2).2).2).2).1.toArray⟩))
 generalize World.setCell _ ⟨g + 1 + 1, 5, none⟩ _ = wz at S ⊢
 obtain ⟨y0, y1, y2, y3, y4⟩ := box_mg S.out.2.1
 obtain ⟨c0, c1, c2, c3, c4, c5, c6, c7, c8, c9, c10, c11⟩ := box_cm S.out.1.2.1
 obtain ⟨d0, d1, d2, d3, d4, d5, d6, d7, d8, d9, d10, d11⟩ := box_cm S.out.1.2.2.1
 have g0 := S.out.1.2.2.1.frozen 0
 have g1 := S.out.1.2.2.1.frozen 1
 have g2 := S.out.1.2.2.1.frozen 2
 have g3 := S.out.1.2.2.1.frozen 3
 have g4 := S.out.1.2.2.1.frozen 4
 have g5 := S.out.1.2.2.1.frozen 5
 have g6 := S.out.1.2.2.1.frozen 6
 have g7 := S.out.1.2.2.1.frozen 7
 have g8 := S.out.1.2.2.1.frozen 8
 have g9 := S.out.1.2.2.1.frozen 9
 have g10 := S.out.1.2.2.1.frozen 10
 have g11 := S.out.1.2.2.1.frozen 11
 have HG := h! S.out.1.2.2.2.1
 have HB := h! S.out.1.2.2.2.2
 have HRow := h! S.out.2.2.2
 clear S
 go_wp2_with fail
 refine bodyPost_ret (v := .agg #[.int .u8 (RM.fk l), .int .i64 (RM.gt (RM.f1 l)).1, .slice B (gl 4 (RM.gt (RM.f1 l)).2).1.length d, .int .i64 (RM.gt (gl 4 (RM.gt (RM.f1 l)).2).2).1, .string ⟨(gx (RM.gt (gl 4 (RM.gt (RM.f1 l)).2).2).2).1.toArray⟩, .string ⟨(gx (gx (RM.gt (gl 4 (RM.gt (RM.f1 l)).2).2).2).2).1.toArray⟩, .int .i64 0, .int .i64 0, .slice none 0 0, .int .i64 0, .int .i64 0, .int .i64 0]) (by simp [results, Tryz.results100, go_sem, d0, d1, d2, d3, d4, d5, d6, d7, d8, d9, d10, d11]; try rfl) rfl ?_
 unfold FrontPost
 rw [HE.out]
 have hrow := HRow.out.put12 (show g + 1 < g + 1 + 1 + 1 by omega) (.int .u8 (RM.fk l)) (.int .i64 (RM.gt (RM.f1 l)).1) (.slice B (gl 4 (RM.gt (RM.f1 l)).2).1.length d) (.int .i64 (RM.gt (gl 4 (RM.gt (RM.f1 l)).2).2).1) (.string ⟨(gx (RM.gt (gl 4 (RM.gt (RM.f1 l)).2).2).2).1.toArray⟩) (.string ⟨(gx (gx (RM.gt (gl 4 (RM.gt (RM.f1 l)).2).2).2).2).1.toArray⟩) (.int .i64 0) (.int .i64 0) (.slice none 0 0) (.int .i64 0) (.int .i64 0) (.int .i64 0)
 refine ⟨_, rfl, ⟨B, d, none, 0, ?_, hrow.mono (by rw [← HG.out]; omega), RowGe.none _ _⟩, put12_below HB.out (by rw [← HG.out]; omega) (.int .u8 (RM.fk l)) (.int .i64 (RM.gt (RM.f1 l)).1) (.slice B (gl 4 (RM.gt (RM.f1 l)).2).1.length d) (.int .i64 (RM.gt (gl 4 (RM.gt (RM.f1 l)).2).2).1) (.string ⟨(gx (RM.gt (gl 4 (RM.gt (RM.f1 l)).2).2).2).1.toArray⟩) (.string ⟨(gx (gx (RM.gt (gl 4 (RM.gt (RM.f1 l)).2).2).2).2).1.toArray⟩) (.int .i64 0) (.int .i64 0) (.slice none 0 0) (.int .i64 0) (.int .i64 0) (.int .i64 0)⟩
 rw [HK.out]; try simp only [ccells, CM.mz, zsl, List.length_nil]
 try rfl
theorem front_2 (A : Option Addr) (n c : Nat) (l : List UInt8) (w : World) (hr : Rd w A n (bc l)) (h1 : n ≤ c) (h2 : c ≤ maxLen) (i : Bool) (hf : Fl (RM.fk l : Nat) false true false false false i) (hk : RM.fk l = 2) :
  Calls Tryz.prog 100 #[.slice A n c] w (FrontPost w l) := by
 have CF := h! (fun w => fields_any hf w)
 have S := h! (f0_new hr h1 h2)
 have hm := h! (show ((RM.gt l).1 : Int) % 256 = (RM.fk l : Int) by unfold RM.fk; omega)
 have HE := h! (show fr l = (⟨2, CM.mz, ((RM.gt (RM.f1 l)).1 : Nat), ((RM.gt (RM.gt (RM.f1 l)).2).1 : Nat), [], 0, 0, 0⟩ : Cm) by unfold fr frB; rw [if_neg (by omega), if_pos hk]; try rfl)
 have HK := h! hk
 clear hf hr hk
 go_enter Tryz.func100, Tryz.ntmps100
 go_upto_region 5 with (fail)
 generalize ((w.alloc (.cells #[.slice A n c] 120)).alloc (.cells #[.int .u8 0, .int .i64 0, .slice none 0 0, .int .i64 0, .string ⟨#[]⟩, .string ⟨#[]⟩, .int .i64 0, .int .i64 0, .slice none 0 0, .int .i64 0, .int .i64 0, .int .i64 0] 91)).alloc (.cells #[.int .u8 0, .int .i64 0, .slice none 0 0, .int .i64 0, .string ⟨#[]⟩, .string ⟨#[]⟩, .int .i64 0, .int .i64 0, .slice none 0 0, .int .i64 0, .int .i64 0, .int .i64 0] 91) = w1 at S ⊢
 generalize w.heap.size = g at S ⊢
 go_wp2_with fail
 refine (number_any g l w1 S.out.1).mono ?_
 rintro e w2 ⟨rfl, hn, hk⟩
 replace S := h! (S.out.num hn hk)
 clear hn hk
 have c0 := S.out.2.1.cell 0
 have f0 := S.out.2.1.frozen 0
 simp at c0
 go_upto_region 6 with (fail)
 clear c0 f0
 simp only [hm.out]
 replace S := h! (show F0 w _ g (RM.f1 l) #[.int .u8 (RM.fk l), .int .i64 0, .slice none 0 0, .int .i64 0, .string ⟨#[]⟩, .string ⟨#[]⟩, .int .i64 0, .int .i64 0, .slice none 0 0, .int .i64 0, .int .i64 0, .int .i64 0] from S.out.put 0 (.int .u8 (RM.fk l)))
 generalize w2.setCell ⟨g + 1 + 1, 0, none⟩ (.int .u8 (RM.fk l)) = w1 at S ⊢
 have c0 := S.out.2.1.cell 0
 simp at c0
 go_wp2_with fail
 refine (CF.out _).mono ?_
 rintro e w3 ⟨rfl, hb3⟩
 have S := h! (fr_at S.out hb3 false true false false false)
 clear hb3 CF c0
 go_upto_region 7 with (fail)
 generalize w3.alloc (.cells #[.bool false, .bool true, .bool false, .bool false, .bool false] 126) = w1 at S ⊢
 generalize w3.heap.size = f at S ⊢
 obtain ⟨y0, y1, y2, y3, y4⟩ := box_mg S.out.2.1
 go_wp2_with fail
 clear y0 y1 y2 y3 y4
 refine (number_any g _ _ S.out.1.1).mono ?_
 rintro e w2 ⟨rfl, hn, hk⟩
 replace S := h! (S.out.num hn hk)
 clear hn hk
 go_wp2_with fail
 refine (number_any g _ _ S.out.1.1).mono ?_
 rintro e w2 ⟨rfl, hn, hk⟩
 replace S := h! (S.out.num hn hk)
 clear hn hk
 have c6 := S.out.1.2.1.cell 6
 have f6 := S.out.1.2.1.frozen 6
 simp at c6
 have c7 := S.out.1.2.1.cell 7
 have f7 := S.out.1.2.1.frozen 7
 simp at c7
 go_upto_region 15 with (fail)
 clear c6 f6 c7 f7
 replace S := h! (show Fr w _ g f (RM.gt (RM.gt (RM.f1 l)).2).2 #[.int .u8 (RM.fk l), .int .i64 0, .slice none 0 0, .int .i64 0, .string ⟨#[]⟩, .string ⟨#[]⟩, .int .i64 (RM.gt (RM.f1 l)).1, .int .i64 (RM.gt (RM.gt (RM.f1 l)).2).1, .slice none 0 0, .int .i64 0, .int .i64 0, .int .i64 0] false true false false false none 0 [] from ((S.out).put 6 (.int .i64 (RM.gt (RM.f1 l)).1)).put 7 (.int .i64 (RM.gt (RM.gt (RM.f1 l)).2).1))
 generalize World.setCell _ ⟨g + 1 + 1, 7, none⟩ _ = wz at S ⊢
 obtain ⟨y0, y1, y2, y3, y4⟩ := box_mg S.out.2.1
 obtain ⟨c0, c1, c2, c3, c4, c5, c6, c7, c8, c9, c10, c11⟩ := box_cm S.out.1.2.1
 obtain ⟨d0, d1, d2, d3, d4, d5, d6, d7, d8, d9, d10, d11⟩ := box_cm S.out.1.2.2.1
 have g0 := S.out.1.2.2.1.frozen 0
 have g1 := S.out.1.2.2.1.frozen 1
 have g2 := S.out.1.2.2.1.frozen 2
 have g3 := S.out.1.2.2.1.frozen 3
 have g4 := S.out.1.2.2.1.frozen 4
 have g5 := S.out.1.2.2.1.frozen 5
 have g6 := S.out.1.2.2.1.frozen 6
 have g7 := S.out.1.2.2.1.frozen 7
 have g8 := S.out.1.2.2.1.frozen 8
 have g9 := S.out.1.2.2.1.frozen 9
 have g10 := S.out.1.2.2.1.frozen 10
 have g11 := S.out.1.2.2.1.frozen 11
 have HG := h! S.out.1.2.2.2.1
 have HB := h! S.out.1.2.2.2.2
 have HRow := h! S.out.2.2.2
 clear S
 go_wp2_with fail
 refine bodyPost_ret (v := .agg #[.int .u8 (RM.fk l), .int .i64 0, .slice none 0 0, .int .i64 0, .string ⟨#[]⟩, .string ⟨#[]⟩, .int .i64 (RM.gt (RM.f1 l)).1, .int .i64 (RM.gt (RM.gt (RM.f1 l)).2).1, .slice none 0 0, .int .i64 0, .int .i64 0, .int .i64 0]) (by simp [results, Tryz.results100, go_sem, d0, d1, d2, d3, d4, d5, d6, d7, d8, d9, d10, d11]; try rfl) rfl ?_
 unfold FrontPost
 rw [HE.out]
 have hrow := HRow.out.put12 (show g + 1 < g + 1 + 1 + 1 by omega) (.int .u8 (RM.fk l)) (.int .i64 0) (.slice none 0 0) (.int .i64 0) (.string ⟨#[]⟩) (.string ⟨#[]⟩) (.int .i64 (RM.gt (RM.f1 l)).1) (.int .i64 (RM.gt (RM.gt (RM.f1 l)).2).1) (.slice none 0 0) (.int .i64 0) (.int .i64 0) (.int .i64 0)
 refine ⟨_, rfl, ⟨none, 0, none, 0, ?_, RowGe.none _ _, RowGe.none _ _⟩, put12_below HB.out (by rw [← HG.out]; omega) (.int .u8 (RM.fk l)) (.int .i64 0) (.slice none 0 0) (.int .i64 0) (.string ⟨#[]⟩) (.string ⟨#[]⟩) (.int .i64 (RM.gt (RM.f1 l)).1) (.int .i64 (RM.gt (RM.gt (RM.f1 l)).2).1) (.slice none 0 0) (.int .i64 0) (.int .i64 0) (.int .i64 0)⟩
 rw [HK.out]; try simp only [ccells, CM.mz, zsl, List.length_nil]
 try rfl
end CP
end Go.Proofs.YteebeiaokfenmaaGreat
