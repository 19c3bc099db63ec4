/-
  What package record's front answers: the record that a text begins with. Conditions: the slice reads as bytes.
-/
import Derived.Test.YtohiemdodffhoaaRecC
namespace Go.Proofs.Ytohiemdodffhoaa.RP
open Go.RowKit
set_option linter.unusedVariables false
set_option linter.unusedSimpArgs false

/-- the record that front answers -/
def FrontPost (w : World) (l : List UInt8) (e : Ending) (w' : World) : Prop :=
  e = .returned (.agg #[.int .u8 (RM.fk l), .int .i64 (RM.fg l), .int .i64 (RM.fs l), .int .i64 (RM.fb l), .string ⟨(RM.fv l).toArray⟩]) ∧ Below w.heap.size w w'
theorem below_put5 {B g : Nat} {a w : World} (h : Below B a w) (hg : B ≤ g) (x y z u v : Value) : Below B a (((((w.setCell ⟨g, 0, none⟩ x).setCell ⟨g, 1, none⟩ y).setCell ⟨g, 2, none⟩ z).setCell ⟨g, 3, none⟩ u).setCell ⟨g, 4, none⟩ v) :=
  ((((h.setCell (p := ⟨g, 0, none⟩) hg x).setCell (p := ⟨g, 1, none⟩) hg y).setCell (p := ⟨g, 2, none⟩) hg z).setCell (p := ⟨g, 3, none⟩) hg u).setCell (p := ⟨g, 4, none⟩) hg v
theorem fld_b {k : Nat} {y : Bool} (h : Fld (k : Int) true y) : k = 1 ∨ k = 2 := by unfold Fld at h; simp at h; omega
theorem fld_nb {k : Nat} {y : Bool} (h : Fld (k : Int) false y) : ¬ (k = 1 ∨ k = 2) := by unfold Fld at h; simp at h; omega
theorem fld_v {k : Nat} {x : Bool} (h : Fld (k : Int) x true) : k = 2 ∨ k = 3 := by unfold Fld at h; simp at h; omega
theorem fld_nv {k : Nat} {x : Bool} (h : Fld (k : Int) x false) : ¬ (k = 2 ∨ k = 3) := by unfold Fld at h; simp at h; omega

set_option maxRecDepth 100000 in
set_option maxHeartbeats 4000000 in
theorem front_bv (A : Option Addr) (n c : Nat) (l : List UInt8) (w : World) (hr : Rd w A n (bc l)) (h1 : n ≤ c) (h2 : c ≤ maxLen) (hf : Fld (RM.fk l : Nat) true true) :
    Calls Try.prog 61 #[.slice A n c] w (FrontPost w l) := by
  have CF := Lib.hid (fun w => fields_any hf w)
  have S := Lib.hid (fr_new hr h1 h2)
  have hk := Lib.hid (show ((RM.gt l).1 : Int) % 256 = (RM.fk l : Int) by unfold RM.fk; omega)
  have eb := Lib.hid (show RM.fb l = (RM.gt (RM.f3 l)).1 ∧ RM.f4 l = (RM.gt (RM.f3 l)).2 by unfold RM.fb RM.f4; rw [if_pos (fld_b hf), if_pos (fld_b hf)]; exact ⟨rfl, rfl⟩)
  have ev := Lib.hid (show RM.fv l = RM.gs (RM.f4 l) by unfold RM.fv; rw [if_pos (fld_v hf)])
  clear hf hr
  go_enter Try.func61, Try.ntmps61
  go_upto_region 3 with (fail)
  generalize ((w.alloc (.cells #[.slice A n c] 94)).alloc (.cells #[.int .u8 0, .int .i64 0, .int .i64 0, .int .i64 0, .string ⟨#[]⟩] 29)).alloc (.cells #[.int .u8 0, .int .i64 0, .int .i64 0, .int .i64 0, .string ⟨#[]⟩] 29) = w1 at S ⊢
  generalize w.heap.size = g at S ⊢
  go_wp2_with fail
  refine (number_any g l w1 S.out.1).mono ?_
  rintro e w2 ⟨rfl, hn⟩
  replace S := Lib.hid (S.out.num hn); clear hn
  obtain ⟨⟨c0, c1, c2, c3, c4⟩, f0, f1, f2, f3, f4⟩ := box5 S.out.2.1
  go_upto_region 4 with (fail)
  clear c0 c1 c2 c3 c4 f0 f1 f2 f3 f4
  simp only [hk.out]
  replace S := Lib.hid (show Fr w _ g (RM.f1 l) #[.int .u8 (RM.fk l), .int .i64 0, .int .i64 0, .int .i64 0, .string ⟨#[]⟩] from S.out.put 0 (.int .u8 (RM.fk l)))
  generalize w2.setCell ⟨g + 1 + 1, 0, none⟩ (.int .u8 (RM.fk l)) = w1 at S ⊢
  obtain ⟨⟨c0, c1, c2, c3, c4⟩, f0, f1, f2, f3, f4⟩ := box5 S.out.2.1
  go_wp2_with fail
  refine (CF.out _).mono ?_
  rintro e w2 ⟨rfl, rfl⟩
  go_wp2_with fail
  clear c0 c1 c2 c3 c4 f0 f1 f2 f3 f4
  refine (number_any g _ w1 S.out.1).mono ?_
  rintro e w2 ⟨rfl, hn⟩
  replace S := Lib.hid (S.out.num hn); clear hn
  obtain ⟨⟨c0, c1, c2, c3, c4⟩, f0, f1, f2, f3, f4⟩ := box5 S.out.2.1
  go_upto_region 6 with (fail)
  clear c0 c1 c2 c3 c4 f0 f1 f2 f3 f4
  replace S := Lib.hid (show Fr w _ g (RM.f2 l) #[.int .u8 (RM.fk l), .int .i64 (RM.fg l), .int .i64 0, .int .i64 0, .string ⟨#[]⟩] from S.out.put 1 (.int .i64 ((RM.gt (RM.f1 l)).1)))
  generalize w2.setCell ⟨g + 1 + 1, 1, none⟩ (.int .i64 _) = w1 at S ⊢
  obtain ⟨⟨c0, c1, c2, c3, c4⟩, f0, f1, f2, f3, f4⟩ := box5 S.out.2.1
  go_wp2_with fail
  clear c0 c1 c2 c3 c4 f0 f1 f2 f3 f4
  refine (number_any g _ w1 S.out.1).mono ?_
  rintro e w2 ⟨rfl, hn⟩
  replace S := Lib.hid (S.out.num hn); clear hn
  obtain ⟨⟨c0, c1, c2, c3, c4⟩, f0, f1, f2, f3, f4⟩ := box5 S.out.2.1
  go_upto_region 7 with (fail)
  clear c0 c1 c2 c3 c4 f0 f1 f2 f3 f4
  replace S := Lib.hid (show Fr w _ g (RM.f3 l) #[.int .u8 (RM.fk l), .int .i64 (RM.fg l), .int .i64 (RM.fs l), .int .i64 0, .string ⟨#[]⟩] from S.out.put 2 (.int .i64 ((RM.gt (RM.f2 l)).1)))
  generalize w2.setCell ⟨g + 1 + 1, 2, none⟩ (.int .i64 _) = w1 at S ⊢
  obtain ⟨⟨c0, c1, c2, c3, c4⟩, f0, f1, f2, f3, f4⟩ := box5 S.out.2.1
  go_wp2_with fail
  clear c0 c1 c2 c3 c4 f0 f1 f2 f3 f4
  refine (number_any g _ w1 S.out.1).mono ?_
  rintro e w2 ⟨rfl, hn⟩
  replace S := Lib.hid (S.out.num hn); clear hn
  obtain ⟨⟨c0, c1, c2, c3, c4⟩, f0, f1, f2, f3, f4⟩ := box5 S.out.2.1
  go_upto_region 9 with (fail)
  clear c0 c1 c2 c3 c4 f0 f1 f2 f3 f4
  replace S := Lib.hid (show Fr w _ g ((RM.gt (RM.f3 l)).2) #[.int .u8 (RM.fk l), .int .i64 (RM.fg l), .int .i64 (RM.fs l), .int .i64 (RM.gt (RM.f3 l)).1, .string ⟨#[]⟩] from S.out.put 3 (.int .i64 ((RM.gt (RM.f3 l)).1)))
  generalize w2.setCell ⟨g + 1 + 1, 3, none⟩ (.int .i64 _) = w1 at S ⊢
  obtain ⟨⟨c0, c1, c2, c3, c4⟩, f0, f1, f2, f3, f4⟩ := box5 S.out.2.1
  obtain ⟨A2, n2, k2, b, hs⟩ := S.out.1
  have d0 := b.cell 0
  simp at d0
  have hc2 := hs.2.2.1
  unfold maxLen at hc2
  clear b
  go_wp2_with fail
  clear c0 c1 c2 c3 c4 f0 f1 f2 f3 f4 d0
  refine (gt_any A2 n2 k2 _ w1 hs.1 hs.2.1 hs.2.2.1).mono ?_
  rintro e w2 ⟨k3, e3, rfl, rfl⟩
  clear hs hc2
  obtain ⟨⟨c0, c1, c2, c3, c4⟩, f0, f1, f2, f3, f4⟩ := box5 S.out.2.1
  go_upto_region 11 with (fail)
  clear c0 c1 c2 c3 c4 f0 f1 f2 f3 f4
  replace S := Lib.hid (show Fr w _ g ((RM.gt (RM.f3 l)).2) #[.int .u8 (RM.fk l), .int .i64 (RM.fg l), .int .i64 (RM.fs l), .int .i64 (RM.gt (RM.f3 l)).1, .string ⟨(RM.gs ((RM.gt (RM.f3 l)).2)).toArray⟩] from S.out.put 4 (.string ⟨(RM.gs ((RM.gt (RM.f3 l)).2)).toArray⟩))
  generalize World.setCell _ ⟨g + 1 + 1, 4, none⟩ _ = w1 at S ⊢
  obtain ⟨⟨c0, c1, c2, c3, c4⟩, f0, f1, f2, f3, f4⟩ := box5 S.out.2.1
  obtain ⟨⟨d0, d1, d2, d3, d4⟩, g0, g1, g2, g3, g4⟩ := box5 S.out.2.2.1
  obtain ⟨_, _, _, hg, hB⟩ := S.out
  subst hg
  have HB := Lib.hid hB
  clear hB
  go_wp2_with fail
  exact bodyPost_ret (v := .agg #[.int .u8 (RM.fk l), .int .i64 (RM.fg l), .int .i64 (RM.fs l), .int .i64 (RM.gt (RM.f3 l)).1, .string ⟨(RM.gs ((RM.gt (RM.f3 l)).2)).toArray⟩]) (by simp [results, Try.results61, go_sem, d0, d1, d2, d3, d4]; try rfl) rfl ⟨by rw [ev.out, eb.out.2, eb.out.1] <;> rfl, below_put5 HB.out (by omega) _ _ _ _ _⟩
set_option maxRecDepth 100000 in
set_option maxHeartbeats 4000000 in
theorem front_b (A : Option Addr) (n c : Nat) (l : List UInt8) (w : World) (hr : Rd w A n (bc l)) (h1 : n ≤ c) (h2 : c ≤ maxLen) (hf : Fld (RM.fk l : Nat) true false) :
    Calls Try.prog 61 #[.slice A n c] w (FrontPost w l) := by
  have CF := Lib.hid (fun w => fields_any hf w)
  have S := Lib.hid (fr_new hr h1 h2)
  have hk := Lib.hid (show ((RM.gt l).1 : Int) % 256 = (RM.fk l : Int) by unfold RM.fk; omega)
  have eb := Lib.hid (show RM.fb l = (RM.gt (RM.f3 l)).1 ∧ RM.f4 l = (RM.gt (RM.f3 l)).2 by unfold RM.fb RM.f4; rw [if_pos (fld_b hf), if_pos (fld_b hf)]; exact ⟨rfl, rfl⟩)
  have ev := Lib.hid (show RM.fv l = [] by unfold RM.fv; rw [if_neg (fld_nv hf)])
  clear hf hr
  go_enter Try.func61, Try.ntmps61
  go_upto_region 3 with (fail)
  generalize ((w.alloc (.cells #[.slice A n c] 94)).alloc (.cells #[.int .u8 0, .int .i64 0, .int .i64 0, .int .i64 0, .string ⟨#[]⟩] 29)).alloc (.cells #[.int .u8 0, .int .i64 0, .int .i64 0, .int .i64 0, .string ⟨#[]⟩] 29) = w1 at S ⊢
  generalize w.heap.size = g at S ⊢
  go_wp2_with fail
  refine (number_any g l w1 S.out.1).mono ?_
  rintro e w2 ⟨rfl, hn⟩
  replace S := Lib.hid (S.out.num hn); clear hn
  obtain ⟨⟨c0, c1, c2, c3, c4⟩, f0, f1, f2, f3, f4⟩ := box5 S.out.2.1
  go_upto_region 4 with (fail)
  clear c0 c1 c2 c3 c4 f0 f1 f2 f3 f4
  simp only [hk.out]
  replace S := Lib.hid (show Fr w _ g (RM.f1 l) #[.int .u8 (RM.fk l), .int .i64 0, .int .i64 0, .int .i64 0, .string ⟨#[]⟩] from S.out.put 0 (.int .u8 (RM.fk l)))
  generalize w2.setCell ⟨g + 1 + 1, 0, none⟩ (.int .u8 (RM.fk l)) = w1 at S ⊢
  obtain ⟨⟨c0, c1, c2, c3, c4⟩, f0, f1, f2, f3, f4⟩ := box5 S.out.2.1
  go_wp2_with fail
  refine (CF.out _).mono ?_
  rintro e w2 ⟨rfl, rfl⟩
  go_wp2_with fail
  clear c0 c1 c2 c3 c4 f0 f1 f2 f3 f4
  refine (number_any g _ w1 S.out.1).mono ?_
  rintro e w2 ⟨rfl, hn⟩
  replace S := Lib.hid (S.out.num hn); clear hn
  obtain ⟨⟨c0, c1, c2, c3, c4⟩, f0, f1, f2, f3, f4⟩ := box5 S.out.2.1
  go_upto_region 6 with (fail)
  clear c0 c1 c2 c3 c4 f0 f1 f2 f3 f4
  replace S := Lib.hid (show Fr w _ g (RM.f2 l) #[.int .u8 (RM.fk l), .int .i64 (RM.fg l), .int .i64 0, .int .i64 0, .string ⟨#[]⟩] from S.out.put 1 (.int .i64 ((RM.gt (RM.f1 l)).1)))
  generalize w2.setCell ⟨g + 1 + 1, 1, none⟩ (.int .i64 _) = w1 at S ⊢
  obtain ⟨⟨c0, c1, c2, c3, c4⟩, f0, f1, f2, f3, f4⟩ := box5 S.out.2.1
  go_wp2_with fail
  clear c0 c1 c2 c3 c4 f0 f1 f2 f3 f4
  refine (number_any g _ w1 S.out.1).mono ?_
  rintro e w2 ⟨rfl, hn⟩
  replace S := Lib.hid (S.out.num hn); clear hn
  obtain ⟨⟨c0, c1, c2, c3, c4⟩, f0, f1, f2, f3, f4⟩ := box5 S.out.2.1
  go_upto_region 7 with (fail)
  clear c0 c1 c2 c3 c4 f0 f1 f2 f3 f4
  replace S := Lib.hid (show Fr w _ g (RM.f3 l) #[.int .u8 (RM.fk l), .int .i64 (RM.fg l), .int .i64 (RM.fs l), .int .i64 0, .string ⟨#[]⟩] from S.out.put 2 (.int .i64 ((RM.gt (RM.f2 l)).1)))
  generalize w2.setCell ⟨g + 1 + 1, 2, none⟩ (.int .i64 _) = w1 at S ⊢
  obtain ⟨⟨c0, c1, c2, c3, c4⟩, f0, f1, f2, f3, f4⟩ := box5 S.out.2.1
  go_wp2_with fail
  clear c0 c1 c2 c3 c4 f0 f1 f2 f3 f4
  refine (number_any g _ w1 S.out.1).mono ?_
  rintro e w2 ⟨rfl, hn⟩
  replace S := Lib.hid (S.out.num hn); clear hn
  obtain ⟨⟨c0, c1, c2, c3, c4⟩, f0, f1, f2, f3, f4⟩ := box5 S.out.2.1
  go_upto_region 9 with (fail)
  clear c0 c1 c2 c3 c4 f0 f1 f2 f3 f4
  replace S := Lib.hid (show Fr w _ g ((RM.gt (RM.f3 l)).2) #[.int .u8 (RM.fk l), .int .i64 (RM.fg l), .int .i64 (RM.fs l), .int .i64 (RM.gt (RM.f3 l)).1, .string ⟨#[]⟩] from S.out.put 3 (.int .i64 ((RM.gt (RM.f3 l)).1)))
  generalize w2.setCell ⟨g + 1 + 1, 3, none⟩ (.int .i64 _) = w1 at S ⊢
  obtain ⟨⟨c0, c1, c2, c3, c4⟩, f0, f1, f2, f3, f4⟩ := box5 S.out.2.1
  obtain ⟨⟨d0, d1, d2, d3, d4⟩, g0, g1, g2, g3, g4⟩ := box5 S.out.2.2.1
  obtain ⟨_, _, _, hg, hB⟩ := S.out
  subst hg
  have HB := Lib.hid hB
  clear hB
  go_wp2_with fail
  exact bodyPost_ret (v := .agg #[.int .u8 (RM.fk l), .int .i64 (RM.fg l), .int .i64 (RM.fs l), .int .i64 (RM.gt (RM.f3 l)).1, .string ⟨#[]⟩]) (by simp [results, Try.results61, go_sem, d0, d1, d2, d3, d4]; try rfl) rfl ⟨by rw [ev.out, eb.out.1] <;> rfl, below_put5 HB.out (by omega) _ _ _ _ _⟩
set_option maxRecDepth 100000 in
set_option maxHeartbeats 4000000 in
theorem front_v (A : Option Addr) (n c : Nat) (l : List UInt8) (w : World) (hr : Rd w A n (bc l)) (h1 : n ≤ c) (h2 : c ≤ maxLen) (hf : Fld (RM.fk l : Nat) false true) :
    Calls Try.prog 61 #[.slice A n c] w (FrontPost w l) := by
  have CF := Lib.hid (fun w => fields_any hf w)
  have S := Lib.hid (fr_new hr h1 h2)
  have hk := Lib.hid (show ((RM.gt l).1 : Int) % 256 = (RM.fk l : Int) by unfold RM.fk; omega)
  have eb := Lib.hid (show RM.fb l = 0 ∧ RM.f4 l = RM.f3 l by unfold RM.fb RM.f4; rw [if_neg (fld_nb hf), if_neg (fld_nb hf)]; exact ⟨rfl, rfl⟩)
  have ev := Lib.hid (show RM.fv l = RM.gs (RM.f4 l) by unfold RM.fv; rw [if_pos (fld_v hf)])
  clear hf hr
  go_enter Try.func61, Try.ntmps61
  go_upto_region 3 with (fail)
  generalize ((w.alloc (.cells #[.slice A n c] 94)).alloc (.cells #[.int .u8 0, .int .i64 0, .int .i64 0, .int .i64 0, .string ⟨#[]⟩] 29)).alloc (.cells #[.int .u8 0, .int .i64 0, .int .i64 0, .int .i64 0, .string ⟨#[]⟩] 29) = w1 at S ⊢
  generalize w.heap.size = g at S ⊢
  go_wp2_with fail
  refine (number_any g l w1 S.out.1).mono ?_
  rintro e w2 ⟨rfl, hn⟩
  replace S := Lib.hid (S.out.num hn); clear hn
  obtain ⟨⟨c0, c1, c2, c3, c4⟩, f0, f1, f2, f3, f4⟩ := box5 S.out.2.1
  go_upto_region 4 with (fail)
  clear c0 c1 c2 c3 c4 f0 f1 f2 f3 f4
  simp only [hk.out]
  replace S := Lib.hid (show Fr w _ g (RM.f1 l) #[.int .u8 (RM.fk l), .int .i64 0, .int .i64 0, .int .i64 0, .string ⟨#[]⟩] from S.out.put 0 (.int .u8 (RM.fk l)))
  generalize w2.setCell ⟨g + 1 + 1, 0, none⟩ (.int .u8 (RM.fk l)) = w1 at S ⊢
  obtain ⟨⟨c0, c1, c2, c3, c4⟩, f0, f1, f2, f3, f4⟩ := box5 S.out.2.1
  go_wp2_with fail
  refine (CF.out _).mono ?_
  rintro e w2 ⟨rfl, rfl⟩
  go_wp2_with fail
  clear c0 c1 c2 c3 c4 f0 f1 f2 f3 f4
  refine (number_any g _ w1 S.out.1).mono ?_
  rintro e w2 ⟨rfl, hn⟩
  replace S := Lib.hid (S.out.num hn); clear hn
  obtain ⟨⟨c0, c1, c2, c3, c4⟩, f0, f1, f2, f3, f4⟩ := box5 S.out.2.1
  go_upto_region 6 with (fail)
  clear c0 c1 c2 c3 c4 f0 f1 f2 f3 f4
  replace S := Lib.hid (show Fr w _ g (RM.f2 l) #[.int .u8 (RM.fk l), .int .i64 (RM.fg l), .int .i64 0, .int .i64 0, .string ⟨#[]⟩] from S.out.put 1 (.int .i64 ((RM.gt (RM.f1 l)).1)))
  generalize w2.setCell ⟨g + 1 + 1, 1, none⟩ (.int .i64 _) = w1 at S ⊢
  obtain ⟨⟨c0, c1, c2, c3, c4⟩, f0, f1, f2, f3, f4⟩ := box5 S.out.2.1
  go_wp2_with fail
  clear c0 c1 c2 c3 c4 f0 f1 f2 f3 f4
  refine (number_any g _ w1 S.out.1).mono ?_
  rintro e w2 ⟨rfl, hn⟩
  replace S := Lib.hid (S.out.num hn); clear hn
  obtain ⟨⟨c0, c1, c2, c3, c4⟩, f0, f1, f2, f3, f4⟩ := box5 S.out.2.1
  go_upto_region 7 with (fail)
  clear c0 c1 c2 c3 c4 f0 f1 f2 f3 f4
  replace S := Lib.hid (show Fr w _ g (RM.f3 l) #[.int .u8 (RM.fk l), .int .i64 (RM.fg l), .int .i64 (RM.fs l), .int .i64 0, .string ⟨#[]⟩] from S.out.put 2 (.int .i64 ((RM.gt (RM.f2 l)).1)))
  generalize w2.setCell ⟨g + 1 + 1, 2, none⟩ (.int .i64 _) = w1 at S ⊢
  obtain ⟨⟨c0, c1, c2, c3, c4⟩, f0, f1, f2, f3, f4⟩ := box5 S.out.2.1
  obtain ⟨A2, n2, k2, b, hs⟩ := S.out.1
  have d0 := b.cell 0
  simp at d0
  have hc2 := hs.2.2.1
  unfold maxLen at hc2
  clear b
  go_wp2_with fail
  clear c0 c1 c2 c3 c4 f0 f1 f2 f3 f4 d0
  refine (gt_any A2 n2 k2 _ w1 hs.1 hs.2.1 hs.2.2.1).mono ?_
  rintro e w2 ⟨k3, e3, rfl, rfl⟩
  clear hs hc2
  obtain ⟨⟨c0, c1, c2, c3, c4⟩, f0, f1, f2, f3, f4⟩ := box5 S.out.2.1
  go_upto_region 11 with (fail)
  clear c0 c1 c2 c3 c4 f0 f1 f2 f3 f4
  replace S := Lib.hid (show Fr w _ g (RM.f3 l) #[.int .u8 (RM.fk l), .int .i64 (RM.fg l), .int .i64 (RM.fs l), .int .i64 0, .string ⟨(RM.gs (RM.f3 l)).toArray⟩] from S.out.put 4 (.string ⟨(RM.gs (RM.f3 l)).toArray⟩))
  generalize World.setCell _ ⟨g + 1 + 1, 4, none⟩ _ = w1 at S ⊢
  obtain ⟨⟨c0, c1, c2, c3, c4⟩, f0, f1, f2, f3, f4⟩ := box5 S.out.2.1
  obtain ⟨⟨d0, d1, d2, d3, d4⟩, g0, g1, g2, g3, g4⟩ := box5 S.out.2.2.1
  obtain ⟨_, _, _, hg, hB⟩ := S.out
  subst hg
  have HB := Lib.hid hB
  clear hB
  go_wp2_with fail
  exact bodyPost_ret (v := .agg #[.int .u8 (RM.fk l), .int .i64 (RM.fg l), .int .i64 (RM.fs l), .int .i64 0, .string ⟨(RM.gs (RM.f3 l)).toArray⟩]) (by simp [results, Try.results61, go_sem, d0, d1, d2, d3, d4]; try rfl) rfl ⟨by rw [ev.out, eb.out.2, eb.out.1] <;> rfl, below_put5 HB.out (by omega) _ _ _ _ _⟩
set_option maxRecDepth 100000 in
set_option maxHeartbeats 4000000 in
theorem front_n (A : Option Addr) (n c : Nat) (l : List UInt8) (w : World) (hr : Rd w A n (bc l)) (h1 : n ≤ c) (h2 : c ≤ maxLen) (hf : Fld (RM.fk l : Nat) false false) :
    Calls Try.prog 61 #[.slice A n c] w (FrontPost w l) := by
  have CF := Lib.hid (fun w => fields_any hf w)
  have S := Lib.hid (fr_new hr h1 h2)
  have hk := Lib.hid (show ((RM.gt l).1 : Int) % 256 = (RM.fk l : Int) by unfold RM.fk; omega)
  have eb := Lib.hid (show RM.fb l = 0 ∧ RM.f4 l = RM.f3 l by unfold RM.fb RM.f4; rw [if_neg (fld_nb hf), if_neg (fld_nb hf)]; exact ⟨rfl, rfl⟩)
  have ev := Lib.hid (show RM.fv l = [] by unfold RM.fv; rw [if_neg (fld_nv hf)])
  clear hf hr
  go_enter Try.func61, Try.ntmps61
  go_upto_region 3 with (fail)
  generalize ((w.alloc (.cells #[.slice A n c] 94)).alloc (.cells #[.int .u8 0, .int .i64 0, .int .i64 0, .int .i64 0, .string ⟨#[]⟩] 29)).alloc (.cells #[.int .u8 0, .int .i64 0, .int .i64 0, .int .i64 0, .string ⟨#[]⟩] 29) = w1 at S ⊢
  generalize w.heap.size = g at S ⊢
  go_wp2_with fail
  refine (number_any g l w1 S.out.1).mono ?_
  rintro e w2 ⟨rfl, hn⟩
  replace S := Lib.hid (S.out.num hn); clear hn
  obtain ⟨⟨c0, c1, c2, c3, c4⟩, f0, f1, f2, f3, f4⟩ := box5 S.out.2.1
  go_upto_region 4 with (fail)
  clear c0 c1 c2 c3 c4 f0 f1 f2 f3 f4
  simp only [hk.out]
  replace S := Lib.hid (show Fr w _ g (RM.f1 l) #[.int .u8 (RM.fk l), .int .i64 0, .int .i64 0, .int .i64 0, .string ⟨#[]⟩] from S.out.put 0 (.int .u8 (RM.fk l)))
  generalize w2.setCell ⟨g + 1 + 1, 0, none⟩ (.int .u8 (RM.fk l)) = w1 at S ⊢
  obtain ⟨⟨c0, c1, c2, c3, c4⟩, f0, f1, f2, f3, f4⟩ := box5 S.out.2.1
  go_wp2_with fail
  refine (CF.out _).mono ?_
  rintro e w2 ⟨rfl, rfl⟩
  go_wp2_with fail
  clear c0 c1 c2 c3 c4 f0 f1 f2 f3 f4
  refine (number_any g _ w1 S.out.1).mono ?_
  rintro e w2 ⟨rfl, hn⟩
  replace S := Lib.hid (S.out.num hn); clear hn
  obtain ⟨⟨c0, c1, c2, c3, c4⟩, f0, f1, f2, f3, f4⟩ := box5 S.out.2.1
  go_upto_region 6 with (fail)
  clear c0 c1 c2 c3 c4 f0 f1 f2 f3 f4
  replace S := Lib.hid (show Fr w _ g (RM.f2 l) #[.int .u8 (RM.fk l), .int .i64 (RM.fg l), .int .i64 0, .int .i64 0, .string ⟨#[]⟩] from S.out.put 1 (.int .i64 ((RM.gt (RM.f1 l)).1)))
  generalize w2.setCell ⟨g + 1 + 1, 1, none⟩ (.int .i64 _) = w1 at S ⊢
  obtain ⟨⟨c0, c1, c2, c3, c4⟩, f0, f1, f2, f3, f4⟩ := box5 S.out.2.1
  go_wp2_with fail
  clear c0 c1 c2 c3 c4 f0 f1 f2 f3 f4
  refine (number_any g _ w1 S.out.1).mono ?_
  rintro e w2 ⟨rfl, hn⟩
  replace S := Lib.hid (S.out.num hn); clear hn
  obtain ⟨⟨c0, c1, c2, c3, c4⟩, f0, f1, f2, f3, f4⟩ := box5 S.out.2.1
  go_upto_region 7 with (fail)
  clear c0 c1 c2 c3 c4 f0 f1 f2 f3 f4
  replace S := Lib.hid (show Fr w _ g (RM.f3 l) #[.int .u8 (RM.fk l), .int .i64 (RM.fg l), .int .i64 (RM.fs l), .int .i64 0, .string ⟨#[]⟩] from S.out.put 2 (.int .i64 ((RM.gt (RM.f2 l)).1)))
  generalize w2.setCell ⟨g + 1 + 1, 2, none⟩ (.int .i64 _) = w1 at S ⊢
  obtain ⟨⟨c0, c1, c2, c3, c4⟩, f0, f1, f2, f3, f4⟩ := box5 S.out.2.1
  obtain ⟨⟨d0, d1, d2, d3, d4⟩, g0, g1, g2, g3, g4⟩ := box5 S.out.2.2.1
  obtain ⟨_, _, _, hg, hB⟩ := S.out
  subst hg
  have HB := Lib.hid hB
  clear hB
  go_wp2_with fail
  exact bodyPost_ret (v := .agg #[.int .u8 (RM.fk l), .int .i64 (RM.fg l), .int .i64 (RM.fs l), .int .i64 0, .string ⟨#[]⟩]) (by simp [results, Try.results61, go_sem, d0, d1, d2, d3, d4]; try rfl) rfl ⟨by rw [ev.out, eb.out.1] <;> rfl, below_put5 HB.out (by omega) _ _ _ _ _⟩

theorem front_any (A : Option Addr) (n c : Nat) (l : List UInt8) (w : World) (hr : Rd w A n (bc l)) (h1 : n ≤ c) (h2 : c ≤ maxLen) :
    Calls Try.prog 61 #[.slice A n c] w (FrontPost w l) := by
  obtain ⟨x, y, hf⟩ := fld_ex (RM.fk l : Nat)
  cases x <;> cases y
  · exact front_n A n c l w hr h1 h2 hf
  · exact front_v A n c l w hr h1 h2 hf
  · exact front_b A n c l w hr h1 h2 hf
  · exact front_bv A n c l w hr h1 h2 hf
end Go.Proofs.Ytohiemdodffhoaa.RP
