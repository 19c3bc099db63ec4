/- Contracts of functions, P08: each as its theorem says. -/
import Derived.Test.YteebeiaokfenmaaGreatP06
set_option linter.unusedVariables false
set_option linter.unusedSimpArgs false
set_option maxRecDepth 100000
set_option maxHeartbeats 16000000
namespace Go.Proofs.YteebeiaokfenmaaGreat
namespace CP
open Go.RowKit
open CM (Mg Cm)
theorem nums_no {v : Value} {many : Nat} {l : List UInt8} {w : World} {b : Nat} (hq : nums many l = none) (hbw : b ≤ w.heap.size) (h : BsIs w b v l) (hm : many ≤ 4) (hm1 : 1 ≤ many) :
  Calls Tryz.prog 141 #[v, .int .i64 many] w fun e w' => e = .returned (.tuple #[.slice none 0 0, .slice none 0 0, .bool false]) ∧ Below w.heap.size w w' := by
 refine (numbers12_any v many l w b hbw h hm hm1).mono ?_
 rintro e w' ⟨hb, ⟨_, rfl⟩ | ⟨xs, r, bl, d, v', ho, _⟩⟩
 ·exact ⟨rfl, hb⟩
 ·rw [hq] at ho; cases ho
theorem nums_yes {v : Value} {many : Nat} {l r : List UInt8} {xs : List Nat} {w : World} {b : Nat} (hq : nums many l = some (xs, r)) (hbw : b ≤ w.heap.size) (h : BsIs w b v l) (hm : many ≤ 4) (hm1 : 1 ≤ many) :
  Calls Tryz.prog 141 #[v, .int .i64 many] w fun e w' => ∃ bl d v', e = .returned (.tuple #[.slice (some ⟨bl, 0, none⟩) xs.length d, v', .bool true]) ∧ RowN w' w.heap.size bl xs ∧ BsIs w' b v' r ∧ Below w.heap.size w w' := by
 refine (numbers12_any v many l w b hbw h hm hm1).mono ?_
 rintro e w' ⟨hb, ⟨ho, rfl⟩ | ⟨xs', r', bl, d, v', ho, rfl, h1, h2⟩⟩
 ·rw [hq] at ho; cases ho
 ·rw [hq] at ho
  simp only [Option.some.injEq, Prod.mk.injEq] at ho
  obtain ⟨rfl, rfl⟩ := ho
  exact ⟨bl, d, v', rfl, h1, h2, hb⟩
theorem list_no {v : Value} {most : Nat} {l : List UInt8} {w : World} {b : Nat} (hq : CM.lst most l = none) (h : BsIs w b v l) (hm : most ≤ 4096) :
  Calls Tryz.prog 142 #[v, .int .i64 most] w fun e w' => e = .returned (.tuple #[.slice none 0 0, .slice none 0 0, .bool false]) ∧ Below w.heap.size w w' := by
 refine (list12_any v most l w b h hm).mono ?_
 rintro e w' ⟨hb, ⟨_, rfl⟩ | ⟨xs, r, B, d, v', ho, _⟩⟩
 ·exact ⟨rfl, hb⟩
 ·rw [hq] at ho; cases ho
theorem list_yes {v : Value} {most : Nat} {l r : List UInt8} {xs : List Nat} {w : World} {b : Nat} (hq : CM.lst most l = some (xs, r)) (h : BsIs w b v l) (hm : most ≤ 4096) :
  Calls Tryz.prog 142 #[v, .int .i64 most] w fun e w' => ∃ B d v', e = .returned (.tuple #[.slice B (CM.zs xs).length d, v', .bool true]) ∧ RowGe w' w.heap.size B d (CM.zs xs) ∧ BsIs w' b v' r ∧ Below w.heap.size w w' := by
 refine (list12_any v most l w b h hm).mono ?_
 rintro e w' ⟨hb, ⟨ho, rfl⟩ | ⟨xs', r', B, d, v', ho, rfl, h1, h2⟩⟩
 ·rw [hq] at ho; cases ho
 ·rw [hq] at ho
  simp only [Option.some.injEq, Prod.mk.injEq] at ho
  obtain ⟨rfl, rfl⟩ := ho
  exact ⟨B, d, v', by rw [zs_len], h1, h2, hb⟩
theorem texts_no {v : Value} {l : List UInt8} {w : World} {b : Nat} (hq : tx2 l = none) (h : BsIs w b v l) :
  Calls Tryz.prog 143 #[v] w fun e w' => e = .returned (.tuple #[.string .empty, .string .empty, .slice none 0 0, .bool false]) ∧ Below w.heap.size w w' := by
 refine (texts12_any v l w b h).mono ?_
 rintro e w' ⟨hb, ⟨_, rfl⟩ | ⟨s, t, r, v', ho, _⟩⟩
 ·exact ⟨rfl, hb⟩
 ·rw [hq] at ho; cases ho
theorem texts_yes {v : Value} {l r s t : List UInt8} {w : World} {b : Nat} (hq : tx2 l = some ((s, t), r)) (h : BsIs w b v l) :
  Calls Tryz.prog 143 #[v] w fun e w' => ∃ v', e = .returned (.tuple #[.string ⟨s.toArray⟩, .string ⟨t.toArray⟩, v', .bool true]) ∧ BsIs w' b v' r ∧ Below w.heap.size w w' := by
 refine (texts12_any v l w b h).mono ?_
 rintro e w' ⟨hb, ⟨ho, rfl⟩ | ⟨s', t', r', v', ho, rfl, h2⟩⟩
 ·rw [hq] at ho; cases ho
 ·rw [hq] at ho
  simp only [Option.some.injEq, Prod.mk.injEq] at ho
  obtain ⟨⟨rfl, rfl⟩, rfl⟩ := ho
  exact ⟨v', rfl, h2, hb⟩
theorem nums1 (l : List UInt8) : nums 1 l = (CM.nm l).bind fun a => some ([a.1], a.2) := by
 show ((CM.nm l).bind fun a => (nums 0 a.2).bind fun r => some (a.1 :: r.1, r.2)) = _
 rfl
theorem nums2 (l : List UInt8) : nums 2 l = (CM.nm l).bind fun a => (CM.nm a.2).bind fun c => some ([a.1, c.1], c.2) := by
 show ((CM.nm l).bind fun a => (nums 1 a.2).bind fun r => some (a.1 :: r.1, r.2)) = _
 congr; funext a; rw [nums1]; cases CM.nm a.2 <;> rfl
theorem nums3 (l : List UInt8) : nums 3 l = (CM.nm l).bind fun a => (CM.nm a.2).bind fun c => (CM.nm c.2).bind fun d => some ([a.1, c.1, d.1], d.2) := by
 show ((CM.nm l).bind fun a => (nums 2 a.2).bind fun r => some (a.1 :: r.1, r.2)) = _
 congr; funext a; rw [nums2]; rcases CM.nm a.2 with _ | ⟨c, r⟩
 ·rfl
 ·simp only [Option.bind_some]; cases CM.nm r <;> rfl
theorem nums4 (l : List UInt8) : nums 4 l = (CM.nm l).bind fun a => (CM.nm a.2).bind fun c => (CM.nm c.2).bind fun d => (CM.nm d.2).bind fun e => some ([a.1, c.1, d.1, e.1], e.2) := by
 show ((CM.nm l).bind fun a => (nums 3 a.2).bind fun r => some (a.1 :: r.1, r.2)) = _
 congr; funext a; rw [nums3]; rcases CM.nm a.2 with _ | ⟨c, r⟩
 ·rfl
 ·simp only [Option.bind_some]
  rcases CM.nm r with _ | ⟨d, r2⟩
  ·rfl
  ·simp only [Option.bind_some]; cases CM.nm r2 <;> rfl
def Pa (w0 w : World) (g : Nat) (X : Array Value) : Prop := Box w w0.heap.size 91 #[.int .u8 0, .int .i64 0, .slice none 0 0, .int .i64 0, .string ⟨#[]⟩, .string ⟨#[]⟩, .int .i64 0, .int .i64 0, .slice none 0 0, .int .i64 0, .int .i64 0, .int .i64 0] ∧ Box w g 91 X ∧ w0.heap.size < g ∧ Below w0.heap.size w0 w
section
variable {w0 w w' : World} {g b : Nat} {X : Array Value}
theorem Pa.below (h : Pa w0 w g X) (hb : Below w.heap.size w w') : Pa w0 w' g X := ⟨h.1.below hb h.1.lt, h.2.1.below hb h.2.1.lt, h.2.2.1, bmore h.2.2.2 hb n!⟩
theorem Pa.put (h : Pa w0 w g X) (i : Nat) (v : Value) : Pa w0 (w.setCell ⟨g, i, none⟩ v) g (X.setIfInBounds i v) :=
 ⟨h.1.far (p := ⟨g, i, none⟩) (by have := h.2.2.1; simp; omega) v, h.2.1.stored i v, h.2.2.1, h.2.2.2.setCell (p := ⟨g, i, none⟩) (by have := h.2.2.1; simp; omega) v⟩
theorem pa_new (h : Box w w0.heap.size 91 #[.int .u8 0, .int .i64 0, .slice none 0 0, .int .i64 0, .string ⟨#[]⟩, .string ⟨#[]⟩, .int .i64 0, .int .i64 0, .slice none 0 0, .int .i64 0, .int .i64 0, .int .i64 0]) (hb : Below w0.heap.size w0 w) (X : Array Value) : Pa w0 (w.alloc (.cells X 91)) w.heap.size X :=
 ⟨h.alloc _, Box.new w _ _, h.lt, hb.alloc hb.size _⟩
theorem BsIs.put12 {v : Value} {l : List UInt8} (h : BsIs w b v l) (hg : b ≤ g) (a0 a1 a2 a3 a4 a5 a6 a7 a8 a9 a10 a11 : Value) : BsIs (put12 w g a0 a1 a2 a3 a4 a5 a6 a7 a8 a9 a10 a11) b v l := by
 unfold CP.put12
 exact ((((((((((((h.set hg _).set hg _).set hg _).set hg _).set hg _).set hg _).set hg _).set hg _).set hg _).set hg _).set hg _).set hg _)
theorem RowGe.put12p {A : Option Addr} {c : Nat} {L : List Int} (hr : RowGe w b A c L) (hg : g < b) (a0 a1 a2 a3 a4 a5 a6 a7 a8 a9 a10 a11 : Value) : RowGe (CP.put12 w g a0 a1 a2 a3 a4 a5 a6 a7 a8 a9 a10 a11) b A c L := by
 unfold CP.put12
 exact ((((((((((((hr.set hg _).set hg _).set hg _).set hg _).set hg _).set hg _).set hg _).set hg _).set hg _).set hg _).set hg _).set hg _)
end
def ParseIs (o : Option (Cm × List UInt8)) (w : World) (e : Ending) (w' : World) : Prop :=
 Below w.heap.size w w' ∧ ((o = none ∧ ∃ A c B d x u, e = .returned (.tuple #[.agg (ccells A c B d x), u, .bool false])) ∨
  ∃ x r v u, o = some (x, r) ∧ e = .returned (.tuple #[v, u, .bool true]) ∧ CmGe w' w.heap.size v x ∧ CmFit x ∧ BsIs w' w.heap.size u r)
theorem nm_le {l r : List UInt8} {n : Nat} (h : CM.nm l = some (n, r)) : n ≤ 1099511627776 := (CM.enc_nm h).1
theorem i64_nat {n : Nat} (h : n ≤ 1099511627776) : i64In (n : Int) := by unfold i64In; omega
theorem i64_zero : i64In 0 := by unfold i64In; omega
theorem mz_fit : MgFit CM.mz := ⟨i64_zero, i64_zero, Nat.zero_le _, Nat.zero_le _⟩
theorem tx_size {l r s : List UInt8} (h : CM.tx l = some (s, r)) : (⟨s.toArray⟩ : ByteArray).size ≤ maxLen := by
 have := (CM.text_tx h).1
 show s.toArray.size ≤ _
 unfold maxLen
 simp
 omega
theorem parse_none (v : Value) (l : List UInt8) (w : World) (h : BsIs w w.heap.size v l) (hk : nums 1 l = none) (ho : CM.parse l = none) :
  Calls Tryz.prog 113 #[v] w (ParseIs (CM.parse l) w) := by
 have HX := h! (Box.new w 91 #[.int .u8 0, .int .i64 0, .slice none 0 0, .int .i64 0, .string ⟨#[]⟩, .string ⟨#[]⟩, .int .i64 0, .int .i64 0, .slice none 0 0, .int .i64 0, .int .i64 0, .int .i64 0])
 have hb0 : Below w.heap.size w (w.alloc (.cells #[.int .u8 0, .int .i64 0, .slice none 0 0, .int .i64 0, .string ⟨#[]⟩, .string ⟨#[]⟩, .int .i64 0, .int .i64 0, .slice none 0 0, .int .i64 0, .int .i64 0, .int .i64 0] 91)) := b!
 have HV := h! (h.below hb0)
 have HB := h! hb0
 clear h hb0
 have HO := h! ho
 have HK := h! hk
 clear ho hk
 generalize CM.parse l = oo at HO ⊢
 go_enter Tryz.func113, Tryz.ntmps113
 go_upto_region 1 with (fail)
 generalize w.alloc (.cells #[.int .u8 0, .int .i64 0, .slice none 0 0, .int .i64 0, .string ⟨#[]⟩, .string ⟨#[]⟩, .int .i64 0, .int .i64 0, .slice none 0 0, .int .i64 0, .int .i64 0, .int .i64 0] 91) = w1 at HX HV HB ⊢
 have HW := h! (Nat.le_of_lt HX.out.lt)
 go_wp2_with fail
 refine (nums_no HK.out HW.out HV.out (by omega) (by omega)).mono ?_
 rintro e w2 ⟨rfl, hb⟩
 have HX2 := h! (HX.out.below hb HX.out.lt)
 have HB2 := h! (bmore HB.out hb n!)
 clear HX HB HW HV HK hb
 obtain ⟨d0, d1, d2, d3, d4, d5, d6, d7, d8, d9, d10, d11⟩ := box_cm HX2.out
 have g0 := HX2.out.frozen 0
 have g1 := HX2.out.frozen 1
 have g2 := HX2.out.frozen 2
 have g3 := HX2.out.frozen 3
 have g4 := HX2.out.frozen 4
 have g5 := HX2.out.frozen 5
 have g6 := HX2.out.frozen 6
 have g7 := HX2.out.frozen 7
 have g8 := HX2.out.frozen 8
 have g9 := HX2.out.frozen 9
 have g10 := HX2.out.frozen 10
 have g11 := HX2.out.frozen 11
 go_wp2_with fail
 refine bodyPost_ret (v := .tuple #[.agg #[.int .u8 0, .int .i64 0, .slice none 0 0, .int .i64 0, .string ⟨#[]⟩, .string ⟨#[]⟩, .int .i64 0, .int .i64 0, .slice none 0 0, .int .i64 0, .int .i64 0, .int .i64 0], .slice none 0 0, .bool false]) (by simp [results, Tryz.results113, go_sem, d0, d1, d2, d3, d4, d5, d6, d7, d8, d9, d10, d11]; try rfl) rfl ?_
 exact ⟨put12_below HB2.out n! (.int .u8 0) (.int .i64 0) (.slice none 0 0) (.int .i64 0) (.string ⟨#[]⟩) (.string ⟨#[]⟩) (.int .i64 0) (.int .i64 0) (.slice none 0 0) (.int .i64 0) (.int .i64 0) (.int .i64 0), .inl ⟨HO.out, none, 0, none, 0, CM.zero, _, rfl⟩⟩
theorem parse_big (v : Value) (l : List UInt8) (w : World) (h : BsIs w w.heap.size v l) (r0 : List UInt8) (kk : Nat) (h6 : 6 < kk) (hk : nums 1 l = some ([kk], r0)) (ho : CM.parse l = none) :
  Calls Tryz.prog 113 #[v] w (ParseIs (CM.parse l) w) := by
 have HX := h! (Box.new w 91 #[.int .u8 0, .int .i64 0, .slice none 0 0, .int .i64 0, .string ⟨#[]⟩, .string ⟨#[]⟩, .int .i64 0, .int .i64 0, .slice none 0 0, .int .i64 0, .int .i64 0, .int .i64 0])
 have hb0 : Below w.heap.size w (w.alloc (.cells #[.int .u8 0, .int .i64 0, .slice none 0 0, .int .i64 0, .string ⟨#[]⟩, .string ⟨#[]⟩, .int .i64 0, .int .i64 0, .slice none 0 0, .int .i64 0, .int .i64 0, .int .i64 0] 91)) := b!
 have HV := h! (h.below hb0)
 have HB := h! hb0
 clear h hb0
 have HO := h! ho
 have HK := h! hk
 clear ho hk
 generalize CM.parse l = oo at HO ⊢
 go_enter Tryz.func113, Tryz.ntmps113
 go_upto_region 1 with (fail)
 generalize w.alloc (.cells #[.int .u8 0, .int .i64 0, .slice none 0 0, .int .i64 0, .string ⟨#[]⟩, .string ⟨#[]⟩, .int .i64 0, .int .i64 0, .slice none 0 0, .int .i64 0, .int .i64 0, .int .i64 0] 91) = w1 at HX HV HB ⊢
 have HW := h! (Nat.le_of_lt HX.out.lt)
 go_wp2_with fail
 refine (nums_yes HK.out HW.out HV.out (by omega) (by omega)).mono ?_
 rintro e w2 ⟨bl, dd, v0, rfl, hrow, hv, hb⟩
 have y0 := hrow.2.2 0 _ rfl
 simp at y0
 have HX2 := h! (HX.out.below hb HX.out.lt)
 have HB2 := h! (bmore HB.out hb n!)
 have HV2 := h! hv
 clear HX HB HW HV HK hb hrow hv
 have h6i : (6 : Int) < (kk : Int) := by omega
 obtain ⟨d0, d1, d2, d3, d4, d5, d6, d7, d8, d9, d10, d11⟩ := box_cm HX2.out
 have g0 := HX2.out.frozen 0
 have g1 := HX2.out.frozen 1
 have g2 := HX2.out.frozen 2
 have g3 := HX2.out.frozen 3
 have g4 := HX2.out.frozen 4
 have g5 := HX2.out.frozen 5
 have g6 := HX2.out.frozen 6
 have g7 := HX2.out.frozen 7
 have g8 := HX2.out.frozen 8
 have g9 := HX2.out.frozen 9
 have g10 := HX2.out.frozen 10
 have g11 := HX2.out.frozen 11
 go_wp2_with fail
 refine bodyPost_ret (v := .tuple #[.agg #[.int .u8 0, .int .i64 0, .slice none 0 0, .int .i64 0, .string ⟨#[]⟩, .string ⟨#[]⟩, .int .i64 0, .int .i64 0, .slice none 0 0, .int .i64 0, .int .i64 0, .int .i64 0], .slice none 0 0, .bool false]) (by simp [results, Tryz.results113, go_sem, d0, d1, d2, d3, d4, d5, d6, d7, d8, d9, d10, d11]; try rfl) rfl ?_
 exact ⟨put12_below HB2.out n! (.int .u8 0) (.int .i64 0) (.slice none 0 0) (.int .i64 0) (.string ⟨#[]⟩) (.string ⟨#[]⟩) (.int .i64 0) (.int .i64 0) (.slice none 0 0) (.int .i64 0) (.int .i64 0) (.int .i64 0), .inl ⟨HO.out, none, 0, none, 0, CM.zero, _, rfl⟩⟩
theorem parse_0 (v : Value) (l : List UInt8) (w : World) (h : BsIs w w.heap.size v l) (r0 : List UInt8) (hk : nums 1 l = some ([0], r0)) (ho : CM.parse l = some (CM.zero, r0)) :
  Calls Tryz.prog 113 #[v] w (ParseIs (CM.parse l) w) := by
 have HX := h! (Box.new w 91 #[.int .u8 0, .int .i64 0, .slice none 0 0, .int .i64 0, .string ⟨#[]⟩, .string ⟨#[]⟩, .int .i64 0, .int .i64 0, .slice none 0 0, .int .i64 0, .int .i64 0, .int .i64 0])
 have hb0 : Below w.heap.size w (w.alloc (.cells #[.int .u8 0, .int .i64 0, .slice none 0 0, .int .i64 0, .string ⟨#[]⟩, .string ⟨#[]⟩, .int .i64 0, .int .i64 0, .slice none 0 0, .int .i64 0, .int .i64 0, .int .i64 0] 91)) := b!
 have HV := h! (h.below hb0)
 have HB := h! hb0
 clear h hb0
 have HO := h! ho
 have HK := h! hk
 clear ho hk
 generalize CM.parse l = oo at HO ⊢
 go_enter Tryz.func113, Tryz.ntmps113
 go_upto_region 1 with (fail)
 generalize w.alloc (.cells #[.int .u8 0, .int .i64 0, .slice none 0 0, .int .i64 0, .string ⟨#[]⟩, .string ⟨#[]⟩, .int .i64 0, .int .i64 0, .slice none 0 0, .int .i64 0, .int .i64 0, .int .i64 0] 91) = w1 at HX HV HB ⊢
 have HW := h! (Nat.le_of_lt HX.out.lt)
 go_wp2_with fail
 refine (nums_yes HK.out HW.out HV.out (by omega) (by omega)).mono ?_
 rintro e w2 ⟨bl, dd, v0, rfl, hrow, hv, hb⟩
 have y0 := hrow.2.2 0 _ rfl
 simp at y0
 have HX2 := h! (HX.out.below hb HX.out.lt)
 have HB2 := h! (bmore HB.out hb n!)
 have HV2 := h! hv
 clear HX HB HW HV HK hb hrow hv
 go_upto_region 5 with (fail)
 clear y0
 have S := h! (pa_new HX2.out HB2.out #[.int .u8 0, .int .i64 0, .slice none 0 0, .int .i64 0, .string ⟨#[]⟩, .string ⟨#[]⟩, .int .i64 0, .int .i64 0, .slice none 0 0, .int .i64 0, .int .i64 0, .int .i64 0])
 have HV := h! (HV2.out.below (show Below w2.heap.size w2 (w2.alloc (.cells #[.int .u8 0, .int .i64 0, .slice none 0 0, .int .i64 0, .string ⟨#[]⟩, .string ⟨#[]⟩, .int .i64 0, .int .i64 0, .slice none 0 0, .int .i64 0, .int .i64 0, .int .i64 0] 91)) from (Below.refl _ _).alloc n! _))
 generalize w2.alloc (.cells #[.int .u8 0, .int .i64 0, .slice none 0 0, .int .i64 0, .string ⟨#[]⟩, .string ⟨#[]⟩, .int .i64 0, .int .i64 0, .slice none 0 0, .int .i64 0, .int .i64 0, .int .i64 0] 91) = w4 at S HV ⊢
 generalize w2.heap.size = g at S ⊢
 clear HX2 HB2 HV2
 obtain ⟨c0, c1, c2, c3, c4, c5, c6, c7, c8, c9, c10, c11⟩ := box_cm S.out.2.1
 obtain ⟨d0, d1, d2, d3, d4, d5, d6, d7, d8, d9, d10, d11⟩ := box_cm S.out.1
 have g0 := S.out.1.frozen 0
 have g1 := S.out.1.frozen 1
 have g2 := S.out.1.frozen 2
 have g3 := S.out.1.frozen 3
 have g4 := S.out.1.frozen 4
 have g5 := S.out.1.frozen 5
 have g6 := S.out.1.frozen 6
 have g7 := S.out.1.frozen 7
 have g8 := S.out.1.frozen 8
 have g9 := S.out.1.frozen 9
 have g10 := S.out.1.frozen 10
 have g11 := S.out.1.frozen 11
 have HBF := h! S.out.2.2.2
 clear S
 go_wp2_with fail
 refine bodyPost_ret (v := .tuple #[.agg #[.int .u8 0, .int .i64 0, .slice none 0 0, .int .i64 0, .string ⟨#[]⟩, .string ⟨#[]⟩, .int .i64 0, .int .i64 0, .slice none 0 0, .int .i64 0, .int .i64 0, .int .i64 0], v0, .bool true]) (by simp [results, Tryz.results113, go_sem, d0, d1, d2, d3, d4, d5, d6, d7, d8, d9, d10, d11]; try rfl) rfl ?_
 exact ⟨put12_below HBF.out n! (.int .u8 0) (.int .i64 0) (.slice none 0 0) (.int .i64 0) (.string ⟨#[]⟩) (.string ⟨#[]⟩) (.int .i64 0) (.int .i64 0) (.slice none 0 0) (.int .i64 0) (.int .i64 0) (.int .i64 0), .inr ⟨CM.zero, r0, _, _, HO.out, rfl, ⟨none, 0, none, 0, rfl, RowGe.none _ _, RowGe.none _ _⟩, ⟨⟨Int.le_refl _, by show (0 : Int) ≤ 255; omega⟩, mz_fit, i64_zero, i64_zero, i64_zero, i64_zero, i64_zero⟩, HV.out.put12 n! (.int .u8 0) (.int .i64 0) (.slice none 0 0) (.int .i64 0) (.string ⟨#[]⟩) (.string ⟨#[]⟩) (.int .i64 0) (.int .i64 0) (.slice none 0 0) (.int .i64 0) (.int .i64 0) (.int .i64 0)⟩⟩
end CP
end Go.Proofs.YteebeiaokfenmaaGreat
