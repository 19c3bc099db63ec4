/- Contracts of functions, L19: each as its theorem says. -/
import Derived.Test.YteebeiaokfenmaaGreatL17
set_option linter.unusedVariables false
set_option linter.unusedSimpArgs false
set_option maxRecDepth 100000
set_option maxHeartbeats 16000000
namespace Go.Proofs.YteebeiaokfenmaaGreat
namespace CP
open Go.RowKit
open CM (Mg Cm)
theorem may12_6 (am : Mg) (aid atm : Int) (ams : List Int) (atp awh an : Int) (A : Option Addr) (c : Nat) (P : Option Addr) (q : Nat) (w : World) (r1 : RowIs w A c am.gs) (r3 : RowIs w P q ams) (hf : MgFit am) :
  Calls Tryz.prog 114 #[.agg #[.int .u8 6, .int .i64 am.id, .slice A am.gs.length c, .int .i64 am.tp, .string am.key, .string am.body, .int .i64 aid, .int .i64 atm, .slice P ams.length q, .int .i64 atp, .int .i64 awh, .int .i64 an]] w (BoolIs (decide (CM.may ⟨6, am, aid, atm, ams, atp, awh, an⟩)) w) := by
 have HNO : Hid (¬ ((am = CM.mz) ∧ (CM.idOk aid) ∧ (atm = 0) ∧ (ams = []) ∧ (0 ≤ atp ∧ atp < 4) ∧ (0 ≤ an ∧ an < 1073741825) ∧ (awh = 0)) → false = decide (CM.may ⟨6, am, aid, atm, ams, atp, awh, an⟩)) := h! (fun h => by rw [decide_eq_false (fun e => h (may_iff6.1 e))])
 have HYES : Hid (((am = CM.mz) ∧ (CM.idOk aid) ∧ (atm = 0) ∧ (ams = []) ∧ (0 ≤ atp ∧ atp < 4) ∧ (0 ≤ an ∧ an < 1073741825) ∧ (awh = 0)) → true = decide (CM.may ⟨6, am, aid, atm, ams, atp, awh, an⟩)) := h! (fun h => by rw [decide_eq_true (may_iff6.2 h)])
 generalize decide (CM.may ⟨6, am, aid, atm, ams, atp, awh, an⟩) = r at HNO HYES ⊢
 have hb0 : Below w.heap.size w (w.alloc (.cells #[.int .u8 6, .int .i64 am.id, .slice A am.gs.length c, .int .i64 am.tp, .string am.key, .string am.body, .int .i64 aid, .int .i64 atm, .slice P ams.length q, .int .i64 atp, .int .i64 awh, .int .i64 an] 91)) := b!
 have S := h! (sameMessage_any am CM.mz (.agg (mcells A c am)) _ _ ⟨A, c, rfl, r1.below hb0⟩ (mz_is _))
 unfold mcells at S
 have HX := h! (Box.new w 91 #[.int .u8 6, .int .i64 am.id, .slice A am.gs.length c, .int .i64 am.tp, .string am.key, .string am.body, .int .i64 aid, .int .i64 atm, .slice P ams.length q, .int .i64 atp, .int .i64 awh, .int .i64 an])
 have HB := h! hb0
 have HL : Hid (ams = [] ↔ ams.length = 0) := h! List.length_eq_zero_iff.symm
 have HM := h! (Nat.le_trans r3.2.1 r3.2.2)
 clear hb0 r1 r3 hf
 go_enter Tryz.func114, Tryz.ntmps114
 go_upto_region 1 with (fail)
 generalize w.alloc (.cells #[.int .u8 6, .int .i64 am.id, .slice A am.gs.length c, .int .i64 am.tp, .string am.key, .string am.body, .int .i64 aid, .int .i64 atm, .slice P ams.length q, .int .i64 atp, .int .i64 awh, .int .i64 an] 91) = w1 at HX HB S ⊢
 have G1 := h! HX.out.lt
 generalize hg0 : w.heap.size = g0 at HX G1 ⊢
 clear hg0
 obtain ⟨x0, x1, x2, x3, x4, x5, x6, x7, x8, x9, x10, x11⟩ := box_cm HX.out
 go_wp2_with fail
 refine (S.out).mono ?_
 rintro e w2 ⟨rfl, hb2⟩
 clear S
 replace HB := h! (HB.out.trans (hb2.mono HB.out.size))
 replace HX := h! (HX.out.below hb2 G1.out)
 replace G1 := h! (Nat.lt_of_lt_of_le G1.out hb2.size)
 clear hb2
 clear x0 x1 x2 x3 x4 x5 x6 x7 x8 x9 x10 x11
 obtain ⟨x0, x1, x2, x3, x4, x5, x6, x7, x8, x9, x10, x11⟩ := box_cm HX.out
 by_cases h0 : am = CM.mz
 rotate_left
 ·have HF := h! (HNO.out (fun h => h0 h.1))
  rw [decide_eq_false h0]
  clear HNO HYES
  go_wp2_with fail
  go_ret
  exact bool_ret HF.out HB.out
 rw [decide_eq_true h0]
 have CI := h! (Id_any aid)
 go_wp2_with fail
 refine (CI.out _).mono ?_
 rintro e wx ⟨rfl, rfl⟩
 clear CI
 by_cases h1 : CM.idOk aid
 rotate_left
 ·have HF := h! (HNO.out (fun h => h1 h.2.1))
  rw [decide_eq_false h1]
  clear HNO HYES
  go_wp2_with fail
  go_ret
  exact bool_ret HF.out HB.out
 rw [decide_eq_true h1]
 by_cases h2 : atm = 0
 rotate_left
 ·have HF := h! (HNO.out (fun h => h2 h.2.2.1))
  have e2 : (atm == 0) = false := by simpa using h2
  clear HNO HYES
  go_wp2_with fail
  go_ret
  exact bool_ret HF.out HB.out
 have e2 : (atm == 0) = true := by simpa using h2
 by_cases h3 : ams = []
 rotate_left
 ·have HF := h! (HNO.out (fun h => h3 h.2.2.2.1))
  have e3 : ((ams.length : Int) == 0) = false := by have := fun e => h3 (HL.out.2 e); simpa using this
  clear HNO HYES
  go_wp2_with fail
  go_ret
  exact bool_ret HF.out HB.out
 have e3 : ((ams.length : Int) == 0) = true := by simpa using h3
 have CI := h! (In_any atp 0 4)
 go_wp2_with fail
 refine (CI.out _).mono ?_
 rintro e wx ⟨rfl, rfl⟩
 clear CI
 by_cases h4 : 0 ≤ atp ∧ atp < 4
 rotate_left
 ·have HF := h! (HNO.out (fun h => h4 h.2.2.2.2.1))
  rw [decide_eq_false h4]
  clear HNO HYES
  go_wp2_with fail
  go_ret
  exact bool_ret HF.out HB.out
 rw [decide_eq_true h4]
 have CI := h! (In_any an 0 1073741825)
 go_wp2_with fail
 refine (CI.out _).mono ?_
 rintro e wx ⟨rfl, rfl⟩
 clear CI
 by_cases h5 : 0 ≤ an ∧ an < 1073741825
 rotate_left
 ·have HF := h! (HNO.out (fun h => h5 h.2.2.2.2.2.1))
  rw [decide_eq_false h5]
  clear HNO HYES
  go_wp2_with fail
  go_ret
  exact bool_ret HF.out HB.out
 rw [decide_eq_true h5]
 by_cases h6 : awh = 0
 rotate_left
 ·have HF := h! (HNO.out (fun h => h6 h.2.2.2.2.2.2))
  have e6 : (awh == 0) = false := by simpa using h6
  clear HNO HYES
  go_wp2_with fail
  go_ret
  exact bool_ret HF.out HB.out
 have e6 : (awh == 0) = true := by simpa using h6
 have HF := h! (HYES.out ⟨h0, h1, h2, h3, h4, h5, h6⟩)
 clear HNO HYES
 go_wp2_with fail
 go_ret
 exact bool_ret HF.out HB.out
theorem may12_k (k : Int) (am : Mg) (aid atm : Int) (ams : List Int) (atp awh an : Int) (A : Option Addr) (c : Nat) (P : Option Addr) (q : Nat) (w : World) (hk : k ≠ 0 ∧ k ≠ 1 ∧ k ≠ 2 ∧ k ≠ 3 ∧ k ≠ 4 ∧ k ≠ 5 ∧ k ≠ 6) (r1 : RowIs w A c am.gs) (r3 : RowIs w P q ams) (hf : MgFit am) :
  Calls Tryz.prog 114 #[.agg #[.int .u8 k, .int .i64 am.id, .slice A am.gs.length c, .int .i64 am.tp, .string am.key, .string am.body, .int .i64 aid, .int .i64 atm, .slice P ams.length q, .int .i64 atp, .int .i64 awh, .int .i64 an]] w (BoolIs (decide (CM.may ⟨k, am, aid, atm, ams, atp, awh, an⟩)) w) := by
 have HA : Hid (false = decide (CM.may ⟨k, am, aid, atm, ams, atp, awh, an⟩)) := h! (by rw [decide_eq_false (may_other hk)])
 generalize decide (CM.may ⟨k, am, aid, atm, ams, atp, awh, an⟩) = r at HA ⊢
 have k0 : (k == 0) = false := by simpa using hk.1
 have k1 : (k == 1) = false := by simpa using hk.2.1
 have k2 : (k == 2) = false := by simpa using hk.2.2.1
 have k3 : (k == 3) = false := by simpa using hk.2.2.2.1
 have k4 : (k == 4) = false := by simpa using hk.2.2.2.2.1
 have k5 : (k == 5) = false := by simpa using hk.2.2.2.2.2.1
 have k6 : (k == 6) = false := by simpa using hk.2.2.2.2.2.2
 clear hk
 have hb0 : Below w.heap.size w (w.alloc (.cells #[.int .u8 k, .int .i64 am.id, .slice A am.gs.length c, .int .i64 am.tp, .string am.key, .string am.body, .int .i64 aid, .int .i64 atm, .slice P ams.length q, .int .i64 atp, .int .i64 awh, .int .i64 an] 91)) := b!
 have S := h! (sameMessage_any am CM.mz (.agg (mcells A c am)) _ _ ⟨A, c, rfl, r1.below hb0⟩ (mz_is _))
 unfold mcells at S
 have HX := h! (Box.new w 91 #[.int .u8 k, .int .i64 am.id, .slice A am.gs.length c, .int .i64 am.tp, .string am.key, .string am.body, .int .i64 aid, .int .i64 atm, .slice P ams.length q, .int .i64 atp, .int .i64 awh, .int .i64 an])
 have HB := h! hb0
 have HL : Hid (ams = [] ↔ ams.length = 0) := h! List.length_eq_zero_iff.symm
 have HM := h! (Nat.le_trans r3.2.1 r3.2.2)
 clear hb0 r1 r3 hf
 go_enter Tryz.func114, Tryz.ntmps114
 go_upto_region 1 with (fail)
 generalize w.alloc (.cells #[.int .u8 k, .int .i64 am.id, .slice A am.gs.length c, .int .i64 am.tp, .string am.key, .string am.body, .int .i64 aid, .int .i64 atm, .slice P ams.length q, .int .i64 atp, .int .i64 awh, .int .i64 an] 91) = w1 at HX HB S ⊢
 have G1 := h! HX.out.lt
 generalize hg0 : w.heap.size = g0 at HX G1 ⊢
 clear hg0
 obtain ⟨x0, x1, x2, x3, x4, x5, x6, x7, x8, x9, x10, x11⟩ := box_cm HX.out
 go_wp2_with fail
 refine (S.out).mono ?_
 rintro e w2 ⟨rfl, hb2⟩
 clear S
 replace HB := h! (HB.out.trans (hb2.mono HB.out.size))
 replace HX := h! (HX.out.below hb2 G1.out)
 replace G1 := h! (Nat.lt_of_lt_of_le G1.out hb2.size)
 clear hb2
 clear x0 x1 x2 x3 x4 x5 x6 x7 x8 x9 x10 x11
 obtain ⟨x0, x1, x2, x3, x4, x5, x6, x7, x8, x9, x10, x11⟩ := box_cm HX.out
 generalize decide (am = CM.mz) = bz
 go_wp2_with fail
 go_ret
 exact bool_ret HA.out HB.out
section
variable {w0 w w' : World} {g f b B h : Nat} {l l' : List UInt8} {R : Array Value} {x1 x2 x3 x4 x5 : Bool} {A : Option Addr} {c : Nat} {L : List Int}
theorem box_keepN {t : TypeId} {cs : Array Value} (hb : Box w h t cs) (hg : h ≠ g) (hk : KeepN w w' g) : Box w' h t cs := by
 obtain ⟨w1, u, h1, rfl⟩ := hk
 exact (hb.below h1 hb.lt).far (p := ⟨g, 0, none⟩) hg u
theorem below_keepN (hb : Below w0.heap.size w0 w) (hg : w0.heap.size ≤ g) (hk : KeepN w w' g) : Below w0.heap.size w0 w' := by
 obtain ⟨w1, u, h1, rfl⟩ := hk
 exact (hb.trans (h1.mono hb.size)).setCell (p := ⟨g, 0, none⟩) hg u
theorem RowGe.keepN (hr : RowGe w b A c L) (hg : g < b) (hk : KeepN w w' g) : RowGe w' b A c L := by
 obtain ⟨w1, u, h1, rfl⟩ := hk
 exact (hr.below h1).set hg u
theorem RowGe.put12 (hr : RowGe w b A c L) (hg : g < b) (a0 a1 a2 a3 a4 a5 a6 a7 a8 a9 a10 a11 : Value) : RowGe (put12 w g a0 a1 a2 a3 a4 a5 a6 a7 a8 a9 a10 a11) b A c L := by
 unfold CP.put12
 exact ((((((((((((hr.set hg _).set hg _).set hg _).set hg _).set hg _).set hg _).set hg _).set hg _).set hg _).set hg _).set hg _).set hg _)
def F0 (w0 w : World) (g : Nat) (l : List UInt8) (R : Array Value) : Prop :=
 NumAt w g l ∧ Box w (g + 1 + 1) 91 R ∧ Box w (g + 1) 91 #[.int .u8 0, .int .i64 0, .slice none 0 0, .int .i64 0, .string ⟨#[]⟩, .string ⟨#[]⟩, .int .i64 0, .int .i64 0, .slice none 0 0, .int .i64 0, .int .i64 0, .int .i64 0] ∧ g = w0.heap.size ∧ Below w0.heap.size w0 w
theorem F0.num (hF : F0 w0 w g l R) (hn : NumAt w' g l') (hk : KeepN w w' g) : F0 w0 w' g l' R :=
 ⟨hn, box_keepN hF.2.1 (by omega) hk, box_keepN hF.2.2.1 (by omega) hk, hF.2.2.2.1, below_keepN hF.2.2.2.2 (by have := hF.2.2.2.1; omega) hk⟩
theorem numAt_far (hn : NumAt w g l) (i h : Nat) (v : Value) (hg : g < h) : NumAt (w.setCell ⟨h, i, none⟩ v) g l := by
 obtain ⟨A, n, c, b, hs⟩ := hn
 exact ⟨A, n, c, b.far (p := ⟨h, i, none⟩) (by simp; omega) v, hs.below ((Below.refl _ _).setCell (p := ⟨h, i, none⟩) (by simp; omega) _)⟩
theorem F0.put (hF : F0 w0 w g l R) (i : Nat) (v : Value) : F0 w0 (w.setCell ⟨g + 1 + 1, i, none⟩ v) g l (R.setIfInBounds i v) :=
 ⟨numAt_far hF.1 i _ v (by omega), hF.2.1.stored i v, hF.2.2.1.far (p := ⟨g + 1 + 1, i, none⟩) (by simp <;> omega) v, hF.2.2.2.1, hF.2.2.2.2.setCell (p := ⟨g + 1 + 1, i, none⟩) (by have := hF.2.2.2.1; simp; omega) _⟩
theorem f0_new {w : World} {A : Option Addr} {n c : Nat} {l : List UInt8} (h : Rd w A n (bc l)) (h1 : n ≤ c) (h2 : c ≤ maxLen) :
  F0 w (((w.alloc (.cells #[.slice A n c] 120)).alloc (.cells #[.int .u8 0, .int .i64 0, .slice none 0 0, .int .i64 0, .string ⟨#[]⟩, .string ⟨#[]⟩, .int .i64 0, .int .i64 0, .slice none 0 0, .int .i64 0, .int .i64 0, .int .i64 0] 91)).alloc (.cells #[.int .u8 0, .int .i64 0, .slice none 0 0, .int .i64 0, .string ⟨#[]⟩, .string ⟨#[]⟩, .int .i64 0, .int .i64 0, .slice none 0 0, .int .i64 0, .int .i64 0, .int .i64 0] 91)) w.heap.size l #[.int .u8 0, .int .i64 0, .slice none 0 0, .int .i64 0, .string ⟨#[]⟩, .string ⟨#[]⟩, .int .i64 0, .int .i64 0, .slice none 0 0, .int .i64 0, .int .i64 0, .int .i64 0] := by
 have b3 := (((Below.refl w.heap.size w).alloc n! (.cells #[.slice A n c] 120)).alloc (by simp) (.cells #[.int .u8 0, .int .i64 0, .slice none 0 0, .int .i64 0, .string ⟨#[]⟩, .string ⟨#[]⟩, .int .i64 0, .int .i64 0, .slice none 0 0, .int .i64 0, .int .i64 0, .int .i64 0] 91)).alloc (by simp; omega) (.cells #[.int .u8 0, .int .i64 0, .slice none 0 0, .int .i64 0, .string ⟨#[]⟩, .string ⟨#[]⟩, .int .i64 0, .int .i64 0, .slice none 0 0, .int .i64 0, .int .i64 0, .int .i64 0] 91)
 exact ⟨⟨A, n, c, ((Box.new w _ _).alloc _).alloc _, (src_new h h1 h2).below b3⟩, Box.new_at _ (by simp), (Box.new_at _ (by simp)).alloc _, rfl, b3⟩
def Fr (w0 w : World) (g f : Nat) (l : List UInt8) (R : Array Value) (x1 x2 x3 x4 x5 : Bool) (A : Option Addr) (c : Nat) (L : List Int) : Prop :=
 F0 w0 w g l R ∧ Box w f 126 #[.bool x1, .bool x2, .bool x3, .bool x4, .bool x5] ∧ g + 1 + 1 < f ∧ RowGe w (g + 1 + 1 + 1) A c L
theorem fr_at (hF : F0 w0 w g l R) (hb : Below w.heap.size w w') (x1 x2 x3 x4 x5 : Bool) : Fr w0 (w'.alloc (.cells #[.bool x1, .bool x2, .bool x3, .bool x4, .bool x5] 126)) g w'.heap.size l R x1 x2 x3 x4 x5 none 0 [] := by
 have hA : Below w.heap.size w (w'.alloc (.cells #[.bool x1, .bool x2, .bool x3, .bool x4, .bool x5] 126)) := hb.alloc hb.size _
 have l2 := hF.2.1.lt
 refine ⟨⟨?_, hF.2.1.below hA hF.2.1.lt, hF.2.2.1.below hA hF.2.2.1.lt, hF.2.2.2.1, bmore hF.2.2.2.2 hA n!⟩, Box.new _ _ _, Nat.lt_of_lt_of_le l2 hb.size, RowGe.none _ _⟩
 obtain ⟨A, n, c, b, hs⟩ := hF.1
 exact ⟨A, n, c, b.below hA b.lt, hs.below (hA.mono (Nat.le_of_lt b.lt))⟩
theorem Fr.num (hF : Fr w0 w g f l R x1 x2 x3 x4 x5 A c L) (hn : NumAt w' g l') (hk : KeepN w w' g) : Fr w0 w' g f l' R x1 x2 x3 x4 x5 A c L :=
 ⟨hF.1.num hn hk, box_keepN hF.2.1 (by have := hF.2.2.1; omega) hk, hF.2.2.1, hF.2.2.2.keepN (by omega) hk⟩
theorem Fr.lst {A' : Option Addr} {c' : Nat} {L' : List Int} (hF : Fr w0 w g f l R x1 x2 x3 x4 x5 A c L) (hn : NumAt w' g l') (hk : KeepN w w' g) (hr : RowGe w' w.heap.size A' c' L') : Fr w0 w' g f l' R x1 x2 x3 x4 x5 A' c' L' :=
 ⟨hF.1.num hn hk, box_keepN hF.2.1 (by have := hF.2.2.1; omega) hk, hF.2.2.1, hr.mono (by have := hF.2.1.lt; have := hF.2.2.1; omega)⟩
theorem Fr.put (hF : Fr w0 w g f l R x1 x2 x3 x4 x5 A c L) (i : Nat) (v : Value) : Fr w0 (w.setCell ⟨g + 1 + 1, i, none⟩ v) g f l (R.setIfInBounds i v) x1 x2 x3 x4 x5 A c L :=
 ⟨hF.1.put i v, hF.2.1.far (p := ⟨g + 1 + 1, i, none⟩) (by have := hF.2.2.1; simp; omega) v, hF.2.2.1, hF.2.2.2.set (by omega) v⟩
end
def FrontPost (w : World) (l : List UInt8) (e : Ending) (w' : World) : Prop := ∃ v, e = .returned v ∧ CmGe w' w.heap.size v (fr l) ∧ Below w.heap.size w w'
theorem zsl (xs : List Nat) : (CM.zs xs).length = xs.length := by simp [CM.zs]
end CP
namespace KP
open Go.RowKit CP TP
open CM (Mg Cm)
open TM (Sp)
open KM (Wt Sk)
open Go.Lib Go.Shelf
theorem run_clear_s {P : Program} (w : World) (t e ty : TypeId) (z : Value) (s : Nat) (ht : P.underlying t = some (.slice e)) (hv : ∀ w, (zeroValue e).run P w = .ok z w) (hz : z.cells.size = s) (hs : 0 < s) (h1 : ∀ v ∈ z.cells, v.oneCell' = true) (b o n c : Nat) (hn : 0 < n)
  (hc : ∀ j, j < n * s → (w.cell? ⟨b, o + j, none⟩).isSome = true) (hf : ∀ j, j < n * s → w.frozen? ⟨b, o + j, none⟩ = false) :
  ∃ zs : List Value, zs.length = n * s ∧ (Builtin.clear_ #[t] ty #[.slice (some ⟨b, o, none⟩) n c]).run P w = .ok (.tuple #[]) (w.setCells b o zs) := by
 have hl : (Builtin.zeroCells z.cells n).toList.length = n * s := by simp [Builtin.zeroCells, hz]
 have hone : ∀ v ∈ (Builtin.zeroCells z.cells n).toList, v.oneCell' = true := by
  intro v hv'
  simp only [Builtin.zeroCells, Array.toList_map, List.mem_map] at hv'
  obtain ⟨i, _, rfl⟩ := hv'
  have hlt : i % z.cells.size < z.cells.size := Nat.mod_lt _ (by omega)
  rw [getElem!_pos z.cells _ hlt]
  exact h1 _ (Array.getElem_mem hlt)
 have hst := run_storeCells_cells (P := P) b o (Builtin.zeroCells z.cells n).toList 0 w (by rw [hl]; simpa using hc) (by rw [hl]; simpa using hf) hone
 simp only [Nat.add_zero] at hst
 obtain ⟨m, rfl⟩ : ∃ m, n = m + 1 := ⟨n - 1, by omega⟩
 refine ⟨_, hl, ?_⟩
 simp [Builtin.clear_, run_underlying ht, hv, hst]
def RowQ (base m : Nat) (xs : List Value) (ob : Option Nat) (w : World) (x : Ending) (w' : World) : Prop :=
 ∃ A c, x = .returned (.slice A m c) ∧ w'.ownsRow base 78 7 (.slice A m c) m xs ∧ w.grownBy w' ob
theorem zero_wait (w : World) : (zeroValue 78).run Tryz.prog w = .ok (.agg #[.int .i64 0, .slice none 0 0, .int .i64 0, .string ⟨#[]⟩, .string ⟨#[]⟩, .int .i64 0, .bool false]) w := by
 obtain ⟨i0, hi, hz0, hz1, hz2⟩ := info_parts info_wt
 simp [zeroValue, typeInfo, hi, hz0]
theorem delW_any (base b n c i : Nat) (xs : List Value) (cur : Array Value) (w : World) (hi : i < n) (hn : n ≤ 2000) (hnc : n ≤ c) (hcm : c ≤ maxLen)
  (hbase : base ≤ b) (hx : Box w b 78 cur) (hsz : cur.size = c * 7) (htk : cur.toList.take (n * 7) = xs) (hl : xs.length = n * 7) (h1 : ∀ u ∈ xs, u.oneCell' = true) :
  Calls Tryz.prog 139 #[.slice (some ⟨b, 0, none⟩) n c, .int .i64 i, .int .i64 ((i : Int) + 1)] w (RowQ base (n - 1) (xs.take (i * 7) ++ xs.drop ((i + 1) * 7)) (some b) w) := by
 obtain ⟨i0, hi0, hz0, hz1, hz2⟩ := info_parts info_wt
 unfold maxLen at hcm
 have hxc : ∀ j v, xs[j]? = some v → w.cell? ⟨b, j, none⟩ = some v := by
  intro j v hj
  have hjl := (List.getElem?_eq_some_iff.1 hj).1
  rw [hx.cell j, ← Array.getElem?_toList, ← hj, ← htk, List.getElem?_take, if_pos (by omega)]
 obtain ⟨news, hnews⟩ : ∃ news, news = xs.drop ((i + 1) * 7) := ⟨_, rfl⟩
 have hdl : news.length = (n - (i + 1)) * 7 := by rw [hnews, List.length_drop, hl]; omega
 obtain ⟨A, hA, hsrc⟩ : ∃ A : Addr, (if c = i + 1 then (some ⟨b, 0, none⟩ : Option Addr) else some ⟨b, (i + 1) * 7, none⟩) = some A ∧ Hid (∀ t u, news[t]? = some u → w.drew.cell? (A.add t) = some u) := by
  by_cases h : c = i + 1
  ·refine ⟨⟨b, 0, none⟩, by simp [h], fun t u hu => ?_⟩
   have h0 : news.length = 0 := by rw [hdl]; have : n - (i + 1) = 0 := (by omega); rw [this]
   rw [List.length_eq_zero_iff.1 h0] at hu
   simp at hu
  ·refine ⟨⟨b, (i + 1) * 7, none⟩, by simp [h], fun t u hu => ?_⟩
   rw [Addr.add_lit]
   exact hxc _ u (by rw [hnews, List.getElem?_drop] at hu; simpa using hu)
 have s1 := h! hdl
 have s2 := h! (show ∀ u ∈ news, u.oneCell' = true from fun u hu => h1 u (List.mem_of_mem_drop (by rw [hnews] at hu; exact hu)))
 have s3 := h! (show ∀ t, t < news.length → (w.drew.cell? ⟨b, 0 + i * 7 + t, none⟩).isSome = true ∧ w.drew.frozen? ⟨b, 0 + i * 7 + t, none⟩ = false from fun t ht =>
  ⟨Box.isSome (w := w.drew) hx (by rw [hdl] at ht; omega), Box.frozen (w := w.drew) hx _⟩)
 obtain ⟨cu1, bx1, e1⟩ := box_setCells news (0 + i * 7) w.drew cur hx (by rw [hdl, hsz]; omega)
 have g1 := grown_setCells b news (0 + i * 7) w.drew
 obtain ⟨W1, hW1⟩ : ∃ W1, W1 = w.drew.setCells b (0 + i * 7) news := ⟨_, rfl⟩
 have HW := h! hW1
 rw [← hW1] at bx1 g1
 clear hW1
 have hsz1 : cu1.size = cur.size := by rw [← Array.length_toList, e1]; simp [hdl]; omega
 have hm : i + (n - (i + 1)) = n - 1 := by omega
 obtain ⟨zs, hzl, hclr⟩ := run_clear_s (P := Tryz.prog) W1 37 78 37 _ 7 Tryz.underlying37 zero_wait rfl (by omega) (by decide) b ((n - 1) * 7) (n - (n - 1)) (c - (n - 1)) (by omega)
  (fun j hj => bx1.isSome (by rw [hsz1, hsz]; omega)) (fun j hj => bx1.frozen _)
 have hcl : ∀ ty, (Builtin.clear_ #[37] ty #[.slice (some ⟨b, (n - 1) * 7, none⟩) (n - (n - 1)) (c - (n - 1))]).run Tryz.prog W1 = .ok (.tuple #[]) (W1.setCells b ((n - 1) * 7) zs) := fun ty => hclr
 obtain ⟨cu2, bx2, e2⟩ := box_setCells zs ((n - 1) * 7) W1 cu1 bx1 (by rw [hzl, hsz1, hsz]; omega)
 have g2 := grown_setCells b zs ((n - 1) * 7) W1
 have hfin : cu2.toList.take ((n - 1) * 7) = xs.take (i * 7) ++ news ∧ cu2.size = c * 7 := by
  have hc1 : cu1.toList.length = c * 7 := by rw [Array.length_toList, hsz1, hsz]
  have hc0 : cur.toList.length = c * 7 := by rw [Array.length_toList, hsz]
  constructor
  ·rw [e2, List.append_assoc, List.take_append_of_le_length (by rw [List.length_take, hc1]; omega), List.take_take, Nat.min_eq_left (by omega), e1, List.take_append_of_le_length (by simp [hc0, hdl]; omega),
    List.take_of_length_le (by simp [hc0, hdl]; omega), ← htk, List.take_take, Nat.min_eq_left (by omega), Nat.zero_add]
  ·rw [← Array.length_toList, e2]; simp [hc1, hzl]; omega
 have hret : RowQ base (n - 1) (xs.take (i * 7) ++ news) (some b) w (.returned (.slice (some ⟨b, 0, none⟩) (n - 1) c)) (W1.setCells b ((n - 1) * 7) zs) := by
  exact ⟨some ⟨b, 0, none⟩, c, rfl, ⟨by simp [hl, hdl]; omega, .inr ⟨b, c, cu2, rfl, hbase, bx2, by omega, by unfold maxLen; omega, hfin.2, hfin.1⟩⟩, grown_more (a := w) ⟨g1.os, g1.tape, g1.output, g1.size, g1.block⟩ g2 (.inl rfl)⟩
 have HRET := h! hret
 rw [← hnews]
 have hic : i ≤ c := by omega
 have hin : i ≤ n := by omega
 have hjc : i + 1 ≤ c := by omega
 have hjn : i + 1 ≤ n := by omega
 have htn : ((i : Int) + 1).toNat = i + 1 := by omega
 have hne : ¬ ((i : Int) = (i : Int) + 1) := by omega
 have hne2 : ((i : Int) == (i : Int) + 1) = false := by simp; omega
 have k1 : (0 : Int) ≤ (i : Int) + 1 := by omega
 have k2 : (i : Int) ≤ (i : Int) + 1 := by omega
 have k3 : (i : Int) + 1 ≤ (n : Int) := by omega
 have k4 : (i : Int) + 1 ≤ (c : Int) := by omega
 have k5 : (n : Int) ≤ (c : Int) := by omega
 have mixed : Tryz.prog.follows Departure.mixedOrders = true := by kernel_rfl
 clear hret hfin bx2 g2 e2 e1 bx1 g1 hsz1 hx hsz htk hxc hdl hnews hclr hzl hl h1
 go_enter Tryz.func139, Tryz.ntmps139
 go_wp2_with fail
 go_region_law_o (refine step_append_room rfl (.tmp 22) (.tmp 25) 37 rfl 78 i0 7 Tryz.underlying37 hi0 hz1 b 0 i c (by simp [Act.eval, Act.put]) A (n - (i + 1)) (c - (i + 1)) news (by simp [Act.eval, Act.put]) s1.out hsrc.out s2.out (by omega) s3.out ?_; rw [← HW.out])
 go_wp2_with fail
 go_ret
 exact HRET.out
end KP
namespace CP
open Go.RowKit
open CM (Mg Cm)
theorem front_0 (A : Option Addr) (n c : Nat) (l : List UInt8) (w : World) (hr : Rd w A n (bc l)) (h1 : n ≤ c) (h2 : c ≤ maxLen) (i : Bool) (hf : Fl (RM.fk l : Nat) false false false false false i) (hk : ¬ RM.fk l = 1 ∧ ¬ RM.fk l = 2 ∧ ¬ RM.fk l = 3 ∧ ¬ RM.fk l = 4 ∧ ¬ (RM.fk l = 5 ∨ RM.fk l = 6)) :
  Calls Tryz.prog 100 #[.slice A n c] w (FrontPost w l) := by
 have CF := h! (fun w => fields_any hf w)
 have S := h! (f0_new hr h1 h2)
 have hm := h! (show ((RM.gt l).1 : Int) % 256 = (RM.fk l : Int) by unfold RM.fk; omega)
 have HE := h! (show fr l = (⟨(RM.fk l : Nat), CM.mz, 0, 0, [], 0, 0, 0⟩ : Cm) by unfold fr frB; rw [if_neg hk.1, if_neg hk.2.1, if_neg hk.2.2.1, if_neg hk.2.2.2.1, if_neg hk.2.2.2.2]; try rfl)
 clear hf hr hk
 go_enter Tryz.func100, Tryz.ntmps100
 go_upto_region 5 with (fail)
 generalize ((w.alloc (.cells #[.slice A n c] 120)).alloc (.cells #[.int .u8 0, .int .i64 0, .slice none 0 0, .int .i64 0, .string ⟨#[]⟩, .string ⟨#[]⟩, .int .i64 0, .int .i64 0, .slice none 0 0, .int .i64 0, .int .i64 0, .int .i64 0] 91)).alloc (.cells #[.int .u8 0, .int .i64 0, .slice none 0 0, .int .i64 0, .string ⟨#[]⟩, .string ⟨#[]⟩, .int .i64 0, .int .i64 0, .slice none 0 0, .int .i64 0, .int .i64 0, .int .i64 0] 91) = w1 at S ⊢
 generalize w.heap.size = g at S ⊢
 go_wp2_with fail
 refine (number_any g l w1 S.out.1).mono ?_
 rintro e w2 ⟨rfl, hn, hk⟩
 replace S := h! (S.out.num hn hk)
 clear hn hk
 have c0 := S.out.2.1.cell 0
 have f0 := S.out.2.1.frozen 0
 simp at c0
 go_upto_region 6 with (fail)
 clear c0 f0
 simp only [hm.out]
 replace S := h! (show F0 w _ g (RM.f1 l) #[.int .u8 (RM.fk l), .int .i64 0, .slice none 0 0, .int .i64 0, .string ⟨#[]⟩, .string ⟨#[]⟩, .int .i64 0, .int .i64 0, .slice none 0 0, .int .i64 0, .int .i64 0, .int .i64 0] from S.out.put 0 (.int .u8 (RM.fk l)))
 generalize w2.setCell ⟨g + 1 + 1, 0, none⟩ (.int .u8 (RM.fk l)) = w1 at S ⊢
 have c0 := S.out.2.1.cell 0
 simp at c0
 go_wp2_with fail
 refine (CF.out _).mono ?_
 rintro e w3 ⟨rfl, hb3⟩
 have S := h! (fr_at S.out hb3 false false false false false)
 clear hb3 CF c0
 go_upto_region 7 with (fail)
 generalize w3.alloc (.cells #[.bool false, .bool false, .bool false, .bool false, .bool false] 126) = w1 at S ⊢
 generalize w3.heap.size = f at S ⊢
 obtain ⟨y0, y1, y2, y3, y4⟩ := box_mg S.out.2.1
 obtain ⟨c0, c1, c2, c3, c4, c5, c6, c7, c8, c9, c10, c11⟩ := box_cm S.out.1.2.1
 obtain ⟨d0, d1, d2, d3, d4, d5, d6, d7, d8, d9, d10, d11⟩ := box_cm S.out.1.2.2.1
 have g0 := S.out.1.2.2.1.frozen 0
 have g1 := S.out.1.2.2.1.frozen 1
 have g2 := S.out.1.2.2.1.frozen 2
 have g3 := S.out.1.2.2.1.frozen 3
 have g4 := S.out.1.2.2.1.frozen 4
 have g5 := S.out.1.2.2.1.frozen 5
 have g6 := S.out.1.2.2.1.frozen 6
 have g7 := S.out.1.2.2.1.frozen 7
 have g8 := S.out.1.2.2.1.frozen 8
 have g9 := S.out.1.2.2.1.frozen 9
 have g10 := S.out.1.2.2.1.frozen 10
 have g11 := S.out.1.2.2.1.frozen 11
 have HG := h! S.out.1.2.2.2.1
 have HB := h! S.out.1.2.2.2.2
 have HRow := h! S.out.2.2.2
 clear S
 go_wp2_with fail
 refine bodyPost_ret (v := .agg #[.int .u8 (RM.fk l), .int .i64 0, .slice none 0 0, .int .i64 0, .string ⟨#[]⟩, .string ⟨#[]⟩, .int .i64 0, .int .i64 0, .slice none 0 0, .int .i64 0, .int .i64 0, .int .i64 0]) (by simp [results, Tryz.results100, go_sem, d0, d1, d2, d3, d4, d5, d6, d7, d8, d9, d10, d11]; try rfl) rfl ?_
 unfold FrontPost
 rw [HE.out]
 have hrow := HRow.out.put12 (show g + 1 < g + 1 + 1 + 1 by omega) (.int .u8 (RM.fk l)) (.int .i64 0) (.slice none 0 0) (.int .i64 0) (.string ⟨#[]⟩) (.string ⟨#[]⟩) (.int .i64 0) (.int .i64 0) (.slice none 0 0) (.int .i64 0) (.int .i64 0) (.int .i64 0)
 refine ⟨_, rfl, ⟨none, 0, none, 0, ?_, RowGe.none _ _, RowGe.none _ _⟩, put12_below HB.out (by rw [← HG.out]; omega) (.int .u8 (RM.fk l)) (.int .i64 0) (.slice none 0 0) (.int .i64 0) (.string ⟨#[]⟩) (.string ⟨#[]⟩) (.int .i64 0) (.int .i64 0) (.slice none 0 0) (.int .i64 0) (.int .i64 0) (.int .i64 0)⟩
 try simp only [ccells, CM.mz, zsl, List.length_nil]
 try rfl
theorem front_1 (A : Option Addr) (n c : Nat) (l : List UInt8) (w : World) (hr : Rd w A n (bc l)) (h1 : n ≤ c) (h2 : c ≤ maxLen) (i : Bool) (hf : Fl (RM.fk l : Nat) true false false false false i) (hk : RM.fk l = 1) :
  Calls Tryz.prog 100 #[.slice A n c] w (FrontPost w l) := by
 have CF := h! (fun w => fields_any hf w)
 have S := h! (f0_new hr h1 h2)
 have hm := h! (show ((RM.gt l).1 : Int) % 256 = (RM.fk l : Int) by unfold RM.fk; omega)
 have HE := h! (show fr l = (⟨1, ⟨(RM.gt (RM.f1 l)).1, (CM.zs (gl 4 (RM.gt (RM.f1 l)).2).1), ((RM.gt (gl 4 (RM.gt (RM.f1 l)).2).2).1 : Nat), ⟨((gx (RM.gt (gl 4 (RM.gt (RM.f1 l)).2).2).2).1).toArray⟩, ⟨((gx (gx (RM.gt (gl 4 (RM.gt (RM.f1 l)).2).2).2).2).1).toArray⟩⟩, 0, 0, [], 0, 0, 0⟩ : Cm) by unfold fr frB; rw [if_pos hk]; try rfl)
 have HK := h! hk
 clear hf hr hk
 go_enter Tryz.func100, Tryz.ntmps100
 go_upto_region 5 with (fail)
 generalize ((w.alloc (.cells #[.slice A n c] 120)).alloc (.cells #[.int .u8 0, .int .i64 0, .slice none 0 0, .int .i64 0, .string ⟨#[]⟩, .string ⟨#[]⟩, .int .i64 0, .int .i64 0, .slice none 0 0, .int .i64 0, .int .i64 0, .int .i64 0] 91)).alloc (.cells #[.int .u8 0, .int .i64 0, .slice none 0 0, .int .i64 0, .string ⟨#[]⟩, .string ⟨#[]⟩, .int .i64 0, .int .i64 0, .slice none 0 0, .int .i64 0, .int .i64 0, .int .i64 0] 91) = w1 at S ⊢
 generalize w.heap.size = g at S ⊢
 go_wp2_with fail
 refine (number_any g l w1 S.out.1).mono ?_
 rintro e w2 ⟨rfl, hn, hk⟩
 replace S := h! (S.out.num hn hk)
 clear hn hk
 have c0 := S.out.2.1.cell 0
 have f0 := S.out.2.1.frozen 0
 simp at c0
 go_upto_region 6 with (fail)
 clear c0 f0
 simp only [hm.out]
 replace S := h! (show F0 w _ g (RM.f1 l) #[.int .u8 (RM.fk l), .int .i64 0, .slice none 0 0, .int .i64 0, .string ⟨#[]⟩, .string ⟨#[]⟩, .int .i64 0, .int .i64 0, .slice none 0 0, .int .i64 0, .int .i64 0, .int .i64 0] from S.out.put 0 (.int .u8 (RM.fk l)))
 generalize w2.setCell ⟨g + 1 + 1, 0, none⟩ (.int .u8 (RM.fk l)) = w1 at S ⊢
 have c0 := S.out.2.1.cell 0
 simp at c0
 go_wp2_with fail
 refine (CF.out _).mono ?_
 rintro e w3 ⟨rfl, hb3⟩
 have S := h! (fr_at S.out hb3 true false false false false)
 clear hb3 CF c0
 go_upto_region 7 with (fail)
 generalize w3.alloc (.cells #[.bool true, .bool false, .bool false, .bool false, .bool false] 126) = w1 at S ⊢
 generalize w3.heap.size = f at S ⊢
 obtain ⟨y0, y1, y2, y3, y4⟩ := box_mg S.out.2.1
 go_wp2_with fail
 clear y0 y1 y2 y3 y4
 refine (number_any g _ _ S.out.1.1).mono ?_
 rintro e w2 ⟨rfl, hn, hk⟩
 replace S := h! (S.out.num hn hk)
 clear hn hk
 have c1 := S.out.1.2.1.cell 1
 have f1 := S.out.1.2.1.frozen 1
 simp at c1
 go_upto_region 9 with (fail)
 clear c1 f1
 replace S := h! (show Fr w _ g f (RM.gt (RM.f1 l)).2 #[.int .u8 (RM.fk l), .int .i64 (RM.gt (RM.f1 l)).1, .slice none 0 0, .int .i64 0, .string ⟨#[]⟩, .string ⟨#[]⟩, .int .i64 0, .int .i64 0, .slice none 0 0, .int .i64 0, .int .i64 0, .int .i64 0] true false false false false none 0 [] from (S.out).put 1 (.int .i64 (RM.gt (RM.f1 l)).1))
 generalize World.setCell _ ⟨g + 1 + 1, 1, none⟩ _ = wz at S ⊢
 obtain ⟨y0, y1, y2, y3, y4⟩ := box_mg S.out.2.1
 go_wp2_with fail
 clear y0 y1 y2 y3 y4
 refine (list_any g 4 _ _ S.out.1.1 (by omega)).mono ?_
 rintro e w2 ⟨B, d, rfl, hrow, hn, hk⟩
 replace S := h! (S.out.lst hn hk hrow)
 clear hn hk hrow
 have c2 := S.out.1.2.1.cell 2
 have f2 := S.out.1.2.1.frozen 2
 simp at c2
 go_upto_region 10 with (fail)
 clear c2 f2
 replace S := h! (show Fr w _ g f (gl 4 (RM.gt (RM.f1 l)).2).2 #[.int .u8 (RM.fk l), .int .i64 (RM.gt (RM.f1 l)).1, .slice B (gl 4 (RM.gt (RM.f1 l)).2).1.length d, .int .i64 0, .string ⟨#[]⟩, .string ⟨#[]⟩, .int .i64 0, .int .i64 0, .slice none 0 0, .int .i64 0, .int .i64 0, .int .i64 0] true false false false false B d (CM.zs (gl 4 (RM.gt (RM.f1 l)).2).1) from (S.out).put 2 (.slice B (gl 4 (RM.gt (RM.f1 l)).2).1.length d))
 generalize World.setCell _ ⟨g + 1 + 1, 2, none⟩ _ = wz at S ⊢
 obtain ⟨y0, y1, y2, y3, y4⟩ := box_mg S.out.2.1
 go_wp2_with fail
 clear y0 y1 y2 y3 y4
 refine (number_any g _ _ S.out.1.1).mono ?_
 rintro e w2 ⟨rfl, hn, hk⟩
 replace S := h! (S.out.num hn hk)
 clear hn hk
 have c3 := S.out.1.2.1.cell 3
 have f3 := S.out.1.2.1.frozen 3
 simp at c3
 go_upto_region 11 with (fail)
 clear c3 f3
 replace S := h! (show Fr w _ g f (RM.gt (gl 4 (RM.gt (RM.f1 l)).2).2).2 #[.int .u8 (RM.fk l), .int .i64 (RM.gt (RM.f1 l)).1, .slice B (gl 4 (RM.gt (RM.f1 l)).2).1.length d, .int .i64 (RM.gt (gl 4 (RM.gt (RM.f1 l)).2).2).1, .string ⟨#[]⟩, .string ⟨#[]⟩, .int .i64 0, .int .i64 0, .slice none 0 0, .int .i64 0, .int .i64 0, .int .i64 0] true false false false false B d (CM.zs (gl 4 (RM.gt (RM.f1 l)).2).1) from (S.out).put 3 (.int .i64 (RM.gt (gl 4 (RM.gt (RM.f1 l)).2).2).1))
 generalize World.setCell _ ⟨g + 1 + 1, 3, none⟩ _ = wz at S ⊢
 obtain ⟨y0, y1, y2, y3, y4⟩ := box_mg S.out.2.1
 go_wp2_with fail
 clear y0 y1 y2 y3 y4
 refine (text_any g _ _ S.out.1.1).mono ?_
 rintro e w2 ⟨rfl, hn, hk⟩
 replace S := h! (S.out.num hn hk)
 clear hn hk
 have c4 := S.out.1.2.1.cell 4
 have f4 := S.out.1.2.1.frozen 4
 simp at c4
 go_upto_region 12 with (fail)
 clear c4 f4
 replace S := h! (show Fr w _ g f (gx (RM.gt (gl 4 (RM.gt (RM.f1 l)).2).2).2).2 #[.int .u8 (RM.fk l), .int .i64 (RM.gt (RM.f1 l)).1, .slice B (gl 4 (RM.gt (RM.f1 l)).2).1.length d, .int .i64 (RM.gt (gl 4 (RM.gt (RM.f1 l)).2).2).1, .string ⟨(gx (RM.gt (gl 4 (RM.gt (RM.f1 l)).2).2).2).1.toArray⟩, .string ⟨#[]⟩, .int .i64 0, .int .i64 0, .slice none 0 0, .int .i64 0, .int .i64 0, .int .i64 0] true false false false false B d (CM.zs (gl 4 (RM.gt (RM.f1 l)).2).1) from (S.out).put 4 (.string ⟨(gx (RM.gt (gl 4 (RM.gt (RM.f1 l)).2).2).2).1.toArray⟩))
 generalize World.setCell _ ⟨g + 1 + 1, 4, none⟩ _ = wz at S ⊢
 obtain ⟨y0, y1, y2, y3, y4⟩ := box_mg S.out.2.1
 go_wp2_with fail
 clear y0 y1 y2 y3 y4
 refine (text_any g _ _ S.out.1.1).mono ?_
 rintro e w2 ⟨rfl, hn, hk⟩
 replace S := h! (S.out.num hn hk)
 clear hn hk
 have c5 := S.out.1.2.1.cell 5
 have f5 := S.out.1.2.1.frozen 5
 simp at c5
 go_upto_region 13 with (fail)
 clear c5 f5
 replace S := h! (show Fr w _ g f (gx (gx (RM.gt (gl 4 (RM.gt (RM.f1 l)).2).2).2).2).2 #[.int .u8 (RM.fk l), .int .i64 (RM.gt (RM.f1 l)).1, .slice B (gl 4 (RM.gt (RM.f1 l)).2).1.length d, .int .i64 (RM.gt (gl 4 (RM.gt (RM.f1 l)).2).2).1, .string ⟨(gx (RM.gt (gl 4 (RM.gt (RM.f1 l)).2).2).2).1.toArray⟩, .string ⟨(gx (gx (RM.gt (gl 4 (RM.gt (RM.f1 l)).2).2).2).2).1.toArray⟩, .int .i64 0, .int .i64 0, .slice none 0 0, .int .i64 0, .int .i64 0, .int .i64 0] true false false false false B d (CM.zs (gl 4 (RM.gt (RM.f1 l)).2).1) from (S.out).put 5 (.string ⟨(gx (gx (RM.gt (gl 4 (RM.gt (RM.f1 l)).2).2).2).2).1.toArray⟩))
 generalize World.setCell _ ⟨g + 1 + 1, 5, none⟩ _ = wz at S ⊢
 obtain ⟨y0, y1, y2, y3, y4⟩ := box_mg S.out.2.1
 obtain ⟨c0, c1, c2, c3, c4, c5, c6, c7, c8, c9, c10, c11⟩ := box_cm S.out.1.2.1
 obtain ⟨d0, d1, d2, d3, d4, d5, d6, d7, d8, d9, d10, d11⟩ := box_cm S.out.1.2.2.1
 have g0 := S.out.1.2.2.1.frozen 0
 have g1 := S.out.1.2.2.1.frozen 1
 have g2 := S.out.1.2.2.1.frozen 2
 have g3 := S.out.1.2.2.1.frozen 3
 have g4 := S.out.1.2.2.1.frozen 4
 have g5 := S.out.1.2.2.1.frozen 5
 have g6 := S.out.1.2.2.1.frozen 6
 have g7 := S.out.1.2.2.1.frozen 7
 have g8 := S.out.1.2.2.1.frozen 8
 have g9 := S.out.1.2.2.1.frozen 9
 have g10 := S.out.1.2.2.1.frozen 10
 have g11 := S.out.1.2.2.1.frozen 11
 have HG := h! S.out.1.2.2.2.1
 have HB := h! S.out.1.2.2.2.2
 have HRow := h! S.out.2.2.2
 clear S
 go_wp2_with fail
 refine bodyPost_ret (v := .agg #[.int .u8 (RM.fk l), .int .i64 (RM.gt (RM.f1 l)).1, .slice B (gl 4 (RM.gt (RM.f1 l)).2).1.length d, .int .i64 (RM.gt (gl 4 (RM.gt (RM.f1 l)).2).2).1, .string ⟨(gx (RM.gt (gl 4 (RM.gt (RM.f1 l)).2).2).2).1.toArray⟩, .string ⟨(gx (gx (RM.gt (gl 4 (RM.gt (RM.f1 l)).2).2).2).2).1.toArray⟩, .int .i64 0, .int .i64 0, .slice none 0 0, .int .i64 0, .int .i64 0, .int .i64 0]) (by simp [results, Tryz.results100, go_sem, d0, d1, d2, d3, d4, d5, d6, d7, d8, d9, d10, d11]; try rfl) rfl ?_
 unfold FrontPost
 rw [HE.out]
 have hrow := HRow.out.put12 (show g + 1 < g + 1 + 1 + 1 by omega) (.int .u8 (RM.fk l)) (.int .i64 (RM.gt (RM.f1 l)).1) (.slice B (gl 4 (RM.gt (RM.f1 l)).2).1.length d) (.int .i64 (RM.gt (gl 4 (RM.gt (RM.f1 l)).2).2).1) (.string ⟨(gx (RM.gt (gl 4 (RM.gt (RM.f1 l)).2).2).2).1.toArray⟩) (.string ⟨(gx (gx (RM.gt (gl 4 (RM.gt (RM.f1 l)).2).2).2).2).1.toArray⟩) (.int .i64 0) (.int .i64 0) (.slice none 0 0) (.int .i64 0) (.int .i64 0) (.int .i64 0)
 refine ⟨_, rfl, ⟨B, d, none, 0, ?_, hrow.mono (by rw [← HG.out]; omega), RowGe.none _ _⟩, put12_below HB.out (by rw [← HG.out]; omega) (.int .u8 (RM.fk l)) (.int .i64 (RM.gt (RM.f1 l)).1) (.slice B (gl 4 (RM.gt (RM.f1 l)).2).1.length d) (.int .i64 (RM.gt (gl 4 (RM.gt (RM.f1 l)).2).2).1) (.string ⟨(gx (RM.gt (gl 4 (RM.gt (RM.f1 l)).2).2).2).1.toArray⟩) (.string ⟨(gx (gx (RM.gt (gl 4 (RM.gt (RM.f1 l)).2).2).2).2).1.toArray⟩) (.int .i64 0) (.int .i64 0) (.slice none 0 0) (.int .i64 0) (.int .i64 0) (.int .i64 0)⟩
 rw [HK.out]; try simp only [ccells, CM.mz, zsl, List.length_nil]
 try rfl
end CP
end Go.Proofs.YteebeiaokfenmaaGreat
