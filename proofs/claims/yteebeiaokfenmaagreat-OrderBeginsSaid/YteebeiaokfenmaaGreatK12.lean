/-
  Whether a command may be, kind by kind, in the order of the document's own May. No program.
  What package command's CheckMessage, isMessage, areMembers answer. Conditions: as MgIs and MgFit say.
  What package command's Check answers. Conditions: as CmIs and CmFit say.
-/
import Derived.Test.YteebeiaokfenmaaGreatK01
import Derived.Test.YteebeiaokfenmaaGreatK11
import Derived.Test.YteebeiaokfenmaaGreatK08
namespace Go.Proofs.YteebeiaokfenmaaGreat.CP
open Go.RowKit
open CM (Mg Cm)
set_option linter.unusedVariables false
set_option linter.unusedSimpArgs false
set_option maxRecDepth 100000

section
variable {am : Mg} {aid atm atp awh an : Int} {ams : List Int}
theorem may_iff1 : CM.may ⟨1, am, aid, atm, ams, atp, awh, an⟩ ↔ ((CM.mgOk am) ∧ (aid = 0) ∧ (atm = 0) ∧ (ams = []) ∧ (atp = 0) ∧ (awh = 0) ∧ (an = 0)) := by
  unfold CM.may CM.zero
  simp
  try grind
theorem may_iff2 : CM.may ⟨2, am, aid, atm, ams, atp, awh, an⟩ ↔ ((am = CM.mz) ∧ (CM.idOk aid) ∧ (1 ≤ atm ∧ atm < 1073741825) ∧ (ams = []) ∧ (atp = 0) ∧ (awh = 0) ∧ (an = 0)) := by
  unfold CM.may CM.zero
  simp
  try grind
theorem may_iff3 : CM.may ⟨3, am, aid, atm, ams, atp, awh, an⟩ ↔ ((am = CM.mz) ∧ (aid = 0) ∧ (atm = 0) ∧ (QM.may ams = true) ∧ (atp = 0) ∧ (awh = 0) ∧ (an = 0)) := by
  unfold CM.may CM.zero
  simp
  try grind
theorem may_iff4 : CM.may ⟨4, am, aid, atm, ams, atp, awh, an⟩ ↔ ((am = CM.mz) ∧ (CM.idOk aid) ∧ (atm = 0) ∧ (ams = []) ∧ (0 ≤ atp ∧ atp < 4) ∧ (0 ≤ an ∧ an < 1073741825) ∧ (0 ≤ awh ∧ awh < 8)) := by
  unfold CM.may CM.zero
  simp
  try grind
theorem may_iff5 : CM.may ⟨5, am, aid, atm, ams, atp, awh, an⟩ ↔ ((am = CM.mz) ∧ (CM.idOk aid) ∧ (atm = 0) ∧ (ams = []) ∧ (0 ≤ atp ∧ atp < 4) ∧ (0 ≤ an ∧ an < 1073741825) ∧ (awh = 0)) := by
  unfold CM.may CM.zero
  simp
  try grind
theorem may_iff6 : CM.may ⟨6, am, aid, atm, ams, atp, awh, an⟩ ↔ ((am = CM.mz) ∧ (CM.idOk aid) ∧ (atm = 0) ∧ (ams = []) ∧ (0 ≤ atp ∧ atp < 4) ∧ (0 ≤ an ∧ an < 1073741825) ∧ (awh = 0)) := by
  unfold CM.may CM.zero
  simp
  try grind
theorem may_other {k : Int} (h : k ≠ 0 ∧ k ≠ 1 ∧ k ≠ 2 ∧ k ≠ 3 ∧ k ≠ 4 ∧ k ≠ 5 ∧ k ≠ 6) : ¬ CM.may ⟨k, am, aid, atm, ams, atp, awh, an⟩ := by
  unfold CM.may CM.zero
  simp
  try grind
theorem may_iff0 : CM.may ⟨0, am, aid, atm, ams, atp, awh, an⟩ ↔ ⟨0, am, aid, atm, ams, atp, awh, an⟩ = CM.zero := by
  unfold CM.may CM.zero
  simp
end
end Go.Proofs.YteebeiaokfenmaaGreat.CP

namespace Go.Proofs.YteebeiaokfenmaaGreat.CP
open Go.RowKit
open CM (Mg Cm)
set_option linter.unusedVariables false
set_option linter.unusedSimpArgs false
set_option maxRecDepth 100000

set_option maxHeartbeats 8000000 in
theorem pcheckMg_any (m : Mg) (v : Value) (w : World) (h : MgIs w v m) (hf : MgFit m) :
    Calls Tryz.prog 35 #[v] w (NumIs (if CM.mgOk m then 0 else 120) w) := by
  obtain ⟨A, c, rfl, r1, r1c, r1m⟩ := h
  obtain ⟨mi, mg, mt, mk, mb⟩ := m
  obtain ⟨_, _, f1, f2⟩ := hf
  simp only at r1 r1c f1 f2
  unfold maxLen at f1 f2 r1m
  have hiff : CM.mgOk ⟨mi, mg, mt, mk, mb⟩ ↔ ((0 ≤ mi ∧ mi < 6291456) ∧ mg ≠ [] ∧ CM.riseG (-1) mg = true ∧ (0 ≤ mt ∧ mt < 4) ∧ mk.size ≤ 16 ∧ mb.size ≤ 64) := Iff.rfl
  obtain ⟨y, hy⟩ : ∃ y : Int, y = if CM.mgOk ⟨mi, mg, mt, mk, mb⟩ then 0 else 120 := ⟨_, rfl⟩
  rw [← hy]
  have HNO := Lib.hid (show ¬ ((0 ≤ mi ∧ mi < 6291456) ∧ mg ≠ [] ∧ CM.riseG (-1) mg = true ∧ (0 ≤ mt ∧ mt < 4) ∧ mk.size ≤ 16 ∧ mb.size ≤ 64) → 120 = y from fun h => by rw [hy, if_neg (fun e => h (hiff.1 e))])
  have HYES := Lib.hid (show ((0 ≤ mi ∧ mi < 6291456) ∧ mg ≠ [] ∧ CM.riseG (-1) mg = true ∧ (0 ≤ mt ∧ mt < 4) ∧ mk.size ≤ 16 ∧ mb.size ≤ 64) → 0 = y from fun h => by rw [hy, if_pos (hiff.2 h)])
  clear hy hiff
  show Calls _ _ #[.agg #[.int .i64 mi, .slice A mg.length c, .int .i64 mt, .string mk, .string mb]] _ _
  have hb0 : Below w.heap.size w (w.alloc (.cells #[.int .i64 mi, .slice A mg.length c, .int .i64 mt, .string mk, .string mb] 33)) := (Below.refl _ _).alloc (Nat.le_refl _) _
  have HX := Lib.hid (Box.new w 33 #[.int .i64 mi, .slice A mg.length c, .int .i64 mt, .string mk, .string mb])
  obtain ⟨g, hg⟩ : ∃ g, g = (decide (mg ≠ []) && CM.riseG (-1) mg) := ⟨_, rfl⟩
  have C := Lib.hid (areGroups_any A mg.length c mg _ (r1.below hb0) (by omega))
  rw [← hg] at C
  have HG := Lib.hid (show g = true ↔ mg ≠ [] ∧ CM.riseG (-1) mg = true by rw [hg]; simp)
  have HB := Lib.hid hb0
  clear hb0 r1 r1c r1m hg
  go_enter Tryz.func35, Tryz.ntmps35
  go_upto_region 1 with (fail)
  generalize w.alloc (.cells #[.int .i64 mi, .slice A mg.length c, .int .i64 mt, .string mk, .string mb] 33) = w1 at HX HB C ⊢
  generalize w.heap.size = g0 at HX ⊢
  obtain ⟨x0, x1, x2, x3, x4⟩ := box_mg HX.out
  clear HX
  by_cases h1 : mi < 0
  · have HF := Lib.hid (HNO.out (fun h => by have := h.1.1; omega))
    clear HNO HYES
    go_wp2_with fail
    go_ret
    exact ⟨ret_int HF.out, HB.out⟩
  have n1 : 0 ≤ mi := by omega
  clear h1
  by_cases h2 : 6291455 < mi
  · have HF := Lib.hid (HNO.out (fun h => by have := h.1.2; omega))
    clear HNO HYES
    go_wp2_with fail
    go_ret
    exact ⟨ret_int HF.out, HB.out⟩
  have n2 : mi ≤ 6291455 := by omega
  clear h2
  cases g
  · have HF := Lib.hid (HNO.out (fun h => by have := HG.out.2 ⟨h.2.1, h.2.2.1⟩; cases this))
    clear HNO HYES HG
    go_wp2_with fail
    refine (C.out).mono ?_
    rintro e w2 ⟨rfl, rfl⟩
    go_wp2_with fail
    go_ret
    exact ⟨ret_int HF.out, HB.out⟩
  have HG2 := Lib.hid (HG.out.1 rfl)
  clear HG
  by_cases h4 : mt < 0
  · have HF := Lib.hid (HNO.out (fun h => by have := h.2.2.2.1.1; omega))
    clear HNO HYES
    go_wp2_with fail
    refine (C.out).mono ?_
    rintro e w2 ⟨rfl, rfl⟩
    go_wp2_with fail
    go_ret
    exact ⟨ret_int HF.out, HB.out⟩
  have n4 : 0 ≤ mt := by omega
  clear h4
  by_cases h5 : 4 ≤ mt
  · have HF := Lib.hid (HNO.out (fun h => by have := h.2.2.2.1.2; omega))
    clear HNO HYES
    go_wp2_with fail
    refine (C.out).mono ?_
    rintro e w2 ⟨rfl, rfl⟩
    go_wp2_with fail
    go_ret
    exact ⟨ret_int HF.out, HB.out⟩
  have n5 : mt < 4 := by omega
  clear h5
  by_cases h6 : 16 < mk.size
  · have HF := Lib.hid (HNO.out (fun h => by have := h.2.2.2.2.1; omega))
    have h6i : (16 : Int) < (mk.size : Int) := by omega
    clear HNO HYES
    go_wp2_with fail
    refine (C.out).mono ?_
    rintro e w2 ⟨rfl, rfl⟩
    go_wp2_with fail
    go_ret
    exact ⟨ret_int HF.out, HB.out⟩
  have n6 : mk.size ≤ 16 := by omega
  clear h6
  have n6i : (mk.size : Int) ≤ (16 : Int) := by omega
  by_cases h7 : 64 < mb.size
  · have HF := Lib.hid (HNO.out (fun h => by have := h.2.2.2.2.2; omega))
    have h7i : (64 : Int) < (mb.size : Int) := by omega
    clear HNO HYES
    go_wp2_with fail
    refine (C.out).mono ?_
    rintro e w2 ⟨rfl, rfl⟩
    go_wp2_with fail
    go_ret
    exact ⟨ret_int HF.out, HB.out⟩
  have n7 : mb.size ≤ 64 := by omega
  clear h7
  have n7i : (mb.size : Int) ≤ (64 : Int) := by omega
  have HF := Lib.hid (HYES.out ⟨⟨n1, by omega⟩, HG2.out.1, HG2.out.2, ⟨n4, n5⟩, n6, n7⟩)
  clear HNO HYES HG2
  go_wp2_with fail
  refine (C.out).mono ?_
  rintro e w2 ⟨rfl, rfl⟩
  go_wp2_with fail
  go_ret
  exact ⟨ret_int HF.out, HB.out⟩

set_option maxHeartbeats 4000000 in
theorem isMessage_any (h : Bool) (m : Mg) (v : Value) (w : World) (hm : MgIs w v m) (hf : MgFit m) :
    Calls Tryz.prog 90 #[.bool h, v] w (BoolIs (decide (if h = true then CM.mgOk m else m = CM.mz)) w) := by
  obtain ⟨A, c, rfl, r1⟩ := hm
  obtain ⟨mi, mg, mt, mk, mb⟩ := m
  simp only at r1
  show Calls _ _ #[.bool h, .agg #[.int .i64 mi, .slice A mg.length c, .int .i64 mt, .string mk, .string mb]] _ _
  have hb0 : Below w.heap.size w (w.alloc (.cells #[.int .i64 mi, .slice A mg.length c, .int .i64 mt, .string mk, .string mb] 33)) := (Below.refl _ _).alloc (Nat.le_refl _) _
  have HX := Lib.hid (Box.new w 33 #[.int .i64 mi, .slice A mg.length c, .int .i64 mt, .string mk, .string mb])
  have C1 := Lib.hid (pcheckMg_any ⟨mi, mg, mt, mk, mb⟩ (.agg (mcells A c ⟨mi, mg, mt, mk, mb⟩)) _ ⟨A, c, rfl, r1.below hb0⟩ hf)
  have C2 := Lib.hid (psameMg_any ⟨mi, mg, mt, mk, mb⟩ CM.mz (.agg (mcells A c ⟨mi, mg, mt, mk, mb⟩)) _ _ ⟨A, c, rfl, r1.below hb0⟩ (mz_is _))
  unfold mcells at C1 C2
  simp only at C1 C2
  have HB := Lib.hid hb0
  clear hb0 r1 hf
  cases h
  · have he : decide (if false = true then CM.mgOk ⟨mi, mg, mt, mk, mb⟩ else (⟨mi, mg, mt, mk, mb⟩ : Mg) = CM.mz) = decide ((⟨mi, mg, mt, mk, mb⟩ : Mg) = CM.mz) := by simp
    rw [he]
    clear he C1
    generalize decide ((⟨mi, mg, mt, mk, mb⟩ : Mg) = CM.mz) = r at C2 ⊢
    go_enter Tryz.func90, Tryz.ntmps90
    go_wp2_with fail
    refine (C2.out).mono ?_
    rintro e w2 ⟨rfl, hb2⟩
    replace HB := Lib.hid (HB.out.trans (hb2.mono HB.out.size))
    clear hb2 HX
    go_wp2_with fail
    go_ret
    exact ⟨rfl, HB.out⟩
  · have he : decide (if true = true then CM.mgOk ⟨mi, mg, mt, mk, mb⟩ else (⟨mi, mg, mt, mk, mb⟩ : Mg) = CM.mz) = decide (CM.mgOk ⟨mi, mg, mt, mk, mb⟩) := by simp
    rw [he]
    clear he C2
    by_cases hk : CM.mgOk ⟨mi, mg, mt, mk, mb⟩
    · rw [if_pos hk] at C1
      rw [decide_eq_true hk]
      clear hk
      go_enter Tryz.func90, Tryz.ntmps90
      go_wp2_with fail
      refine (C1.out).mono ?_
      rintro e w2 ⟨rfl, hb2⟩
      replace HB := Lib.hid (HB.out.trans (hb2.mono HB.out.size))
      clear hb2 HX
      go_wp2_with fail
      go_ret
      exact ⟨rfl, HB.out⟩
    · rw [if_neg hk] at C1
      rw [decide_eq_false hk]
      clear hk
      go_enter Tryz.func90, Tryz.ntmps90
      go_wp2_with fail
      refine (C1.out).mono ?_
      rintro e w2 ⟨rfl, hb2⟩
      replace HB := Lib.hid (HB.out.trans (hb2.mono HB.out.size))
      clear hb2 HX
      go_wp2_with fail
      go_ret
      exact ⟨rfl, HB.out⟩

set_option maxHeartbeats 4000000 in
theorem areMembers_any (h : Bool) (A : Option Addr) (n c : Nat) (l : List Int) (w : World) (hr : Rd w A n (ic l)) (hm : n ≤ 9223372036854775807) :
    Calls Tryz.prog 91 #[.bool h, .slice A n c] w fun e w' => e = .returned (.bool (decide (if h = true then QM.may l = true else l = []))) ∧ w = w' := by
  have hl : l.length = n := by have := hr.1; rwa [ic_length] at this
  cases h
  · have he : decide (if false = true then QM.may l = true else l = []) = ((n : Int) == 0) := by rw [← hl]; cases l <;> simp <;> omega
    rw [he]
    clear he hl hr
    go_enter Tryz.func91, Tryz.ntmps91
    go_wp2
    go_ret
    exact ⟨rfl, rfl⟩
  · have he : decide (if true = true then QM.may l = true else l = []) = QM.may l := by cases QM.may l <;> simp
    rw [he]
    clear he
    obtain ⟨y, hy⟩ := QM.chkIs_ex l
    have C := Lib.hid (fun w' (hw : w' = w) => qcheck_any A n c l y w' (by rw [hw]; exact hr) hm hy)
    have HY := Lib.hid (show (y == 0) = QM.may l by rcases QM.chkIs_cases hy with ⟨rfl, h⟩ | ⟨h, rfl | rfl⟩ <;> rw [h] <;> rfl)
    clear hy hl hr
    go_enter Tryz.func91, Tryz.ntmps91
    go_wp2_with fail
    refine (C.out _ rfl).mono ?_
    rintro e w2 ⟨rfl, rfl⟩
    go_wp2_with fail
    go_ret
    exact ⟨ret_eq HY.out, rfl⟩
end Go.Proofs.YteebeiaokfenmaaGreat.CP

namespace Go.Proofs.YteebeiaokfenmaaGreat.CP
open Go.RowKit
open CM (Mg Cm)
set_option linter.unusedVariables false
set_option linter.unusedSimpArgs false
set_option maxRecDepth 100000

section
variable {k aid atm atp awh an : Int} {am : Mg} {ams : List Int}
theorem may_fl {f1 f2 f3 f4 f5 f6 : Bool} (h : Fl k f1 f2 f3 f4 f5 f6) : CM.may ⟨k, am, aid, atm, ams, atp, awh, an⟩ ↔ (f6 = true ∧ (if f1 = true then CM.mgOk am else am = CM.mz) ∧ (if f3 = true then QM.may ams = true else ams = []) ∧ (if (f2 || f4) = true then 0 ≤ aid ∧ aid ≤ 6291455 else aid = 0) ∧ (if f2 = true then 1 ≤ atm ∧ atm ≤ 1073741824 else atm = 0) ∧ (if f4 = true then 0 ≤ atp ∧ atp ≤ 3 else atp = 0) ∧ (if f5 = true then 0 ≤ awh ∧ awh ≤ 7 else awh = 0) ∧ (if f4 = true then 0 ≤ an ∧ an ≤ 1073741824 else an = 0)) := by
  rcases h with ⟨rfl, rfl, rfl, rfl, rfl, rfl, rfl⟩ | ⟨rfl, rfl, rfl, rfl, rfl, rfl, rfl⟩ | ⟨rfl, rfl, rfl, rfl, rfl, rfl, rfl⟩ | ⟨rfl, rfl, rfl, rfl, rfl, rfl, rfl⟩ | ⟨rfl, rfl, rfl, rfl, rfl, rfl, rfl⟩ | ⟨rfl, rfl, rfl, rfl, rfl, rfl, rfl⟩ | ⟨rfl, rfl, rfl, rfl, rfl, rfl, rfl⟩ | ⟨hk, rfl, rfl, rfl, rfl, rfl, rfl⟩
  · rw [may_iff0]; unfold CM.zero; simp; try grind
  · rw [may_iff1]; simp; try grind
  · rw [may_iff2]; unfold CM.idOk; simp; try grind
  · rw [may_iff3]; simp; try grind
  · rw [may_iff4]; unfold CM.idOk; simp; try grind
  · rw [may_iff5]; unfold CM.idOk; simp; try grind
  · rw [may_iff6]; unfold CM.idOk; simp; try grind
  · simp [may_other hk]
end
/-- what Check's walk keeps: the command, the fields of its kind -/
def Ck (w0 w : World) (X : Array Value) (g : Nat) (a b c d e : Bool) : Prop := Box w w0.heap.size 91 X ∧ Box w g 126 #[.bool a, .bool b, .bool c, .bool d, .bool e] ∧ Below w0.heap.size w0 w
theorem Ck.below {w0 w w' : World} {X : Array Value} {g : Nat} {a b c d e : Bool} (h : Ck w0 w X g a b c d e) (hb : Below w.heap.size w w') : Ck w0 w' X g a b c d e :=
  ⟨h.1.below hb h.1.lt, h.2.1.below hb h.2.1.lt, bmore h.2.2 hb (Nat.le_refl _)⟩
theorem ck_new {w0 w : World} {X : Array Value} (h : Box w w0.heap.size 91 X) (hb : Below w0.heap.size w0 w) (a b c d e : Bool) : Ck w0 (w.alloc (.cells #[.bool a, .bool b, .bool c, .bool d, .bool e] 126)) X w.heap.size a b c d e :=
  ⟨h.alloc _, Box.new w _ _, hb.alloc hb.size _⟩
set_option maxHeartbeats 16000000 in
theorem pcheck_any (x : Cm) (v : Value) (w : World) (h : CmIs w v x) (hf : CmFit x) :
    Calls Tryz.prog 65 #[v] w (NumIs (if CM.may x then 0 else 120) w) := by
  obtain ⟨A, c, P, q, rfl, r1, r3⟩ := h
  obtain ⟨k, am, aid, atm, ams, atp, awh, an⟩ := x
  obtain ⟨f1, f2, f3, f4, f5, f6, hfl⟩ := fl_ex k
  obtain ⟨_, fm, _⟩ := hf
  simp only at r1 r3 fm
  obtain ⟨y, hy⟩ : ∃ y : Int, y = if CM.may ⟨k, am, aid, atm, ams, atp, awh, an⟩ then 0 else 120 := ⟨_, rfl⟩
  rw [← hy]
  have HNO := Lib.hid (show ¬ (f6 = true ∧ (if f1 = true then CM.mgOk am else am = CM.mz) ∧ (if f3 = true then QM.may ams = true else ams = []) ∧ (if (f2 || f4) = true then 0 ≤ aid ∧ aid ≤ 6291455 else aid = 0) ∧ (if f2 = true then 1 ≤ atm ∧ atm ≤ 1073741824 else atm = 0) ∧ (if f4 = true then 0 ≤ atp ∧ atp ≤ 3 else atp = 0) ∧ (if f5 = true then 0 ≤ awh ∧ awh ≤ 7 else awh = 0) ∧ (if f4 = true then 0 ≤ an ∧ an ≤ 1073741824 else an = 0)) → 120 = y from fun h => by rw [hy, if_neg (fun e => h ((may_fl hfl).1 e))])
  have HYES := Lib.hid (show (f6 = true ∧ (if f1 = true then CM.mgOk am else am = CM.mz) ∧ (if f3 = true then QM.may ams = true else ams = []) ∧ (if (f2 || f4) = true then 0 ≤ aid ∧ aid ≤ 6291455 else aid = 0) ∧ (if f2 = true then 1 ≤ atm ∧ atm ≤ 1073741824 else atm = 0) ∧ (if f4 = true then 0 ≤ atp ∧ atp ≤ 3 else atp = 0) ∧ (if f5 = true then 0 ≤ awh ∧ awh ≤ 7 else awh = 0) ∧ (if f4 = true then 0 ≤ an ∧ an ≤ 1073741824 else an = 0)) → 0 = y from fun h => by rw [hy, if_pos ((may_fl hfl).2 h)])
  have CF := Lib.hid (fun w => fields_any hfl w)
  clear hy hfl
  show Calls _ _ #[.agg #[.int .u8 k, .int .i64 am.id, .slice A am.gs.length c, .int .i64 am.tp, .string am.key, .string am.body, .int .i64 aid, .int .i64 atm, .slice P ams.length q, .int .i64 atp, .int .i64 awh, .int .i64 an]] _ _
  have hb0 : Below w.heap.size w (w.alloc (.cells #[.int .u8 k, .int .i64 am.id, .slice A am.gs.length c, .int .i64 am.tp, .string am.key, .string am.body, .int .i64 aid, .int .i64 atm, .slice P ams.length q, .int .i64 atp, .int .i64 awh, .int .i64 an] 91)) := (Below.refl _ _).alloc (Nat.le_refl _) _
  have HX := Lib.hid (Box.new w 91 #[.int .u8 k, .int .i64 am.id, .slice A am.gs.length c, .int .i64 am.tp, .string am.key, .string am.body, .int .i64 aid, .int .i64 atm, .slice P ams.length q, .int .i64 atp, .int .i64 awh, .int .i64 an])
  have HB := Lib.hid hb0
  have C1 := Lib.hid (fun W (hb : Below w.heap.size w W) => isMessage_any f1 am (.agg (mcells A c am)) W ⟨A, c, rfl, r1.below hb⟩ fm)
  unfold mcells at C1
  have C2 := Lib.hid (fun W (hb : Below w.heap.size w W) => areMembers_any f3 P ams.length q ams W (r3.below hb).1 (by have := r3.2.1; have := r3.2.2; unfold maxLen at this; omega))
  have C3 := Lib.hid (fun W => isNumber_any (f2 || f4) aid 0 6291455 W)
  have C4 := Lib.hid (fun W => isNumber_any f2 atm 1 1073741824 W)
  have C5 := Lib.hid (fun W => isNumber_any f4 atp 0 3 W)
  have C6 := Lib.hid (fun W => isNumber_any f5 awh 0 7 W)
  have C7 := Lib.hid (fun W => isNumber_any f4 an 0 1073741824 W)
  have HD1 := Lib.hid (show decide (if f1 = true then CM.mgOk am else am = CM.mz) = true ↔ (if f1 = true then CM.mgOk am else am = CM.mz) by rw [decide_eq_true_iff])
  generalize decide (if f1 = true then CM.mgOk am else am = CM.mz) = b1 at C1 HD1
  have HD2 := Lib.hid (show decide (if f3 = true then QM.may ams = true else ams = []) = true ↔ (if f3 = true then QM.may ams = true else ams = []) by rw [decide_eq_true_iff])
  generalize decide (if f3 = true then QM.may ams = true else ams = []) = b2 at C2 HD2
  have HD3 := Lib.hid (show decide (if (f2 || f4) = true then 0 ≤ aid ∧ aid ≤ 6291455 else aid = 0) = true ↔ (if (f2 || f4) = true then 0 ≤ aid ∧ aid ≤ 6291455 else aid = 0) by rw [decide_eq_true_iff])
  generalize decide (if (f2 || f4) = true then 0 ≤ aid ∧ aid ≤ 6291455 else aid = 0) = b3 at C3 HD3
  have HD4 := Lib.hid (show decide (if f2 = true then 1 ≤ atm ∧ atm ≤ 1073741824 else atm = 0) = true ↔ (if f2 = true then 1 ≤ atm ∧ atm ≤ 1073741824 else atm = 0) by rw [decide_eq_true_iff])
  generalize decide (if f2 = true then 1 ≤ atm ∧ atm ≤ 1073741824 else atm = 0) = b4 at C4 HD4
  have HD5 := Lib.hid (show decide (if f4 = true then 0 ≤ atp ∧ atp ≤ 3 else atp = 0) = true ↔ (if f4 = true then 0 ≤ atp ∧ atp ≤ 3 else atp = 0) by rw [decide_eq_true_iff])
  generalize decide (if f4 = true then 0 ≤ atp ∧ atp ≤ 3 else atp = 0) = b5 at C5 HD5
  have HD6 := Lib.hid (show decide (if f5 = true then 0 ≤ awh ∧ awh ≤ 7 else awh = 0) = true ↔ (if f5 = true then 0 ≤ awh ∧ awh ≤ 7 else awh = 0) by rw [decide_eq_true_iff])
  generalize decide (if f5 = true then 0 ≤ awh ∧ awh ≤ 7 else awh = 0) = b6 at C6 HD6
  have HD7 := Lib.hid (show decide (if f4 = true then 0 ≤ an ∧ an ≤ 1073741824 else an = 0) = true ↔ (if f4 = true then 0 ≤ an ∧ an ≤ 1073741824 else an = 0) by rw [decide_eq_true_iff])
  generalize decide (if f4 = true then 0 ≤ an ∧ an ≤ 1073741824 else an = 0) = b7 at C7 HD7
  clear hb0 r1 r3 fm
  cases f2
  · skip
    simp only [Bool.false_or, Bool.true_or] at C3
    go_enter Tryz.func65, Tryz.ntmps65
    go_wp2_with fail
    refine (CF.out _).mono ?_
    rintro e w1 ⟨rfl, hb1⟩
    have S := Lib.hid (ck_new (HX.out.below hb1 HX.out.lt) (bmore HB.out hb1 (by simp)) f1 false f3 f4 f5)
    clear hb1 HX HB CF
    go_upto_region 2 with (fail)
    generalize w1.alloc (.cells #[.bool f1, .bool false, .bool f3, .bool f4, .bool f5] 126) = w2 at S ⊢
    generalize w1.heap.size = g1 at S ⊢
    obtain ⟨x0, x1, x2, x3, x4, x5, x6, x7, x8, x9, x10, x11⟩ := box_cm S.out.1
    obtain ⟨y0, y1, y2, y3, y4⟩ := box_mg S.out.2.1
    cases f6
    · have HF := Lib.hid (HNO.out (fun h => by cases h.1))
      clear HNO HYES C1 C2 C3 C4 C5 C6 C7 HD1 HD2 HD3 HD4 HD5 HD6 HD7
      go_wp2_with fail
      go_ret
      exact ⟨ret_int HF.out, S.out.2.2⟩
    go_wp2_with fail
    refine (C1.out _ S.out.2.2).mono ?_
    rintro e w3 ⟨rfl, hb2⟩
    replace S := Lib.hid (S.out.below hb2)
    clear hb2 x0 x1 x2 x3 x4 x5 x6 x7 x8 x9 x10 x11 y0 y1 y2 y3 y4
    obtain ⟨x0, x1, x2, x3, x4, x5, x6, x7, x8, x9, x10, x11⟩ := box_cm S.out.1
    obtain ⟨y0, y1, y2, y3, y4⟩ := box_mg S.out.2.1
    cases b1
    · have HF := Lib.hid (HNO.out (fun h => by have := HD1.out.2 h.2.1; cases this))
      clear HNO HYES C2 C3 C4 C5 C6 C7 HD1 HD2 HD3 HD4 HD5 HD6 HD7
      go_wp2_with fail
      go_ret
      exact ⟨ret_int HF.out, S.out.2.2⟩
    go_wp2_with fail
    refine (C2.out _ S.out.2.2).mono ?_
    rintro e w4 ⟨rfl, rfl⟩
    cases b2
    · have HF := Lib.hid (HNO.out (fun h => by have := HD2.out.2 h.2.2.1; cases this))
      clear HNO HYES C3 C4 C5 C6 C7 HD1 HD2 HD3 HD4 HD5 HD6 HD7
      go_wp2_with fail
      go_ret
      exact ⟨ret_int HF.out, S.out.2.2⟩
    go_wp2_with fail
    refine (C3.out _).mono ?_
    rintro e w4 ⟨rfl, rfl⟩
    cases b3
    · have HF := Lib.hid (HNO.out (fun h => by have := HD3.out.2 h.2.2.2.1; cases this))
      clear HNO HYES C4 C5 C6 C7 HD1 HD2 HD3 HD4 HD5 HD6 HD7
      go_wp2_with fail
      go_ret
      exact ⟨ret_int HF.out, S.out.2.2⟩
    go_wp2_with fail
    refine (C4.out _).mono ?_
    rintro e w4 ⟨rfl, rfl⟩
    cases b4
    · have HF := Lib.hid (HNO.out (fun h => by have := HD4.out.2 h.2.2.2.2.1; cases this))
      clear HNO HYES C5 C6 C7 HD1 HD2 HD3 HD4 HD5 HD6 HD7
      go_wp2_with fail
      go_ret
      exact ⟨ret_int HF.out, S.out.2.2⟩
    go_wp2_with fail
    refine (C5.out _).mono ?_
    rintro e w4 ⟨rfl, rfl⟩
    cases b5
    · have HF := Lib.hid (HNO.out (fun h => by have := HD5.out.2 h.2.2.2.2.2.1; cases this))
      clear HNO HYES C6 C7 HD1 HD2 HD3 HD4 HD5 HD6 HD7
      go_wp2_with fail
      go_ret
      exact ⟨ret_int HF.out, S.out.2.2⟩
    go_wp2_with fail
    refine (C6.out _).mono ?_
    rintro e w4 ⟨rfl, rfl⟩
    cases b6
    · have HF := Lib.hid (HNO.out (fun h => by have := HD6.out.2 h.2.2.2.2.2.2.1; cases this))
      clear HNO HYES C7 HD1 HD2 HD3 HD4 HD5 HD6 HD7
      go_wp2_with fail
      go_ret
      exact ⟨ret_int HF.out, S.out.2.2⟩
    go_wp2_with fail
    refine (C7.out _).mono ?_
    rintro e w4 ⟨rfl, rfl⟩
    cases b7
    · have HF := Lib.hid (HNO.out (fun h => by have := HD7.out.2 h.2.2.2.2.2.2.2; cases this))
      clear HNO HYES  HD1 HD2 HD3 HD4 HD5 HD6 HD7
      go_wp2_with fail
      go_ret
      exact ⟨ret_int HF.out, S.out.2.2⟩
    have HF := Lib.hid (HYES.out ⟨(by simp), HD1.out.1 (by simp), HD2.out.1 (by simp), HD3.out.1 (by simp), HD4.out.1 (by simp), HD5.out.1 (by simp), HD6.out.1 (by simp), HD7.out.1 (by simp)⟩)
    clear HNO HYES HD1 HD2 HD3 HD4 HD5 HD6 HD7
    go_wp2_with fail
    go_ret
    exact ⟨ret_int HF.out, S.out.2.2⟩
  · skip
    simp only [Bool.false_or, Bool.true_or] at C3
    go_enter Tryz.func65, Tryz.ntmps65
    go_wp2_with fail
    refine (CF.out _).mono ?_
    rintro e w1 ⟨rfl, hb1⟩
    have S := Lib.hid (ck_new (HX.out.below hb1 HX.out.lt) (bmore HB.out hb1 (by simp)) f1 true f3 f4 f5)
    clear hb1 HX HB CF
    go_upto_region 2 with (fail)
    generalize w1.alloc (.cells #[.bool f1, .bool true, .bool f3, .bool f4, .bool f5] 126) = w2 at S ⊢
    generalize w1.heap.size = g1 at S ⊢
    obtain ⟨x0, x1, x2, x3, x4, x5, x6, x7, x8, x9, x10, x11⟩ := box_cm S.out.1
    obtain ⟨y0, y1, y2, y3, y4⟩ := box_mg S.out.2.1
    cases f6
    · have HF := Lib.hid (HNO.out (fun h => by cases h.1))
      clear HNO HYES C1 C2 C3 C4 C5 C6 C7 HD1 HD2 HD3 HD4 HD5 HD6 HD7
      go_wp2_with fail
      go_ret
      exact ⟨ret_int HF.out, S.out.2.2⟩
    go_wp2_with fail
    refine (C1.out _ S.out.2.2).mono ?_
    rintro e w3 ⟨rfl, hb2⟩
    replace S := Lib.hid (S.out.below hb2)
    clear hb2 x0 x1 x2 x3 x4 x5 x6 x7 x8 x9 x10 x11 y0 y1 y2 y3 y4
    obtain ⟨x0, x1, x2, x3, x4, x5, x6, x7, x8, x9, x10, x11⟩ := box_cm S.out.1
    obtain ⟨y0, y1, y2, y3, y4⟩ := box_mg S.out.2.1
    cases b1
    · have HF := Lib.hid (HNO.out (fun h => by have := HD1.out.2 h.2.1; cases this))
      clear HNO HYES C2 C3 C4 C5 C6 C7 HD1 HD2 HD3 HD4 HD5 HD6 HD7
      go_wp2_with fail
      go_ret
      exact ⟨ret_int HF.out, S.out.2.2⟩
    go_wp2_with fail
    refine (C2.out _ S.out.2.2).mono ?_
    rintro e w4 ⟨rfl, rfl⟩
    cases b2
    · have HF := Lib.hid (HNO.out (fun h => by have := HD2.out.2 h.2.2.1; cases this))
      clear HNO HYES C3 C4 C5 C6 C7 HD1 HD2 HD3 HD4 HD5 HD6 HD7
      go_wp2_with fail
      go_ret
      exact ⟨ret_int HF.out, S.out.2.2⟩
    go_wp2_with fail
    refine (C3.out _).mono ?_
    rintro e w4 ⟨rfl, rfl⟩
    cases b3
    · have HF := Lib.hid (HNO.out (fun h => by have := HD3.out.2 h.2.2.2.1; cases this))
      clear HNO HYES C4 C5 C6 C7 HD1 HD2 HD3 HD4 HD5 HD6 HD7
      go_wp2_with fail
      go_ret
      exact ⟨ret_int HF.out, S.out.2.2⟩
    go_wp2_with fail
    refine (C4.out _).mono ?_
    rintro e w4 ⟨rfl, rfl⟩
    cases b4
    · have HF := Lib.hid (HNO.out (fun h => by have := HD4.out.2 h.2.2.2.2.1; cases this))
      clear HNO HYES C5 C6 C7 HD1 HD2 HD3 HD4 HD5 HD6 HD7
      go_wp2_with fail
      go_ret
      exact ⟨ret_int HF.out, S.out.2.2⟩
    go_wp2_with fail
    refine (C5.out _).mono ?_
    rintro e w4 ⟨rfl, rfl⟩
    cases b5
    · have HF := Lib.hid (HNO.out (fun h => by have := HD5.out.2 h.2.2.2.2.2.1; cases this))
      clear HNO HYES C6 C7 HD1 HD2 HD3 HD4 HD5 HD6 HD7
      go_wp2_with fail
      go_ret
      exact ⟨ret_int HF.out, S.out.2.2⟩
    go_wp2_with fail
    refine (C6.out _).mono ?_
    rintro e w4 ⟨rfl, rfl⟩
    cases b6
    · have HF := Lib.hid (HNO.out (fun h => by have := HD6.out.2 h.2.2.2.2.2.2.1; cases this))
      clear HNO HYES C7 HD1 HD2 HD3 HD4 HD5 HD6 HD7
      go_wp2_with fail
      go_ret
      exact ⟨ret_int HF.out, S.out.2.2⟩
    go_wp2_with fail
    refine (C7.out _).mono ?_
    rintro e w4 ⟨rfl, rfl⟩
    cases b7
    · have HF := Lib.hid (HNO.out (fun h => by have := HD7.out.2 h.2.2.2.2.2.2.2; cases this))
      clear HNO HYES  HD1 HD2 HD3 HD4 HD5 HD6 HD7
      go_wp2_with fail
      go_ret
      exact ⟨ret_int HF.out, S.out.2.2⟩
    have HF := Lib.hid (HYES.out ⟨(by simp), HD1.out.1 (by simp), HD2.out.1 (by simp), HD3.out.1 (by simp), HD4.out.1 (by simp), HD5.out.1 (by simp), HD6.out.1 (by simp), HD7.out.1 (by simp)⟩)
    clear HNO HYES HD1 HD2 HD3 HD4 HD5 HD6 HD7
    go_wp2_with fail
    go_ret
    exact ⟨ret_int HF.out, S.out.2.2⟩
end Go.Proofs.YteebeiaokfenmaaGreat.CP
