/-
  The document's own In, Id, SameMessage, Same (towncrierref12). Conditions: slices read as ints, lengths fit in an int.
  The document's own In, Id, SameMessage, Same (towncrierref12). Conditions: slices read as ints, lengths fit in an int.
  The document's own MayMessage (towncrierref12). Conditions: as MgIs and MgFit say.
  What package command's fieldsOf, isNumber, areGroups answer. Conditions: as each theorem says.
  What slices.Equal of two lists of ints answers. Conditions: the slices read as ints.
  What SameMessage of package command answers. Conditions: slices read as ints, lengths fit in an int.
-/
import Derived.Test.YteebeiaokfenmaaGreatK01
import Derived.Deep.DeepCutAuto
import Derived.Test.YteebeiaokfenmaaGreatProg
import Derived.Lib.Hide
import Derived.Lib.Walk
import Derived.WalkKit
import Derived.IntWalk
import Derived.Deep.QuietTactic
import Derived.BigQuiet
namespace Go.Proofs.YteebeiaokfenmaaGreat.CP
open Go.RowKit
open CM (Mg Cm)
set_option linter.unusedVariables false
set_option linter.unusedSimpArgs false
set_option maxRecDepth 100000

theorem text_ne {a b : ByteArray} (h : a ≠ b) : (a.toList == b.toList) = false := by
  simpa using fun e : a.toList = b.toList => h (by
    rw [ByteArray.toList_eq, ByteArray.toList_eq] at e
    obtain ⟨⟨x⟩⟩ := a
    obtain ⟨⟨y⟩⟩ := b
    simp at e
    rw [e])
set_option maxHeartbeats 4000000 in
theorem sameMessage_any (a b : Mg) (va vb : Value) (w : World) (ha : MgIs w va a) (hb : MgIs w vb b) :
    Calls Tryz.prog 48 #[va, vb] w (BoolIs (decide (a = b)) w) := by
  obtain ⟨A, c, rfl, r1, r1c, r1m⟩ := ha
  obtain ⟨B, d, rfl, r2, r2c, r2m⟩ := hb
  obtain ⟨ai, ag, at', ak, ab⟩ := a
  obtain ⟨bi, bg, bt, bk, bb⟩ := b
  simp only at r1 r1c r2 r2c
  have hiff : ((⟨ai, ag, at', ak, ab⟩ : Mg) = ⟨bi, bg, bt, bk, bb⟩) ↔ (ai = bi ∧ ag = bg ∧ at' = bt ∧ ak = bk ∧ ab = bb) := by simp
  have hno : ¬ (ai = bi ∧ ag = bg ∧ at' = bt ∧ ak = bk ∧ ab = bb) → false = decide ((⟨ai, ag, at', ak, ab⟩ : Mg) = ⟨bi, bg, bt, bk, bb⟩) := fun h => by
    have : ¬ ((⟨ai, ag, at', ak, ab⟩ : Mg) = ⟨bi, bg, bt, bk, bb⟩) := fun e => h (hiff.1 e)
    rw [decide_eq_false this]
  have hyes : (ai = bi ∧ ag = bg ∧ at' = bt ∧ ak = bk ∧ ab = bb) → true = decide ((⟨ai, ag, at', ak, ab⟩ : Mg) = ⟨bi, bg, bt, bk, bb⟩) := fun h => by
    rw [decide_eq_true (hiff.2 h)]
  have HNO := Lib.hid hno
  have HYES := Lib.hid hyes
  clear hno hyes hiff
  generalize decide ((⟨ai, ag, at', ak, ab⟩ : Mg) = ⟨bi, bg, bt, bk, bb⟩) = r at HNO HYES ⊢
  show Calls _ _ #[.agg #[.int .i64 ai, .slice A ag.length c, .int .i64 at', .string ak, .string ab], .agg #[.int .i64 bi, .slice B bg.length d, .int .i64 bt, .string bk, .string bb]] _ _
  have hb0 : ∀ o1 o2 : Obj, Below w.heap.size w ((w.alloc o1).alloc o2) := fun o1 o2 => ((Below.refl _ _).alloc (Nat.le_refl _) _).alloc (by simp) _
  have hs : ∀ o1 o2 : Obj, ((w.alloc o1).alloc o2).heap.size = w.heap.size + 2 := fun _ _ => by simp
  have hX : Box ((w.alloc (.cells #[.int .i64 ai, .slice A ag.length c, .int .i64 at', .string ak, .string ab] 33)).alloc (.cells #[.int .i64 bi, .slice B bg.length d, .int .i64 bt, .string bk, .string bb] 33)) w.heap.size 33 #[.int .i64 ai, .slice A ag.length c, .int .i64 at', .string ak, .string ab] := (Box.new _ _ _).alloc _
  have hY : Box ((w.alloc (.cells #[.int .i64 ai, .slice A ag.length c, .int .i64 at', .string ak, .string ab] 33)).alloc (.cells #[.int .i64 bi, .slice B bg.length d, .int .i64 bt, .string bk, .string bb] 33)) (w.heap.size + 1) 33 #[.int .i64 bi, .slice B bg.length d, .int .i64 bt, .string bk, .string bb] := Box.new_at _ (by simp)
  have C := Lib.hid (same_ints_any A B c d ag bg _ (r1.below (hb0 (.cells #[.int .i64 ai, .slice A ag.length c, .int .i64 at', .string ak, .string ab] 33) (.cells #[.int .i64 bi, .slice B bg.length d, .int .i64 bt, .string bk, .string bb] 33))) (r2.below (hb0 _ _)) (by omega) (by omega))
  have HX := Lib.hid hX
  have HY := Lib.hid hY
  have HB := Lib.hid (hb0 (.cells #[.int .i64 ai, .slice A ag.length c, .int .i64 at', .string ak, .string ab] 33) (.cells #[.int .i64 bi, .slice B bg.length d, .int .i64 bt, .string bk, .string bb] 33))
  clear hX hY hb0 hs r1 r2
  go_enter Tryz.func48, Tryz.ntmps48
  go_upto_region 1 with (fail)
  generalize (w.alloc (.cells #[.int .i64 ai, .slice A ag.length c, .int .i64 at', .string ak, .string ab] 33)).alloc (.cells #[.int .i64 bi, .slice B bg.length d, .int .i64 bt, .string bk, .string bb] 33) = w1 at HX HY HB C ⊢
  have G1 := Lib.hid HX.out.lt
  have G2 := Lib.hid HY.out.lt
  generalize hg1 : w.heap.size + 1 = g1 at HY G2 ⊢
  clear hg1
  generalize hg0 : w.heap.size = g0 at HX G1 ⊢
  clear hg0
  by_cases h1 : ai = bi
  rotate_left
  · have HF := Lib.hid (HNO.out (fun h => h1 h.1))
    have b1 : (ai == bi) = false := by simpa using h1
    obtain ⟨x0, x1, x2, x3, x4⟩ := box_mg HX.out
    obtain ⟨y0, y1, y2, y3, y4⟩ := box_mg HY.out
    clear h1 HNO HYES C HX HY
    go_wp2_with fail
    go_ret
    exact bool_ret HF.out HB.out
  subst h1
  have b1 : (ai == ai) = true := by simp
  obtain ⟨x0, x1, x2, x3, x4⟩ := box_mg HX.out
  obtain ⟨y0, y1, y2, y3, y4⟩ := box_mg HY.out
  go_wp2_with fail
  refine (C.out).mono ?_
  rintro e w2 ⟨rfl, hb2⟩
  clear x0 x1 x2 x3 x4 y0 y1 y2 y3 y4
  obtain ⟨x0, x1, x2, x3, x4⟩ := box_mg (HX.out.below hb2 G1.out)
  obtain ⟨y0, y1, y2, y3, y4⟩ := box_mg (HY.out.below hb2 G2.out)
  replace HB := Lib.hid (HB.out.trans (hb2.mono HB.out.size))
  clear C HX HY G1 G2 hb2
  by_cases h2 : ag = bg
  rotate_left
  · have HF := Lib.hid (HNO.out (fun h => h2 h.2.1))
    have b2 : decide (ag = bg) = false := by simpa using h2
    rw [b2]
    clear h2 HNO HYES b2
    go_wp2_with fail
    go_ret
    exact bool_ret HF.out HB.out
  rw [decide_eq_true h2]
  by_cases h3 : at' = bt
  rotate_left
  · have HF := Lib.hid (HNO.out (fun h => h3 h.2.2.1))
    have b3 : (at' == bt) = false := by simpa using h3
    clear h2 h3 HNO HYES
    go_wp2_with fail
    go_ret
    exact bool_ret HF.out HB.out
  subst h3
  have b3 : (at' == at') = true := by simp
  by_cases h4 : ak = bk
  rotate_left
  · have HF := Lib.hid (HNO.out (fun h => h4 h.2.2.2.1))
    have b4 := text_ne h4
    clear h2 HNO HYES
    go_wp2_with fail
    go_ret
    exact bool_ret HF.out HB.out
  subst h4
  have b4 : (ak.toList == ak.toList) = true := by simp
  by_cases h5 : ab = bb
  rotate_left
  · have HF := Lib.hid (HNO.out (fun h => h5 h.2.2.2.2))
    have b5 := text_ne h5
    clear h2 HNO HYES
    go_wp2_with fail
    go_ret
    exact bool_ret HF.out HB.out
  subst h5
  have b5 : (ab.toList == ab.toList) = true := by simp
  have HF := Lib.hid (HYES.out ⟨by simp, h2, by simp, by simp, by simp⟩)
  clear h2 HNO HYES
  go_wp2_with fail
  go_ret
  exact bool_ret HF.out HB.out
end Go.Proofs.YteebeiaokfenmaaGreat.CP

namespace Go.Proofs.YteebeiaokfenmaaGreat.CP
open Go.RowKit
open CM (Mg Cm)
set_option linter.unusedVariables false
set_option linter.unusedSimpArgs false
set_option maxRecDepth 100000

theorem In_any (n a b : Int) (w : World) : Calls Tryz.prog 77 #[.int .i64 n, .int .i64 a, .int .i64 b] w fun e w' => e = .returned (.bool (decide (a ≤ n ∧ n < b))) ∧ w' = w := by
  by_cases h1 : a ≤ n
  · by_cases h2 : n < b
    · have hd : decide (a ≤ n ∧ n < b) = true := by simp [h1, h2]
      rw [hd]
      go_enter Tryz.func77, Tryz.ntmps77
      go_wp2
      go_ret
      exact ⟨rfl, rfl⟩
    · have hd : decide (a ≤ n ∧ n < b) = false := by simp; omega
      rw [hd]
      go_enter Tryz.func77, Tryz.ntmps77
      go_wp2
      go_ret
      exact ⟨rfl, rfl⟩
  · have hd : decide (a ≤ n ∧ n < b) = false := by simp; omega
    rw [hd]
    go_enter Tryz.func77, Tryz.ntmps77
    go_wp2
    go_ret
    exact ⟨rfl, rfl⟩
theorem Id_any (n : Int) (w : World) : Calls Tryz.prog 78 #[.int .i64 n] w fun e w' => e = .returned (.bool (decide (CM.idOk n))) ∧ w' = w := by
  obtain ⟨b, hb⟩ : ∃ b, b = decide (CM.idOk n) := ⟨_, rfl⟩
  have hc : ∀ w, Calls Tryz.prog 77 #[.int .i64 n, .int .i64 0, .int .i64 6291456] w fun e w' => e = .returned (.bool b) ∧ w' = w := by rw [hb]; exact In_any n 0 6291456
  rw [← hb]
  have C := Lib.hid hc
  clear hc hb
  go_enter Tryz.func78, Tryz.ntmps78
  go_wp2_with fail
  refine (C.out _).mono ?_
  rintro e w1 ⟨rfl, rfl⟩
  go_wp2_with fail
  go_ret
  exact ⟨rfl, rfl⟩

end Go.Proofs.YteebeiaokfenmaaGreat.CP

namespace Go.Proofs.YteebeiaokfenmaaGreat.CP
open Go.RowKit
open CM (Mg Cm)
set_option linter.unusedVariables false
set_option linter.unusedSimpArgs false
set_option maxRecDepth 100000

theorem rise_no {p z : Int} {l : List Int} (h : ¬ (0 ≤ z ∧ z < 4)) (hp : -1 ≤ p) : CM.riseG p (z :: l) = false := by
  simp only [CM.riseG]
  by_cases h1 : p < z
  · have : ¬ z < 4 := by omega
    simp [this]
  · simp [h1]
theorem rise_le {p z : Int} {l : List Int} (h : z ≤ p) : CM.riseG p (z :: l) = false := by
  simp only [CM.riseG]
  have : ¬ p < z := by omega
  simp [this]
theorem rise_up {p z : Int} {l : List Int} (h : p < z) (h4 : z < 4) : CM.riseG p (z :: l) = CM.riseG z l := by
  simp [CM.riseG, h, h4]
end Go.Proofs.YteebeiaokfenmaaGreat.CP

namespace Go.Proofs.YteebeiaokfenmaaGreat.CP
open Go.RowKit
open CM (Mg Cm)
set_option linter.unusedVariables false
set_option linter.unusedSimpArgs false
set_option maxRecDepth 100000

/-- which fields a kind has: message, id and time, members, id with topic and number, consumer -/
def Fl (k : Int) (a b c d e i : Bool) : Prop :=
  (k = 0 ∧ a = false ∧ b = false ∧ c = false ∧ d = false ∧ e = false ∧ i = true) ∨ (k = 1 ∧ a = true ∧ b = false ∧ c = false ∧ d = false ∧ e = false ∧ i = true) ∨
  (k = 2 ∧ a = false ∧ b = true ∧ c = false ∧ d = false ∧ e = false ∧ i = true) ∨ (k = 3 ∧ a = false ∧ b = false ∧ c = true ∧ d = false ∧ e = false ∧ i = true) ∨
  (k = 4 ∧ a = false ∧ b = false ∧ c = false ∧ d = true ∧ e = true ∧ i = true) ∨ (k = 5 ∧ a = false ∧ b = false ∧ c = false ∧ d = true ∧ e = false ∧ i = true) ∨
  (k = 6 ∧ a = false ∧ b = false ∧ c = false ∧ d = true ∧ e = false ∧ i = true) ∨
  ((k ≠ 0 ∧ k ≠ 1 ∧ k ≠ 2 ∧ k ≠ 3 ∧ k ≠ 4 ∧ k ≠ 5 ∧ k ≠ 6) ∧ a = false ∧ b = false ∧ c = false ∧ d = false ∧ e = false ∧ i = false)
theorem fl_ex (k : Int) : ∃ a b c d e i, Fl k a b c d e i := by
  unfold Fl
  by_cases h0 : k = 0
  · exact ⟨_, _, _, _, _, _, .inl ⟨h0, rfl, rfl, rfl, rfl, rfl, rfl⟩⟩
  by_cases h1 : k = 1
  · exact ⟨_, _, _, _, _, _, .inr (.inl ⟨h1, rfl, rfl, rfl, rfl, rfl, rfl⟩)⟩
  by_cases h2 : k = 2
  · exact ⟨_, _, _, _, _, _, .inr (.inr (.inl ⟨h2, rfl, rfl, rfl, rfl, rfl, rfl⟩))⟩
  by_cases h3 : k = 3
  · exact ⟨_, _, _, _, _, _, .inr (.inr (.inr (.inl ⟨h3, rfl, rfl, rfl, rfl, rfl, rfl⟩)))⟩
  by_cases h4 : k = 4
  · exact ⟨_, _, _, _, _, _, .inr (.inr (.inr (.inr (.inl ⟨h4, rfl, rfl, rfl, rfl, rfl, rfl⟩))))⟩
  by_cases h5 : k = 5
  · exact ⟨_, _, _, _, _, _, .inr (.inr (.inr (.inr (.inr (.inl ⟨h5, rfl, rfl, rfl, rfl, rfl, rfl⟩)))))⟩
  by_cases h6 : k = 6
  · exact ⟨_, _, _, _, _, _, .inr (.inr (.inr (.inr (.inr (.inr (.inl ⟨h6, rfl, rfl, rfl, rfl, rfl, rfl⟩))))))⟩
  exact ⟨_, _, _, _, _, _, .inr (.inr (.inr (.inr (.inr (.inr (.inr ⟨⟨h0, h1, h2, h3, h4, h5, h6⟩, rfl, rfl, rfl, rfl, rfl, rfl⟩))))))⟩
def FlIs (a b c d e i : Bool) (w : World) (x : Ending) (w' : World) : Prop := x = .returned (.tuple #[.agg #[.bool a, .bool b, .bool c, .bool d, .bool e], .bool i]) ∧ Below w.heap.size w w'
/-- a block that was just laid, filled at the end by just its own cells -/
theorem below_own {B : Nat} {a w : World} (h : Below B a w) {g : Nat} (hg : B ≤ g) (x y z u v : Value) : Below B a (((((w.setCell ⟨g, 0, none⟩ x).setCell ⟨g, 1, none⟩ y).setCell ⟨g, 2, none⟩ z).setCell ⟨g, 3, none⟩ u).setCell ⟨g, 4, none⟩ v) :=
  ((((h.setCell (p := ⟨g, 0, none⟩) hg x).setCell (p := ⟨g, 1, none⟩) hg y).setCell (p := ⟨g, 2, none⟩) hg z).setCell (p := ⟨g, 3, none⟩) hg u).setCell (p := ⟨g, 4, none⟩) hg v
theorem fl_ret {a b c d e i : Bool} (w : World) (tmps : Array Value) (h2 : tmps[2]?.getD undef = .pointer (some ⟨w.heap.size, 0, none⟩)) (h3 : tmps[3]?.getD undef = .bool i) :
    bodyPost Tryz.prog Tryz.f69 (FlIs a b c d e i w) .ret ⟨tmps, []⟩ (w.alloc (.cells #[.bool a, .bool b, .bool c, .bool d, .bool e] 126)) := by
  have X := Box.new w 126 #[.bool a, .bool b, .bool c, .bool d, .bool e]
  obtain ⟨d0, d1, d2, d3, d4⟩ := box_mg X
  exact bodyPost_ret (v := .tuple #[.agg #[.bool a, .bool b, .bool c, .bool d, .bool e], .bool i]) (by simp [results, Tryz.results69, go_sem, h2, h3, d0, d1, d2, d3, d4]; try rfl) rfl ⟨rfl, (Below.refl _ _).alloc (Nat.le_refl _) _⟩
set_option maxHeartbeats 4000000 in
theorem fields_any {k : Int} {a b c d e i : Bool} (h : Fl k a b c d e i) (w : World) : Calls Tryz.prog 69 #[.int .u8 k] w (FlIs a b c d e i w) := by
  rcases h with ⟨rfl, rfl, rfl, rfl, rfl, rfl, rfl⟩ | ⟨rfl, rfl, rfl, rfl, rfl, rfl, rfl⟩ | ⟨rfl, rfl, rfl, rfl, rfl, rfl, rfl⟩ | ⟨rfl, rfl, rfl, rfl, rfl, rfl, rfl⟩ | ⟨rfl, rfl, rfl, rfl, rfl, rfl, rfl⟩ | ⟨rfl, rfl, rfl, rfl, rfl, rfl, rfl⟩ | ⟨rfl, rfl, rfl, rfl, rfl, rfl, rfl⟩ | ⟨⟨h0, h1, h2, h3, h4, h5, h6⟩, rfl, rfl, rfl, rfl, rfl, rfl⟩
  all_goals
    try (
      have e0 : (k == 0) = false := by simpa using h0
      have e1 : (k == 1) = false := by simpa using h1
      have e2 : (k == 2) = false := by simpa using h2
      have e3 : (k == 3) = false := by simpa using h3
      have e4 : (k == 4) = false := by simpa using h4
      have e5 : (k == 5) = false := by simpa using h5
      have e6 : (k == 6) = false := by simpa using h6
      clear h0 h1 h2 h3 h4 h5 h6)
    go_enter Tryz.func69, Tryz.ntmps69
    go_wp2_with fail
    exact fl_ret w _ rfl rfl
theorem isNumber_any (h : Bool) (n a b : Int) (w : World) :
    Calls Tryz.prog 92 #[.bool h, .int .i64 n, .int .i64 a, .int .i64 b] w fun e w' => e = .returned (.bool (decide (if h = true then a ≤ n ∧ n ≤ b else n = 0))) ∧ w' = w := by
  cases h
  · obtain ⟨r, hr⟩ : ∃ r, r = (n == 0) := ⟨_, rfl⟩
    have he : decide (if false = true then a ≤ n ∧ n ≤ b else n = 0) = r := by rw [hr]; by_cases h : n = 0 <;> simp [h]
    rw [he]
    have HR := Lib.hid hr
    clear hr he
    go_enter Tryz.func92, Tryz.ntmps92
    go_wp2
    go_ret
    exact ⟨ret_eq HR.out.symm, rfl⟩
  · have he : decide (if true = true then a ≤ n ∧ n ≤ b else n = 0) = decide (a ≤ n ∧ n ≤ b) := by simp
    rw [he]
    clear he
    by_cases h1 : a ≤ n
    · by_cases h2 : n ≤ b
      · have hd : decide (a ≤ n ∧ n ≤ b) = true := by simp [h1, h2]
        rw [hd]
        go_enter Tryz.func92, Tryz.ntmps92
        go_wp2
        go_ret
        exact ⟨rfl, rfl⟩
      · have hd : decide (a ≤ n ∧ n ≤ b) = false := by simp; omega
        rw [hd]
        go_enter Tryz.func92, Tryz.ntmps92
        go_wp2
        go_ret
        exact ⟨rfl, rfl⟩
    · have hd : decide (a ≤ n ∧ n ≤ b) = false := by simp; omega
      rw [hd]
      go_enter Tryz.func92, Tryz.ntmps92
      go_wp2
      go_ret
      exact ⟨rfl, rfl⟩
set_option maxHeartbeats 4000000 in
theorem areGroups_any (A : Option Addr) (n c : Nat) (l : List Int) (w : World) (hr : Rd w A n (ic l)) (hm : n ≤ 9223372036854775807) :
    Calls Tryz.prog 62 #[.slice A n c] w fun e w' => e = .returned (.bool (decide (l ≠ []) && CM.riseG (-1) l)) ∧ w = w' := by
  obtain ⟨r, hrr⟩ : ∃ r, r = CM.riseG (-1) l := ⟨_, rfl⟩
  rw [← hrr]
  have hl : l.length = n := by have := hr.1; rwa [ic_length] at this
  have hne : decide (l ≠ []) = decide (0 < n) := by rw [← hl]; cases l <;> simp
  rw [hne]
  have HL := Lib.hid hl
  have hst : CM.riseG (-1) (l.drop 0) = r := by rw [hrr]; rfl
  clear hrr hl hne
  have HS := Lib.hid hst; clear hst
  go_enter Tryz.func62, Tryz.ntmps62
  go_wp2
  go_loop [3, 8] (fun a i => ∃ (k : Nat) (p : Int), k ≤ n ∧ i = .int .i64 k ∧ a = .int .i64 p ∧ -1 ≤ p ∧ Hid (CM.riseG p (l.drop k) = r)) (fun _ i => n - (intOf i).toNat)
  case atStart => exact ⟨0, -1, by omega, rfl, rfl, by omega, HS⟩
  case round =>
    clear HS
    obtain ⟨k, p, hk, rfl, rfl, hp, HR⟩ := hrel
    by_cases hlt : k < n
    · have hkz : k < l.length := by have := HL.out; omega
      obtain ⟨ad, u, rfl, _, hu, hcell⟩ := hr.at_ hlt
      rw [ic_get l k hkz] at hu
      injection hu with hu
      subst hu
      have hd := HR.out
      rw [List.drop_eq_getElem_cons hkz] at hd
      obtain ⟨z, hz⟩ : ∃ z, z = l[k] := ⟨_, rfl⟩
      rw [← hz] at hcell hd
      clear hz HR
      have h0n : decide (0 < n) = true := by simp; omega
      by_cases h1 : p < z
      · by_cases h2 : z < 4
        · have hd' := (rise_up h1 h2).symm.trans hd
          clear hd
          have HD := Lib.hid hd'; clear hd'
          go_wp2
          go_round
          case rel => exact ⟨k + 1, z, by omega, by go_num, rfl, by omega, HD⟩
          case measure => simp [intOf]; omega
        · have hd' : false = r := by rw [← hd]; simp [CM.riseG, h2]
          clear hd
          have HD := Lib.hid hd'; clear hd'
          go_wp2
          go_ret
          exact ⟨ret_eq HD.out, rfl⟩
      · have hd' : false = r := by rw [← hd]; simp [CM.riseG, h1]
        clear hd
        have HD := Lib.hid hd'; clear hd'
        go_wp2
        go_ret
        exact ⟨ret_eq HD.out, rfl⟩
    · have hd : true = r := by have := HR.out; rw [List.drop_of_length_le (by have := HL.out; omega)] at this; simpa [CM.riseG] using this
      have HD := Lib.hid (show decide (0 < n) = (decide (0 < n) && r) by rw [← hd]; simp); clear hd
      go_wp2
      go_ret
      exact ⟨ret_eq HD.out, rfl⟩
end Go.Proofs.YteebeiaokfenmaaGreat.CP

namespace Go.Proofs.YteebeiaokfenmaaGreat
open Go.RowKit
set_option linter.unusedVariables false
set_option maxRecDepth 100000

/-- a bool, and only draws -/
def BoolQ (b : Bool) (w : World) (e : Ending) (w' : World) : Prop := e = .returned (.bool b) ∧ ∃ q, w' = w.drewN q
theorem take_snoc_eq {α : Type} {xs ys : List α} {k : Nat} {a b : α} (h : xs.take k = ys.take k) (h1 : xs[k]? = some a) (h2 : ys[k]? = some b) (e : a = b) : xs.take (k + 1) = ys.take (k + 1) := by
  have g1 := List.getElem?_eq_some_iff.1 h1
  have g2 := List.getElem?_eq_some_iff.1 h2
  obtain ⟨l1, g1⟩ := g1
  obtain ⟨l2, g2⟩ := g2
  rw [List.take_succ_eq_append_getElem l1, List.take_succ_eq_append_getElem l2, h, g1, g2, e]
theorem ne_of_at {α : Type} {xs ys : List α} {k : Nat} {a b : α} (h1 : xs[k]? = some a) (h2 : ys[k]? = some b) (e : a ≠ b) : xs ≠ ys := fun h => e (by rw [h, h2] at h1; injection h1 with h1; exact h1.symm)
theorem ic_at {zs : List Int} {k : Nat} {u : Value} (h : (ic zs)[k]? = some u) : ∃ z, zs[k]? = some z ∧ u = .int .i64 z := by
  simp only [ic, List.getElem?_map, Option.map_eq_some_iff] at h
  obtain ⟨z, h1, h2⟩ := h
  exact ⟨z, h1, h2.symm⟩

set_option maxHeartbeats 1000000 in
theorem equalI_any (A : Option Addr) (n c : Nat) (xs : List Int) (B : Option Addr) (m d : Nat) (ys : List Int) (w : World) (h1 : Rd w A n (ic xs)) (h2 : Rd w B m (ic ys)) (hm : n ≤ 9223372036854775807) (hm2 : m ≤ 9223372036854775807) :
    Calls Tryz.prog 89 #[.slice A n c, .slice B m d] w (BoolQ (decide (xs = ys)) w) := by
  have l1 : xs.length = n := by have := h1.1; rwa [ic_length] at this
  have l2 : ys.length = m := by have := h2.1; rwa [ic_length] at this
  obtain ⟨r, hr⟩ : ∃ r, r = decide (xs = ys) := ⟨_, rfl⟩
  rw [← hr]
  have HR := Lib.hid hr; clear hr
  by_cases hnm : n = m
  · subst hnm
    have HL1 := Lib.hid l1
    have HL2 := Lib.hid l2
    clear l1 l2
    have hne : ((n : Int) != (n : Int)) = false := by simp
    have HS := Lib.hid (show xs.take 0 = ys.take 0 by simp)
    go_enter Tryz.func89, Tryz.ntmps89
    go_wp2
    go_loopw [13] (fun i wr => ∃ k q : Nat, k ≤ n ∧ i = .int .i64 k ∧ wr = w.drewN q ∧ Hid (xs.take k = ys.take k)) (fun i _ => n - (intOf i).toNat)
    case atStart => exact ⟨0, 0, by omega, rfl, rfl, HS⟩
    case round =>
      clear HS
      obtain ⟨k, q, hk, rfl, rfl, HT⟩ := hrel
      by_cases hlt : k < n
      · obtain ⟨ad1, u1, rfl, _, hu1, hcell1⟩ := h1.at_ hlt
        obtain ⟨ad2, u2, rfl, _, hu2, hcell2⟩ := h2.at_ hlt
        obtain ⟨z1, e1, rfl⟩ := ic_at hu1
        obtain ⟨z2, e2, rfl⟩ := ic_at hu2
        have hk0 : (0 : Int) ≤ (k : Int) := by omega
        have hkn : (k : Int) < (n : Int) := by omega
        clear hu1 hu2
        by_cases he : z1 = z2
        · subst he
          have HT2 := Lib.hid (take_snoc_eq HT.out e1 e2 rfl)
          clear e1 e2 HT
          have hbz : (z1 != z1) = false := by simp
          go_wp2_with fail
          go_quiet (fail)
          go_wp2_with fail
          go_roundw
          case rel => exact ⟨k + 1, q + nq, by omega, by go_num, by simp, HT2⟩
          case measure => simp [intOf]; omega
        · have HN := Lib.hid (ne_of_at e1 e2 he)
          have hbz : (z1 != z2) = true := by simpa using he
          clear e1 e2 HT he
          go_wp2_with fail
          go_quiet (fail)
          go_wp2_with fail
          go_ret
          exact ⟨by rw [HR.out]; simp [HN.out], q + nq, by simp⟩
      · obtain rfl : n = k := by omega
        have ht : xs = ys := by
          have := HT.out
          rwa [List.take_of_length_le (by have := HL1.out; omega), List.take_of_length_le (by have := HL2.out; omega)] at this
        have HE := Lib.hid ht; clear ht HT
        go_wp2
        go_ret
        exact ⟨by rw [HR.out]; simp [HE.out], q, rfl⟩
  · have hne : ((n : Int) != (m : Int)) = true := by simp; omega
    have hn : ¬ xs = ys := fun e => hnm (by rw [← l1, ← l2, e])
    have hf : r = false := by rw [HR.out]; simpa using hn
    have HF := Lib.hid hf
    clear hn hf
    clear l1 l2 h1 h2
    go_enter Tryz.func89, Tryz.ntmps89
    go_wp2
    go_ret
    exact ⟨by rw [HF.out]; rfl, 0, rfl⟩

end Go.Proofs.YteebeiaokfenmaaGreat

namespace Go.Proofs.YteebeiaokfenmaaGreat.CP
open Go.RowKit
open CM (Mg Cm)
set_option linter.unusedVariables false
set_option linter.unusedSimpArgs false
set_option maxRecDepth 100000

theorem equal_is (A B : Option Addr) (ca cb : Nat) (x y : List Int) (w : World) (h1 : Rd w A x.length (ic x)) (h2 : Rd w B y.length (ic y)) (hm : x.length ≤ maxLen) (hm2 : y.length ≤ maxLen) :
    Calls Tryz.prog 89 #[.slice A x.length ca, .slice B y.length cb] w (BoolIs (decide (x = y)) w) := by
  unfold maxLen at hm hm2
  refine (equalI_any A x.length ca x B y.length cb y w h1 h2 (by omega) (by omega)).mono ?_
  rintro e w' ⟨rfl, q, rfl⟩
  exact ⟨rfl, drewN_below w q⟩
set_option maxHeartbeats 4000000 in
theorem psameMg_any (a b : Mg) (va vb : Value) (w : World) (ha : MgIs w va a) (hb : MgIs w vb b) :
    Calls Tryz.prog 64 #[va, vb] w (BoolIs (decide (a = b)) w) := by
  obtain ⟨A, c, rfl, r1, r1c, r1m⟩ := ha
  obtain ⟨B, d, rfl, r2, r2c, r2m⟩ := hb
  obtain ⟨ai, ag, at', ak, ab⟩ := a
  obtain ⟨bi, bg, bt, bk, bb⟩ := b
  simp only at r1 r1c r2 r2c
  have hiff : ((⟨ai, ag, at', ak, ab⟩ : Mg) = ⟨bi, bg, bt, bk, bb⟩) ↔ (ai = bi ∧ ag = bg ∧ at' = bt ∧ ak = bk ∧ ab = bb) := by simp
  have hno : ¬ (ai = bi ∧ ag = bg ∧ at' = bt ∧ ak = bk ∧ ab = bb) → false = decide ((⟨ai, ag, at', ak, ab⟩ : Mg) = ⟨bi, bg, bt, bk, bb⟩) := fun h => by
    have : ¬ ((⟨ai, ag, at', ak, ab⟩ : Mg) = ⟨bi, bg, bt, bk, bb⟩) := fun e => h (hiff.1 e)
    rw [decide_eq_false this]
  have hyes : (ai = bi ∧ ag = bg ∧ at' = bt ∧ ak = bk ∧ ab = bb) → true = decide ((⟨ai, ag, at', ak, ab⟩ : Mg) = ⟨bi, bg, bt, bk, bb⟩) := fun h => by
    rw [decide_eq_true (hiff.2 h)]
  have HNO := Lib.hid hno
  have HYES := Lib.hid hyes
  clear hno hyes hiff
  generalize decide ((⟨ai, ag, at', ak, ab⟩ : Mg) = ⟨bi, bg, bt, bk, bb⟩) = r at HNO HYES ⊢
  show Calls _ _ #[.agg #[.int .i64 ai, .slice A ag.length c, .int .i64 at', .string ak, .string ab], .agg #[.int .i64 bi, .slice B bg.length d, .int .i64 bt, .string bk, .string bb]] _ _
  have hb0 : ∀ o1 o2 : Obj, Below w.heap.size w ((w.alloc o1).alloc o2) := fun o1 o2 => ((Below.refl _ _).alloc (Nat.le_refl _) _).alloc (by simp) _
  have hs : ∀ o1 o2 : Obj, ((w.alloc o1).alloc o2).heap.size = w.heap.size + 2 := fun _ _ => by simp
  have hX : Box ((w.alloc (.cells #[.int .i64 ai, .slice A ag.length c, .int .i64 at', .string ak, .string ab] 33)).alloc (.cells #[.int .i64 bi, .slice B bg.length d, .int .i64 bt, .string bk, .string bb] 33)) w.heap.size 33 #[.int .i64 ai, .slice A ag.length c, .int .i64 at', .string ak, .string ab] := (Box.new _ _ _).alloc _
  have hY : Box ((w.alloc (.cells #[.int .i64 ai, .slice A ag.length c, .int .i64 at', .string ak, .string ab] 33)).alloc (.cells #[.int .i64 bi, .slice B bg.length d, .int .i64 bt, .string bk, .string bb] 33)) (w.heap.size + 1) 33 #[.int .i64 bi, .slice B bg.length d, .int .i64 bt, .string bk, .string bb] := Box.new_at _ (by simp)
  have C := Lib.hid (equal_is A B c d ag bg _ (r1.below (hb0 (.cells #[.int .i64 ai, .slice A ag.length c, .int .i64 at', .string ak, .string ab] 33) (.cells #[.int .i64 bi, .slice B bg.length d, .int .i64 bt, .string bk, .string bb] 33))) (r2.below (hb0 _ _)) (by omega) (by omega))
  have HX := Lib.hid hX
  have HY := Lib.hid hY
  have HB := Lib.hid (hb0 (.cells #[.int .i64 ai, .slice A ag.length c, .int .i64 at', .string ak, .string ab] 33) (.cells #[.int .i64 bi, .slice B bg.length d, .int .i64 bt, .string bk, .string bb] 33))
  clear hX hY hb0 hs r1 r2
  go_enter Tryz.func64, Tryz.ntmps64
  go_upto_region 1 with (fail)
  generalize (w.alloc (.cells #[.int .i64 ai, .slice A ag.length c, .int .i64 at', .string ak, .string ab] 33)).alloc (.cells #[.int .i64 bi, .slice B bg.length d, .int .i64 bt, .string bk, .string bb] 33) = w1 at HX HY HB C ⊢
  have G1 := Lib.hid HX.out.lt
  have G2 := Lib.hid HY.out.lt
  generalize hg1 : w.heap.size + 1 = g1 at HY G2 ⊢
  clear hg1
  generalize hg0 : w.heap.size = g0 at HX G1 ⊢
  clear hg0
  by_cases h1 : ai = bi
  rotate_left
  · have HF := Lib.hid (HNO.out (fun h => h1 h.1))
    have b1 : (ai == bi) = false := by simpa using h1
    obtain ⟨x0, x1, x2, x3, x4⟩ := box_mg HX.out
    obtain ⟨y0, y1, y2, y3, y4⟩ := box_mg HY.out
    clear h1 HNO HYES C HX HY
    go_wp2_with fail
    go_ret
    exact bool_ret HF.out HB.out
  subst h1
  have b1 : (ai == ai) = true := by simp
  obtain ⟨x0, x1, x2, x3, x4⟩ := box_mg HX.out
  obtain ⟨y0, y1, y2, y3, y4⟩ := box_mg HY.out
  go_wp2_with fail
  refine (C.out).mono ?_
  rintro e w2 ⟨rfl, hb2⟩
  clear x0 x1 x2 x3 x4 y0 y1 y2 y3 y4
  obtain ⟨x0, x1, x2, x3, x4⟩ := box_mg (HX.out.below hb2 G1.out)
  obtain ⟨y0, y1, y2, y3, y4⟩ := box_mg (HY.out.below hb2 G2.out)
  replace HB := Lib.hid (HB.out.trans (hb2.mono HB.out.size))
  clear C HX HY G1 G2 hb2
  by_cases h2 : ag = bg
  rotate_left
  · have HF := Lib.hid (HNO.out (fun h => h2 h.2.1))
    have b2 : decide (ag = bg) = false := by simpa using h2
    rw [b2]
    clear h2 HNO HYES b2
    go_wp2_with fail
    go_ret
    exact bool_ret HF.out HB.out
  rw [decide_eq_true h2]
  by_cases h3 : at' = bt
  rotate_left
  · have HF := Lib.hid (HNO.out (fun h => h3 h.2.2.1))
    have b3 : (at' == bt) = false := by simpa using h3
    clear h2 h3 HNO HYES
    go_wp2_with fail
    go_ret
    exact bool_ret HF.out HB.out
  subst h3
  have b3 : (at' == at') = true := by simp
  by_cases h4 : ak = bk
  rotate_left
  · have HF := Lib.hid (HNO.out (fun h => h4 h.2.2.2.1))
    have b4 := text_ne h4
    clear h2 HNO HYES
    go_wp2_with fail
    go_ret
    exact bool_ret HF.out HB.out
  subst h4
  have b4 : (ak.toList == ak.toList) = true := by simp
  by_cases h5 : ab = bb
  rotate_left
  · have HF := Lib.hid (HNO.out (fun h => h5 h.2.2.2.2))
    have b5 := text_ne h5
    clear h2 HNO HYES
    go_wp2_with fail
    go_ret
    exact bool_ret HF.out HB.out
  subst h5
  have b5 : (ab.toList == ab.toList) = true := by simp
  have HF := Lib.hid (HYES.out ⟨by simp, h2, by simp, by simp, by simp⟩)
  clear h2 HNO HYES
  go_wp2_with fail
  go_ret
  exact bool_ret HF.out HB.out
end Go.Proofs.YteebeiaokfenmaaGreat.CP
