/-
  What package record's Check answers, and what it calls: fieldsOf, isPlace, isBallot, isValue. Conditions: as each theorem says.
-/
import Derived.Test.YtohiemdodffhoaaBallotC
import Derived.Test.YtohiemdodffhoaaRecMath
import Derived.Test.YtohiemdodffhoaaBox
namespace Go.Proofs.Ytohiemdodffhoaa.RP
open Go.RowKit
set_option linter.unusedVariables false
set_option linter.unusedSimpArgs false

theorem str_none (s : ByteArray) : s.toList.isEmpty = true ↔ s = .empty := by
  rw [List.isEmpty_iff, ByteArray.toList_eq]
  constructor
  · intro h
    obtain ⟨⟨l⟩⟩ := s
    simp at h
    rw [h]; rfl
  · rintro rfl; rfl
/-- a record in memory: five cells -/
theorem five {w : World} {g : Nat} {t : TypeId} {a b c d f : Value} (h : Box w g t #[a, b, c, d, f]) :
    w.cell? ⟨g, 0, none⟩ = some a ∧ w.cell? ⟨g, 1, none⟩ = some b ∧ w.cell? ⟨g, 2, none⟩ = some c ∧ w.cell? ⟨g, 3, none⟩ = some d ∧ w.cell? ⟨g, 4, none⟩ = some f :=
  ⟨h.cell 0, h.cell 1, h.cell 2, h.cell 3, h.cell 4⟩

/-- which fields a kind has -/
def Fld (k : Int) (x y : Bool) : Prop := (k = 1 ∧ x = true ∧ y = false) ∨ (k = 2 ∧ x = true ∧ y = true) ∨ (k = 3 ∧ x = false ∧ y = true) ∨ ((k ≠ 1 ∧ k ≠ 2 ∧ k ≠ 3) ∧ x = false ∧ y = false)
theorem fld_ex (k : Int) : ∃ x y, Fld k x y := by
  by_cases h1 : k = 1
  · exact ⟨_, _, .inl ⟨h1, rfl, rfl⟩⟩
  by_cases h2 : k = 2
  · exact ⟨_, _, .inr (.inl ⟨h2, rfl, rfl⟩)⟩
  by_cases h3 : k = 3
  · exact ⟨_, _, .inr (.inr (.inl ⟨h3, rfl, rfl⟩))⟩
  exact ⟨_, _, .inr (.inr (.inr ⟨⟨h1, h2, h3⟩, rfl, rfl⟩))⟩
set_option maxHeartbeats 400000 in
theorem fields_any {k : Int} {x y : Bool} (h : Fld k x y) (w : World) : Calls Try.prog 64 #[.int .u8 k] w fun e w' => e = .returned (.tuple #[.bool x, .bool y]) ∧ w = w' := by
  rcases h with ⟨rfl, rfl, rfl⟩ | ⟨rfl, rfl, rfl⟩ | ⟨rfl, rfl, rfl⟩ | ⟨⟨h1, h2, h3⟩, rfl, rfl⟩
  · go_enter Try.func64, Try.ntmps64
    go_wp2
    go_ret2
    exact ⟨rfl, rfl⟩
  · go_enter Try.func64, Try.ntmps64
    go_wp2
    go_ret2
    exact ⟨rfl, rfl⟩
  · go_enter Try.func64, Try.ntmps64
    go_wp2
    go_ret2
    exact ⟨rfl, rfl⟩
  · have e1 : (k == 1) = false := by simpa using h1
    have e2 : (k == 2) = false := by simpa using h2
    have e3 : (k == 3) = false := by simpa using h3
    clear h1 h2 h3
    go_enter Try.func64, Try.ntmps64
    go_wp2
    go_ret2
    exact ⟨rfl, rfl⟩

def Place (g s : Int) : Prop := (0 ≤ g ∧ g ≤ 3) ∧ (1 ≤ s ∧ s ≤ 200)
set_option maxHeartbeats 1000000 in
theorem place_is {x : Bool} (k g s b : Int) (v : ByteArray) (h : x = true ↔ Place g s) (w : World) :
    Calls Try.prog 67 #[.agg #[.int .u8 k, .int .i64 g, .int .i64 s, .int .i64 b, .string v]] w fun e w' => e = .returned (.bool x) ∧ Below w.heap.size w w' := by
  have HB := Lib.hid (show Below w.heap.size w (w.alloc (.cells #[.int .u8 k, .int .i64 g, .int .i64 s, .int .i64 b, .string v] 29)) from (Below.refl _ _).alloc (Nat.le_refl _) _)
  unfold Place at h
  cases x
  · have h' : ¬ ((0 ≤ g ∧ g ≤ 3) ∧ (1 ≤ s ∧ s ≤ 200)) := fun q => by have := h.2 q; cases this
    rcases (show g < 0 ∨ (0 ≤ g ∧ 4 ≤ g) ∨ (0 ≤ g ∧ g < 4 ∧ s < 1) ∨ (0 ≤ g ∧ g < 4 ∧ 1 ≤ s ∧ 200 < s) by omega) with h1 | ⟨h1, h2⟩ | ⟨h1, h2, h3⟩ | ⟨h1, h2, h3, h4⟩
    all_goals
      clear h h'
      go_enter Try.func67, Try.ntmps67
      go_wp2
      go_ret
      exact ⟨by simp; try omega, HB.out⟩
  · have h' := h.1 rfl
    obtain ⟨⟨h1, h2⟩, h3, h4⟩ := h'
    have h5 : g < 4 := by omega
    clear h
    go_enter Try.func67, Try.ntmps67
    go_wp2
    go_ret
    exact ⟨by simp; try omega, HB.out⟩

def BalOk (x : Bool) (b : Int) : Prop := if x then BM.good b else b = 0
set_option maxHeartbeats 1000000 in
theorem bal_is {x q : Bool} (b : Int) (h : q = true ↔ BalOk x b) (h1 : -9223372036854775808 ≤ b) (h2 : b ≤ 9223372036854775807) (w : World) :
    Calls Try.prog 68 #[.bool x, .int .i64 b] w fun e w' => e = .returned (.bool q) ∧ w = w' := by
  unfold BalOk at h
  cases x
  · simp only [Bool.false_eq_true, if_false] at h
    obtain rfl : q = (b == 0) := by rw [Bool.eq_iff_iff, h]; simp
    clear h
    go_enter Try.func68, Try.ntmps68
    go_wp2
    go_ret
    exact ⟨rfl, rfl⟩
  · simp only [if_true] at h
    by_cases hg : BM.good b
    · obtain rfl : q = true := h.2 hg
      have HO := Lib.hid (show BM.OfIs b (b / 8) (b % 8) 0 from .inl ⟨hg, rfl, rfl, rfl⟩)
      clear h hg
      go_enter Try.func68, Try.ntmps68
      go_wp2_with fail
      refine (check_any HO.out h1 h2 _).mono ?_
      rintro e w1 ⟨rfl, rfl⟩
      go_wp2_with fail
      go_ret
      exact ⟨rfl, rfl⟩
    · obtain rfl : q = false := by cases q; rfl; exact absurd (h.1 rfl) hg
      have HO := Lib.hid (show BM.OfIs b 0 0 50 from .inr ⟨hg, rfl, rfl, rfl⟩)
      clear h hg
      go_enter Try.func68, Try.ntmps68
      go_wp2_with fail
      refine (check_any HO.out h1 h2 _).mono ?_
      rintro e w1 ⟨rfl, rfl⟩
      go_wp2_with fail
      go_ret
      exact ⟨rfl, rfl⟩

def ValOk (y : Bool) (v : ByteArray) : Prop := if y then v.size ≤ 1024 else v = .empty
theorem val_is {y u : Bool} (v : ByteArray) (h : u = true ↔ ValOk y v) (hs : v.size ≤ maxLen) (w : World) :
    Calls Try.prog 69 #[.bool y, .string v] w fun e w' => e = .returned (.bool u) ∧ w = w' := by
  unfold maxLen at hs
  unfold ValOk at h
  cases y
  · simp only [Bool.false_eq_true, if_false] at h
    obtain rfl : u = v.toList.isEmpty := by rw [Bool.eq_iff_iff, h, str_none]
    clear h
    go_enter Try.func69, Try.ntmps69
    go_wp2
    go_ret
    exact ⟨rfl, rfl⟩
  · simp only [if_true] at h
    obtain rfl : u = decide ((v.size : Int) ≤ 1024) := by rw [Bool.eq_iff_iff, h, decide_eq_true_iff]; omega
    clear h
    go_enter Try.func69, Try.ntmps69
    go_wp2
    go_ret
    exact ⟨rfl, rfl⟩

def ChkIs (r : RM.Rc) (e : Int) : Prop := (RM.may r ∧ e = 0) ∨ (¬ RM.may r ∧ e = 8)
theorem chkIs_ex (r : RM.Rc) : ∃ e, ChkIs r e := by
  by_cases h : RM.may r
  · exact ⟨0, .inl ⟨h, rfl⟩⟩
  · exact ⟨8, .inr ⟨h, rfl⟩⟩
theorem may_iff {k g s b : Int} {v : ByteArray} {x y p q u : Bool} (hf : Fld k x y) (hp : p = true ↔ Place g s) (hq : q = true ↔ BalOk x b) (hu : u = true ↔ ValOk y v) :
    RM.may ⟨k, g, s, b, v⟩ ↔ (x || y) = true ∧ p = true ∧ q = true ∧ u = true := by
  rw [hp, hq, hu]
  unfold RM.may Place BalOk ValOk
  rcases hf with ⟨rfl, rfl, rfl⟩ | ⟨rfl, rfl, rfl⟩ | ⟨rfl, rfl, rfl⟩ | ⟨⟨h1, h2, h3⟩, rfl, rfl⟩ <;> simp <;> (try simp [*]) <;> (try (constructor <;> (rintro ⟨a, b, c⟩; simp_all)))

theorem bool_ex (P : Prop) : ∃ x : Bool, x = true ↔ P := by
  by_cases h : P
  · exact ⟨true, by simp [h]⟩
  · exact ⟨false, by simp [h]⟩
set_option maxRecDepth 100000 in
set_option maxHeartbeats 4000000 in
theorem chk_any {e : Int} (k g s b : Int) (v : ByteArray) (h : ChkIs ⟨k, g, s, b, v⟩ e) (h1 : -9223372036854775808 ≤ b) (h2 : b ≤ 9223372036854775807) (hs : v.size ≤ maxLen) (w : World) :
    Calls Try.prog 37 #[.agg #[.int .u8 k, .int .i64 g, .int .i64 s, .int .i64 b, .string v]] w fun e' w' => e' = .returned (.int .i64 e) ∧ Below w.heap.size w w' := by
  obtain ⟨x, y, hf⟩ := fld_ex k
  obtain ⟨p, hp⟩ : ∃ p : Bool, p = true ↔ Place g s := bool_ex _
  obtain ⟨q, hq⟩ : ∃ q : Bool, q = true ↔ BalOk x b := bool_ex _
  obtain ⟨u, hu⟩ : ∃ u : Bool, u = true ↔ ValOk y v := bool_ex _
  have he : e = if ((x || y) && (p && (q && u))) = true then 0 else 8 := by
    rcases h with ⟨hm, rfl⟩ | ⟨hm, rfl⟩
    · rw [if_pos]
      have := (may_iff hf hp hq hu).1 hm
      simpa using this
    · rw [if_neg]
      intro h
      refine hm ((may_iff hf hp hq hu).2 ?_)
      simpa using h
  have CF := Lib.hid (fun w => fields_any hf w)
  have CP := Lib.hid (fun w => place_is k g s b v hp w)
  have CQ := Lib.hid (fun w => bal_is b hq h1 h2 w)
  have CU := Lib.hid (fun w => val_is v hu hs w)
  have HB := Lib.hid (show Below w.heap.size w (w.alloc (.cells #[.int .u8 k, .int .i64 g, .int .i64 s, .int .i64 b, .string v] 29)) from (Below.refl _ _).alloc (Nat.le_refl _) _)
  have R0 := Lib.hid (Box.new w 29 #[.int .u8 k, .int .i64 g, .int .i64 s, .int .i64 b, .string v])
  clear h hp hq hu hs
  rcases hf with ⟨rfl, rfl, rfl⟩ | ⟨rfl, rfl, rfl⟩ | ⟨rfl, rfl, rfl⟩ | ⟨⟨n1, n2, n3⟩, rfl, rfl⟩
  case inr.inr.inr =>
    simp only [Bool.or_self, Bool.false_and, Bool.false_eq_true, if_false] at he
    subst he
    go_enter Try.func37, Try.ntmps37
    go_wp2_with fail
    refine (CF.out _).mono ?_
    rintro e w1 ⟨rfl, rfl⟩
    go_wp2_with fail
    go_ret
    exact ⟨rfl, HB.out⟩
  all_goals
    cases p
    · simp only [Bool.or_self, Bool.or_true, Bool.or_false, Bool.true_and, Bool.false_and, Bool.false_eq_true, if_false] at he
      subst he
      go_enter Try.func37, Try.ntmps37
      go_wp2_with fail
      refine (CF.out _).mono ?_
      rintro e w1 ⟨rfl, rfl⟩
      go_wp2_with fail
      refine (CP.out _).mono ?_
      rintro e w1 ⟨rfl, hb1⟩
      have HB1 := Lib.hid (bmore HB.out hb1 (by simp))
      clear hb1
      go_wp2_with fail
      go_ret
      exact ⟨rfl, HB1.out⟩
    cases q
    · simp only [Bool.or_self, Bool.or_true, Bool.or_false, Bool.true_and, Bool.false_and, Bool.false_eq_true, if_false] at he
      subst he
      go_enter Try.func37, Try.ntmps37
      go_wp2_with fail
      refine (CF.out _).mono ?_
      rintro e w1 ⟨rfl, rfl⟩
      go_wp2_with fail
      refine (CP.out _).mono ?_
      rintro e w1 ⟨rfl, hb1⟩
      have HB1 := Lib.hid (bmore HB.out hb1 (by simp))
      obtain ⟨c0, c1, c2, c3, c4⟩ := five (R0.out.below hb1 R0.out.lt)
      clear hb1
      go_wp2_with fail
      refine (CQ.out _).mono ?_
      rintro e w2 ⟨rfl, rfl⟩
      go_wp2_with fail
      go_ret
      exact ⟨rfl, HB1.out⟩
    cases u
    · simp only [Bool.or_self, Bool.or_true, Bool.or_false, Bool.true_and, Bool.false_and, Bool.false_eq_true, if_false] at he
      subst he
      go_enter Try.func37, Try.ntmps37
      go_wp2_with fail
      refine (CF.out _).mono ?_
      rintro e w1 ⟨rfl, rfl⟩
      go_wp2_with fail
      refine (CP.out _).mono ?_
      rintro e w1 ⟨rfl, hb1⟩
      have HB1 := Lib.hid (bmore HB.out hb1 (by simp))
      obtain ⟨c0, c1, c2, c3, c4⟩ := five (R0.out.below hb1 R0.out.lt)
      clear hb1
      go_wp2_with fail
      refine (CQ.out _).mono ?_
      rintro e w2 ⟨rfl, rfl⟩
      go_wp2_with fail
      refine (CU.out _).mono ?_
      rintro e w2 ⟨rfl, rfl⟩
      go_wp2_with fail
      go_ret
      exact ⟨rfl, HB1.out⟩
    · simp only [Bool.or_self, Bool.or_true, Bool.or_false, Bool.true_and, Bool.and_self, if_true] at he
      subst he
      go_enter Try.func37, Try.ntmps37
      go_wp2_with fail
      refine (CF.out _).mono ?_
      rintro e w1 ⟨rfl, rfl⟩
      go_wp2_with fail
      refine (CP.out _).mono ?_
      rintro e w1 ⟨rfl, hb1⟩
      have HB1 := Lib.hid (bmore HB.out hb1 (by simp))
      obtain ⟨c0, c1, c2, c3, c4⟩ := five (R0.out.below hb1 R0.out.lt)
      clear hb1
      go_wp2_with fail
      refine (CQ.out _).mono ?_
      rintro e w2 ⟨rfl, rfl⟩
      go_wp2_with fail
      refine (CU.out _).mono ?_
      rintro e w2 ⟨rfl, rfl⟩
      go_wp2_with fail
      go_ret
      exact ⟨rfl, HB1.out⟩
end Go.Proofs.Ytohiemdodffhoaa.RP
