/-
  What package vote answers: whether a vote may be, what is wrong with what it is asked, Prepare, Accept. Conditions: as each theorem says.
-/
import Derived.Test.YtohiemdodffhoaaBallotC
import Derived.Test.YtohiemdodffhoaaVoteMath
import Derived.Test.YtohiemdodffhoaaBox
namespace Go.Proofs.Ytohiemdodffhoaa.VP
open Go.RowKit
set_option linter.unusedVariables false

def BoolIs (B : Prop) (w : World) (e : Ending) (w' : World) : Prop := ∃ x : Bool, (x = true ↔ B) ∧ e = .returned (.bool x) ∧ Below w.heap.size w w'
theorem bool_ret {x y : Bool} {B : Prop} {w w' : World} (h : x = true ↔ B) (hb : Below w.heap.size w w') (e : y = x) : BoolIs B w (.returned (.bool y)) w' := ⟨x, h, by rw [e], hb⟩
theorem str_none (s : ByteArray) : s.toList.isEmpty = true ↔ s = .empty := by
  rw [List.isEmpty_iff, ByteArray.toList_eq]
  constructor
  · intro h
    obtain ⟨⟨l⟩⟩ := s
    simp at h
    rw [h]; rfl
  · rintro rfl; rfl
theorem fits_int {z : Int} (h : (Lit.int .i64 z).wf = true) : -9223372036854775808 ≤ z ∧ z ≤ 9223372036854775807 := by simpa [Lit.wf, IntKind.min, IntKind.max, IntKind.signed, IntKind.bits] using h

set_option maxRecDepth 100000 in
set_option maxHeartbeats 1000000 in
theorem isPromise_any (p b : Int) (s : ByteArray) (w : World) (h1 : -9223372036854775808 ≤ p) (h2 : p ≤ 9223372036854775807) :
    Calls Try.prog 110 #[.agg #[.int .i64 p, .int .i64 b, .string s]] w (BoolIs (VM.okP p) w) := by
  have hb0 : Below w.heap.size w (w.alloc (.cells #[.int .i64 p, .int .i64 b, .string s] 48)) := (Below.refl _ _).alloc (Nat.le_refl _) _
  have HB0 := Lib.hid hb0; clear hb0
  by_cases hz : p = 0
  · subst hz
    go_enter Try.func110, Try.ntmps110
    go_wp2_with fail
    go_ret
    exact ⟨true, by simp [VM.okP], rfl, HB0.out⟩
  · by_cases hg : BM.good p
    · have HO := Lib.hid (show BM.OfIs p (p / 8) (p % 8) 0 from .inl ⟨hg, rfl, rfl, rfl⟩)
      have HG := Lib.hid (show VM.okP p from .inr hg); clear hg
      go_enter Try.func110, Try.ntmps110
      go_wp2_with fail
      refine (check_any HO.out h1 h2 _).mono ?_
      rintro e w1 ⟨rfl, rfl⟩
      go_wp2_with fail
      go_ret
      exact ⟨true, ⟨fun _ => HG.out, fun _ => rfl⟩, rfl, HB0.out⟩
    · have HO := Lib.hid (show BM.OfIs p 0 0 50 from .inr ⟨hg, rfl, rfl, rfl⟩)
      have HG := Lib.hid (show ¬ VM.okP p from fun h => h.elim hz hg); clear hg
      have hz' : (p == 0) = false := by simpa using hz
      go_enter Try.func110, Try.ntmps110
      go_wp2_with fail
      refine (check_any HO.out h1 h2 _).mono ?_
      rintro e w1 ⟨rfl, rfl⟩
      go_wp2_with fail
      go_ret
      exact ⟨false, ⟨fun h => (by cases h), fun h => absurd h HG.out⟩, rfl, HB0.out⟩

set_option maxRecDepth 100000 in
set_option maxHeartbeats 1000000 in
theorem isAcc_any (p b : Int) (s : ByteArray) (w : World) (h1 : -9223372036854775808 ≤ b) (h2 : b ≤ 9223372036854775807) (hs : s.size ≤ maxLen) :
    Calls Try.prog 111 #[.agg #[.int .i64 p, .int .i64 b, .string s]] w (BoolIs (VM.okA p b s) w) := by
  unfold maxLen at hs
  have hb0 : Below w.heap.size w (w.alloc (.cells #[.int .i64 p, .int .i64 b, .string s] 48)) := (Below.refl _ _).alloc (Nat.le_refl _) _
  have HB0 := Lib.hid hb0; clear hb0
  by_cases hz : b = 0
  · subst hz
    go_enter Try.func111, Try.ntmps111
    go_wp2_with fail
    go_ret
    refine bool_ret (x := s.toList.isEmpty) ?_ HB0.out rfl
    rw [str_none]
    exact ⟨fun h => .inl ⟨rfl, h⟩, fun h => h.elim (fun h => h.2) (fun h => absurd rfl h.1)⟩
  · by_cases hg : BM.good b
    · have HO := Lib.hid (show BM.OfIs b (b / 8) (b % 8) 0 from .inl ⟨hg, rfl, rfl, rfl⟩)
      by_cases hp : b ≤ p
      · go_enter Try.func111, Try.ntmps111
        go_wp2_with fail
        refine (check_any HO.out h1 h2 _).mono ?_
        rintro e w1 ⟨rfl, rfl⟩
        go_wp2_with fail
        go_ret
        refine bool_ret (x := decide ((s.size : Int) ≤ 1024)) ?_ HB0.out rfl
        rw [decide_eq_true_iff]
        exact ⟨fun h => .inr ⟨hz, hg, hp, by omega⟩, fun h => h.elim (fun h => absurd h.1 hz) (fun h => by have := h.2.2.2; omega)⟩
      · go_enter Try.func111, Try.ntmps111
        go_wp2_with fail
        refine (check_any HO.out h1 h2 _).mono ?_
        rintro e w1 ⟨rfl, rfl⟩
        go_wp2_with fail
        go_ret
        refine bool_ret (x := false) ?_ HB0.out rfl
        exact ⟨fun h => (by cases h), fun h => h.elim (fun h => absurd h.1 hz) (fun h => by have := h.2.2.1; omega)⟩
    · have HO := Lib.hid (show BM.OfIs b 0 0 50 from .inr ⟨hg, rfl, rfl, rfl⟩)
      have HG := Lib.hid (show ¬ VM.okA p b s from fun h => h.elim (fun h => hz h.1) (fun h => hg h.2.1)); clear hg
      have hz' : (b == 0) = false := by simpa using hz
      go_enter Try.func111, Try.ntmps111
      go_wp2_with fail
      refine (check_any HO.out h1 h2 _).mono ?_
      rintro e w1 ⟨rfl, rfl⟩
      go_wp2_with fail
      go_ret
      exact ⟨false, ⟨fun h => (by cases h), fun h => absurd h HG.out⟩, rfl, HB0.out⟩
/-- the cells of a boxed vote, behind a call -/
theorem vote_cells {w w1 : World} {T : TypeId} {p b : Int} {s : ByteArray} (hb : Below (w.alloc (.cells #[.int .i64 p, .int .i64 b, .string s] T)).heap.size (w.alloc (.cells #[.int .i64 p, .int .i64 b, .string s] T)) w1) :
    w1.cell? ⟨w.heap.size, 0, none⟩ = some (.int .i64 p) ∧ w1.cell? ⟨w.heap.size, 1, none⟩ = some (.int .i64 b) ∧ w1.cell? ⟨w.heap.size, 2, none⟩ = some (.string s) := by
  refine ⟨?_, ?_, ?_⟩
  · rw [hb.cell (p := ⟨w.heap.size, 0, none⟩) (by simp)]; simp
  · rw [hb.cell (p := ⟨w.heap.size, 1, none⟩) (by simp)]; simp
  · rw [hb.cell (p := ⟨w.heap.size, 2, none⟩) (by simp)]; simp
theorem below_put1 {B g k : Nat} {a w : World} (h : Below B a w) (hg : B ≤ g) (x : Value) : Below B a (w.setCell ⟨g, k, none⟩ x) := h.setCell hg x
def IntIs (x : Int) (w : World) (e : Ending) (w' : World) : Prop := e = .returned (.int .i64 x) ∧ Below w.heap.size w w'
def ChkIs (p b : Int) (s : ByteArray) (e : Int) : Prop := (VM.may p b s ∧ e = 0) ∨ (¬ VM.may p b s ∧ e = 8)
theorem chkIs_ex (p b : Int) (s : ByteArray) : ∃ e, ChkIs p b s e := by
  by_cases h : VM.may p b s
  · exact ⟨_, .inl ⟨h, rfl⟩⟩
  · exact ⟨_, .inr ⟨h, rfl⟩⟩

set_option maxRecDepth 100000 in
set_option maxHeartbeats 1000000 in
theorem vcheck_any {p b : Int} {s : ByteArray} {e : Int} (w : World) (hp1 : -9223372036854775808 ≤ p) (hp2 : p ≤ 9223372036854775807) (h1 : -9223372036854775808 ≤ b) (h2 : b ≤ 9223372036854775807) (hs : s.size ≤ maxLen) (h : ChkIs p b s e) :
    Calls Try.prog 99 #[.agg #[.int .i64 p, .int .i64 b, .string s]] w (IntIs e w) := by
  have hb0 : Below w.heap.size w (w.alloc (.cells #[.int .i64 p, .int .i64 b, .string s] 48)) := (Below.refl _ _).alloc (Nat.le_refl _) _
  have HB0 := Lib.hid hb0; clear hb0
  have HC := Lib.hid h; clear h
  go_enter Try.func99, Try.ntmps99
  go_wp2_with fail
  refine (isPromise_any p b s _ hp1 hp2).mono ?_
  rintro e w1 ⟨x, hx, rfl, hb1⟩
  obtain ⟨c0, c1, c2⟩ := vote_cells hb1
  have HB1 := Lib.hid (bmore HB0.out hb1 (by simp)); clear hb1 HB0
  have HX := Lib.hid hx; clear hx
  cases x
  · go_wp2_with fail
    go_ret
    rcases HC.out with ⟨hm, rfl⟩ | ⟨hm, rfl⟩
    · exact absurd (HX.out.2 hm.1) (by decide)
    · exact ⟨rfl, HB1.out⟩
  · go_wp2_with fail
    refine (isAcc_any p b s _ h1 h2 hs).mono ?_
    rintro e w2 ⟨y, hy, rfl, hb2⟩
    have HB2 := Lib.hid (bmore HB1.out hb2 (Nat.le_refl _)); clear hb2 HB1 c0 c1 c2
    have HY := Lib.hid hy; clear hy
    cases y
    · go_wp2_with fail
      go_ret
      rcases HC.out with ⟨hm, rfl⟩ | ⟨hm, rfl⟩
      · exact absurd (HY.out.2 hm.2) (by decide)
      · exact ⟨rfl, HB2.out⟩
    · go_wp2_with fail
      go_ret
      rcases HC.out with ⟨hm, rfl⟩ | ⟨hm, rfl⟩
      · exact ⟨rfl, HB2.out⟩
      · exact absurd ⟨HX.out.1 (by trivial), HY.out.1 (by trivial)⟩ hm

set_option maxRecDepth 100000 in
set_option maxHeartbeats 1000000 in
theorem wrong_any {p b : Int} {s : ByteArray} {k : Int} {v : ByteArray} {e : Int} (w : World) (hp1 : -9223372036854775808 ≤ p) (hp2 : p ≤ 9223372036854775807) (h1 : -9223372036854775808 ≤ b) (h2 : b ≤ 9223372036854775807) (hs : s.size ≤ maxLen)
    (hk1 : -9223372036854775808 ≤ k) (hk2 : k ≤ 9223372036854775807) (hv : v.size ≤ maxLen) (h : VM.WrongIs p b s k v e) :
    Calls Try.prog 92 #[.agg #[.int .i64 p, .int .i64 b, .string s], .int .i64 k, .string v] w (IntIs e w) := by
  have hb0 : Below w.heap.size w (w.alloc (.cells #[.int .i64 p, .int .i64 b, .string s] 48)) := (Below.refl _ _).alloc (Nat.le_refl _) _
  have HB0 := Lib.hid hb0; clear hb0
  have HC := Lib.hid h; clear h
  obtain ⟨y, hy⟩ := chkIs_ex p b s
  have HY := Lib.hid hy; clear hy
  have hv' : v.size ≤ 9223372036854775807 := by unfold maxLen at hv; omega
  go_enter Try.func92, Try.ntmps92
  go_wp2_with fail
  refine (vcheck_any _ hp1 hp2 h1 h2 hs HY.out).mono ?_
  rintro e w1 ⟨rfl, hb1⟩
  obtain ⟨c0, c1, c2⟩ := vote_cells hb1
  have HB1 := Lib.hid (bmore HB0.out hb1 (by simp)); clear hb1 HB0 hs hv
  rcases HY.out with ⟨hm, rfl⟩ | ⟨hm, rfl⟩
  · have HM := Lib.hid hm; clear hm
    by_cases hg : BM.good k
    · have HO := Lib.hid (show BM.OfIs k (k / 8) (k % 8) 0 from .inl ⟨hg, rfl, rfl, rfl⟩)
      have HG := Lib.hid hg; clear hg
      rcases (show v.size ≤ 1024 ∨ 1024 < v.size by omega) with hl | hl
      · rcases (show p ≤ k ∨ k < p by omega) with hp | hp
        · obtain rfl : e = 0 := by
            rcases HC.out with ⟨h, _⟩ | ⟨_, h, _⟩ | ⟨_, _, h, _⟩ | ⟨_, _, _, h, _⟩ | ⟨_, _, _, _, h⟩
            · exact absurd HM.out h
            · exact absurd HG.out h
            · omega
            · omega
            · exact h
          go_wp2_with fail
          refine (check_any HO.out hk1 hk2 _).mono ?_
          rintro e w2 ⟨rfl, rfl⟩
          go_wp2_with fail
          go_ret
          exact ⟨rfl, HB1.out⟩
        · obtain rfl : e = 70 := by
            rcases HC.out with ⟨h, _⟩ | ⟨_, h, _⟩ | ⟨_, _, h, _⟩ | ⟨_, _, _, _, h⟩ | ⟨_, _, _, h, _⟩
            · exact absurd HM.out h
            · exact absurd HG.out h
            · omega
            · exact h
            · omega
          go_wp2_with fail
          refine (check_any HO.out hk1 hk2 _).mono ?_
          rintro e w2 ⟨rfl, rfl⟩
          go_wp2_with fail
          go_ret
          exact ⟨rfl, HB1.out⟩
      · obtain rfl : e = 3 := by
          rcases HC.out with ⟨h, _⟩ | ⟨_, h, _⟩ | ⟨_, _, _, h⟩ | ⟨_, _, h, _, _⟩ | ⟨_, _, h, _, _⟩
          · exact absurd HM.out h
          · exact absurd HG.out h
          · exact h
          · omega
          · omega
        go_wp2_with fail
        refine (check_any HO.out hk1 hk2 _).mono ?_
        rintro e w2 ⟨rfl, rfl⟩
        go_wp2_with fail
        go_ret
        exact ⟨rfl, HB1.out⟩
    · have HO := Lib.hid (show BM.OfIs k 0 0 50 from .inr ⟨hg, rfl, rfl, rfl⟩)
      obtain rfl : e = 50 := by
        rcases HC.out with ⟨h, _⟩ | ⟨_, _, h⟩ | ⟨_, h, _⟩ | ⟨_, h, _⟩ | ⟨_, h, _⟩
        · exact absurd HM.out h
        · exact h
        · exact absurd h hg
        · exact absurd h hg
        · exact absurd h hg
      clear hg
      go_wp2_with fail
      refine (check_any HO.out hk1 hk2 _).mono ?_
      rintro e w2 ⟨rfl, rfl⟩
      go_wp2_with fail
      go_ret
      exact ⟨rfl, HB1.out⟩
  · obtain rfl : e = 8 := by
      rcases HC.out with ⟨_, h⟩ | ⟨h, _⟩ | ⟨h, _⟩ | ⟨h, _⟩ | ⟨h, _⟩
      · exact h
      · exact absurd h hm
      · exact absurd h hm
      · exact absurd h hm
      · exact absurd h hm
    clear hm
    go_wp2_with fail
    go_ret
    exact ⟨rfl, HB1.out⟩

/-- what an answer of a vote and an error is -/
def VoteAns (x y : Int) (t : ByteArray) (e : Int) (w : World) (E : Ending) (w' : World) : Prop := E = .returned (.tuple #[.agg #[.int .i64 x, .int .i64 y, .string t], .int .i64 e]) ∧ Below w.heap.size w w'

/-- two blocks laid: a boxed vote, a vote answered -/
theorem vote_cells2 {w w1 : World} {T : TypeId} {p b x y : Int} {s t : ByteArray} (hb : Below ((w.alloc (.cells #[.int .i64 p, .int .i64 b, .string s] T)).alloc (.cells #[.int .i64 x, .int .i64 y, .string t] T)).heap.size ((w.alloc (.cells #[.int .i64 p, .int .i64 b, .string s] T)).alloc (.cells #[.int .i64 x, .int .i64 y, .string t] T)) w1) :
    w1.cell? ⟨w.heap.size, 0, none⟩ = some (.int .i64 p) ∧
    w1.cell? ⟨w.heap.size, 1, none⟩ = some (.int .i64 b) ∧
    w1.cell? ⟨w.heap.size, 2, none⟩ = some (.string s) ∧
    w1.frozen? ⟨w.heap.size, 0, none⟩ = false ∧
    w1.frozen? ⟨w.heap.size, 1, none⟩ = false ∧
    w1.frozen? ⟨w.heap.size, 2, none⟩ = false ∧
    w1.cell? ⟨w.heap.size + 1, 0, none⟩ = some (.int .i64 x) ∧
    w1.cell? ⟨w.heap.size + 1, 1, none⟩ = some (.int .i64 y) ∧
    w1.cell? ⟨w.heap.size + 1, 2, none⟩ = some (.string t) ∧
    w1.frozen? ⟨w.heap.size + 1, 0, none⟩ = false ∧
    w1.frozen? ⟨w.heap.size + 1, 1, none⟩ = false ∧
    w1.frozen? ⟨w.heap.size + 1, 2, none⟩ = false := by
  refine ⟨?_, ?_, ?_, ?_, ?_, ?_, ?_, ?_, ?_, ?_, ?_, ?_⟩
  · rw [hb.cell (p := ⟨w.heap.size, 0, none⟩) (by simp; omega)]; simp
  · rw [hb.cell (p := ⟨w.heap.size, 1, none⟩) (by simp; omega)]; simp
  · rw [hb.cell (p := ⟨w.heap.size, 2, none⟩) (by simp; omega)]; simp
  · rw [hb.frozen (p := ⟨w.heap.size, 0, none⟩) (by simp; omega)]; simp
  · rw [hb.frozen (p := ⟨w.heap.size, 1, none⟩) (by simp; omega)]; simp
  · rw [hb.frozen (p := ⟨w.heap.size, 2, none⟩) (by simp; omega)]; simp
  · rw [hb.cell (p := ⟨w.heap.size + 1, 0, none⟩) (by simp)]; simp
  · rw [hb.cell (p := ⟨w.heap.size + 1, 1, none⟩) (by simp)]; simp
  · rw [hb.cell (p := ⟨w.heap.size + 1, 2, none⟩) (by simp)]; simp
  · rw [hb.frozen (p := ⟨w.heap.size + 1, 0, none⟩) (by simp)]; simp
  · rw [hb.frozen (p := ⟨w.heap.size + 1, 1, none⟩) (by simp)]; simp
  · rw [hb.frozen (p := ⟨w.heap.size + 1, 2, none⟩) (by simp)]; simp

set_option maxRecDepth 100000 in
set_option maxHeartbeats 1000000 in
theorem prep_any {p b : Int} {s : ByteArray} {k x y : Int} {t : ByteArray} {e : Int} (w : World) (hp1 : -9223372036854775808 ≤ p) (hp2 : p ≤ 9223372036854775807) (h1 : -9223372036854775808 ≤ b) (h2 : b ≤ 9223372036854775807) (hs : s.size ≤ maxLen)
    (hk1 : -9223372036854775808 ≤ k) (hk2 : k ≤ 9223372036854775807) (h : VM.PrepIs p b s k x y t e) :
    Calls Try.prog 71 #[.agg #[.int .i64 p, .int .i64 b, .string s], .int .i64 k] w (VoteAns x y t e w) := by
  have hb0 : Below w.heap.size w ((w.alloc (.cells #[.int .i64 p, .int .i64 b, .string s] 48)).alloc (.cells #[.int .i64 0, .int .i64 0, .string .empty] 48)) := ((Below.refl _ _).alloc (Nat.le_refl _) _).alloc (by simp) _
  have HB0 := Lib.hid hb0; clear hb0
  obtain ⟨hw, hc⟩ := h
  have HW := Lib.hid hw; clear hw
  go_enter Try.func71, Try.ntmps71
  go_wp2_with fail
  refine (wrong_any _ hp1 hp2 h1 h2 hs hk1 hk2 (by decide) HW.out).mono ?_
  rintro e w1 ⟨rfl, hb1⟩
  obtain ⟨c0, c1, c2, e0, e1, e2, d0, d1, d2, f0, f1, f2⟩ := vote_cells2 hb1
  have HB1 := Lib.hid (bmore HB0.out hb1 (by simp)); clear hb1 HB0 hs HW
  rcases hc with ⟨he, rfl, rfl, rfl⟩ | ⟨rfl, rfl, rfl, rfl⟩
  · go_wp2_with fail
    exact bodyPost_ret (v := .tuple #[.agg #[.int .i64 0, .int .i64 0, .string .empty], .int .i64 e]) (by simp [results, Try.results71, go_sem, d0, d1, d2]; rfl) rfl ⟨rfl, below_put3 HB1.out (by omega) _ _ _⟩
  · go_wp2_with fail
    exact bodyPost_ret (v := .tuple #[.agg #[.int .i64 x, .int .i64 y, .string t], .int .i64 0]) (by simp [results, Try.results71, go_sem, d0, d1, d2]) rfl ⟨rfl, below_put3 (below_put1 HB1.out (by omega) _) (by omega) _ _ _⟩

set_option maxRecDepth 100000 in
set_option maxHeartbeats 1000000 in
theorem acc_any {p b : Int} {s : ByteArray} {k : Int} {v : ByteArray} {x y : Int} {t : ByteArray} {e : Int} (w : World) (hp1 : -9223372036854775808 ≤ p) (hp2 : p ≤ 9223372036854775807) (h1 : -9223372036854775808 ≤ b) (h2 : b ≤ 9223372036854775807) (hs : s.size ≤ maxLen)
    (hk1 : -9223372036854775808 ≤ k) (hk2 : k ≤ 9223372036854775807) (hv : v.size ≤ maxLen) (h : VM.AccIs p b s k v x y t e) :
    Calls Try.prog 72 #[.agg #[.int .i64 p, .int .i64 b, .string s], .int .i64 k, .string v] w (VoteAns x y t e w) := by
  have hb0 : Below w.heap.size w ((w.alloc (.cells #[.int .i64 p, .int .i64 b, .string s] 48)).alloc (.cells #[.int .i64 0, .int .i64 0, .string .empty] 48)) := ((Below.refl _ _).alloc (Nat.le_refl _) _).alloc (by simp) _
  have HB0 := Lib.hid hb0; clear hb0
  obtain ⟨hw, hc⟩ := h
  have HW := Lib.hid hw; clear hw
  go_enter Try.func72, Try.ntmps72
  go_wp2_with fail
  refine (wrong_any _ hp1 hp2 h1 h2 hs hk1 hk2 hv HW.out).mono ?_
  rintro e w1 ⟨rfl, hb1⟩
  obtain ⟨c0, c1, c2, e0, e1, e2, d0, d1, d2, f0, f1, f2⟩ := vote_cells2 hb1
  have HB1 := Lib.hid (bmore HB0.out hb1 (by simp)); clear hb1 HB0 hs hv HW
  rcases hc with ⟨he, rfl, rfl, rfl⟩ | ⟨rfl, rfl, rfl, rfl⟩
  · go_wp2_with fail
    exact bodyPost_ret (v := .tuple #[.agg #[.int .i64 0, .int .i64 0, .string .empty], .int .i64 e]) (by simp [results, Try.results72, go_sem, d0, d1, d2]; rfl) rfl ⟨rfl, below_put3 HB1.out (by omega) _ _ _⟩
  · go_wp2_with fail
    exact bodyPost_ret (v := .tuple #[.agg #[.int .i64 y, .int .i64 y, .string t], .int .i64 0]) (by simp [results, Try.results72, go_sem, d0, d1, d2]) rfl ⟨rfl, below_put3 (below_put3 HB1.out (by omega) _ _ _) (by omega) _ _ _⟩
end Go.Proofs.Ytohiemdodffhoaa.VP
