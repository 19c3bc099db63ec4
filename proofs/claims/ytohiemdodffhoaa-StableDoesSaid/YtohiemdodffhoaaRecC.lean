/-
  What package record's front answers: its closure that reads a number off a variable of bytes (NumAt). Conditions: the slice reads as bytes.
-/
import Derived.Test.YtohiemdodffhoaaRecA
import Derived.Test.YtohiemdodffhoaaRecFr
import Derived.Test.YtohiemdodffhoaaNumF
import Derived.Test.YtohiemdodffhoaaSrc
namespace Go.Proofs.Ytohiemdodffhoaa.RP
open Go.RowKit
set_option linter.unusedVariables false
set_option linter.unusedSimpArgs false

/-- a variable that holds the bytes that are left -/
def NumAt (w : World) (g : Nat) (l : List UInt8) : Prop := ∃ A n c, Box w g 94 #[.slice A n c] ∧ Src w g A n c l
def NumPost (w : World) (g : Nat) (l : List UInt8) (e : Ending) (w' : World) : Prop := e = .returned (.int .i64 (RM.gt l).1) ∧ NumAt w' g (RM.gt l).2 ∧ ∃ u, w' = w.setCell ⟨g, 0, none⟩ u
theorem numAt_put {w : World} {g : Nat} {A : Option Addr} {n c : Nat} {l : List UInt8} {v : Value} (b : Box w g 94 #[v]) (h : Src w g A n c l) : NumAt (w.setCell ⟨g, 0, none⟩ (.slice A n c)) g l := by
  refine ⟨A, n, c, ?_, h.below ((Below.refl g w).setCell (p := ⟨g, 0, none⟩) (Nat.le_refl g) _)⟩
  have := b.stored 0 (.slice A n c)
  simpa using this

set_option maxRecDepth 100000 in
set_option maxHeartbeats 1000000 in
theorem number_any (g : Nat) (l : List UInt8) (w : World) (h : NumAt w g l) : Calls Try.prog 86 #[.pointer (some ⟨g, 0, none⟩)] w (NumPost w g l) := by
  obtain ⟨A, n, c, b, hs⟩ := h
  have hl := src_len hs
  have hn := hs.2.1
  have hc := hs.2.2.1
  have G := Lib.hid (get_any A n c l w hs.1 (by omega))
  have c1 := b.cell 0
  have f1 := b.frozen 0
  simp at c1
  unfold maxLen at hc
  rcases hd : NM.dec l with _ | ⟨x, k⟩
  · have S := Lib.hid hs
    have B := Lib.hid b
    have HD := Lib.hid (show RM.gt l = (0, l) by unfold RM.gt; rw [hd])
    rw [hd] at G
    clear hs b hd hl
    go_enter Try.func86, Try.ntmps86
    go_wp2_with fail
    refine (G.out).mono ?_
    rintro e w1 ⟨rfl, rfl⟩
    unfold getRes
    go_wp2_with fail
    go_ret
    refine ⟨by rw [HD.out]; rfl, ?_, _, rfl⟩
    rw [HD.out]
    exact numAt_put B.out S.out
  · have hk := (NM.dec_bound l x k hd).2.2.1
    rw [hl] at hk
    have S := Lib.hid (hs.cut hk)
    have B := Lib.hid b
    have HD := Lib.hid (show RM.gt l = (x, l.drop k) by unfold RM.gt; rw [hd])
    rw [hd] at G
    clear hs b hd hl
    by_cases hck : c = k
    · rw [if_pos hck] at S
      subst hck
      rw [Nat.sub_self, show n - c = 0 by omega] at S
      go_enter Try.func86, Try.ntmps86
      go_wp2_with fail
      refine (G.out).mono ?_
      rintro e w1 ⟨rfl, rfl⟩
      unfold getRes
      go_wp2_with fail
      go_ret
      refine ⟨by rw [HD.out]; rfl, ?_, _, rfl⟩
      rw [HD.out]
      exact numAt_put B.out S.out
    · rw [if_neg hck] at S
      go_enter Try.func86, Try.ntmps86
      go_wp2_with fail
      refine (G.out).mono ?_
      rintro e w1 ⟨rfl, rfl⟩
      unfold getRes
      go_wp2_with fail
      go_ret
      refine ⟨by rw [HD.out]; rfl, ?_, _, rfl⟩
      rw [HD.out]
      exact numAt_put B.out S.out

/-- the text that bytes begin with -/
theorem gt_any (A : Option Addr) (n c : Nat) (l : List UInt8) (w : World) (hr : Rd w A n (bc l)) (hnc : n ≤ c) (hm : c ≤ maxLen) :
    Calls Try.prog 88 #[.slice A n c] w fun e w' => ∃ (k : Nat) (x : Int), e = .returned (.tuple #[.string ⟨(RM.gs l).toArray⟩, .int .i64 k, .int .i64 x]) ∧ w = w' := by
  refine (getText_all A n c l w hr hnc hm).mono ?_
  rintro e w' ⟨t, k, x, rfl, h, rfl⟩
  refine ⟨k, x, ?_, rfl⟩
  unfold RM.gs
  rcases h with ⟨_, h, rfl, _⟩ | ⟨_, h⟩ <;> rw [h]

/-- front's three variables: the bytes that are left, the answer, the record -/
def Fr (w0 w : World) (g : Nat) (l : List UInt8) (R : Array Value) : Prop :=
  NumAt w g l ∧ Box w (g + 1 + 1) 29 R ∧ Box w (g + 1) 29 #[.int .u8 0, .int .i64 0, .int .i64 0, .int .i64 0, .string ⟨#[]⟩] ∧ g = w0.heap.size ∧ Below w0.heap.size w0 w
theorem Fr.num {w0 w w' : World} {g : Nat} {l l' : List UInt8} {R : Array Value} (h : Fr w0 w g l R) (hn : NumAt w' g l' ∧ ∃ u, w' = w.setCell ⟨g, 0, none⟩ u) : Fr w0 w' g l' R := by
  obtain ⟨hn, u, rfl⟩ := hn
  obtain ⟨_, h2, h3, rfl, h5⟩ := h
  exact ⟨hn, h2.far (by simp <;> omega) _, h3.far (by simp <;> omega) _, rfl, h5.setCell (Nat.le_refl _) _⟩
theorem Fr.put {w0 w : World} {g : Nat} {l : List UInt8} {R : Array Value} (h : Fr w0 w g l R) (i : Nat) (v : Value) : Fr w0 (w.setCell ⟨g + 1 + 1, i, none⟩ v) g l (R.setIfInBounds i v) := by
  obtain ⟨⟨A, n, c, b, hs⟩, h2, h3, rfl, h5⟩ := h
  refine ⟨⟨A, n, c, b.far (by simp <;> omega) _, hs.below ((Below.refl _ _).setCell (by simp <;> omega) _)⟩, h2.stored i v, h3.far (by simp <;> omega) _, rfl, h5.setCell (by simp <;> omega) _⟩
theorem fr_new {w : World} {A : Option Addr} {n c : Nat} {l : List UInt8} (h : Rd w A n (bc l)) (h1 : n ≤ c) (h2 : c ≤ maxLen) :
    Fr w (((w.alloc (.cells #[.slice A n c] 94)).alloc (.cells #[.int .u8 0, .int .i64 0, .int .i64 0, .int .i64 0, .string ⟨#[]⟩] 29)).alloc (.cells #[.int .u8 0, .int .i64 0, .int .i64 0, .int .i64 0, .string ⟨#[]⟩] 29)) w.heap.size l
      #[.int .u8 0, .int .i64 0, .int .i64 0, .int .i64 0, .string ⟨#[]⟩] := by
  have b3 := (((Below.refl w.heap.size w).alloc (Nat.le_refl _) (.cells #[.slice A n c] 94)).alloc (by simp) (.cells #[.int .u8 0, .int .i64 0, .int .i64 0, .int .i64 0, .string ⟨#[]⟩] 29)).alloc (by simp; omega) (.cells #[.int .u8 0, .int .i64 0, .int .i64 0, .int .i64 0, .string ⟨#[]⟩] 29)
  refine ⟨⟨A, n, c, ((Box.new w _ _).alloc _).alloc _, (src_new h h1 h2).below b3⟩, Box.new_at _ (by simp), (Box.new_at _ (by simp)).alloc _, rfl, b3⟩
theorem box5 {w : World} {g : Nat} {t : TypeId} {a b c d f : Value} (h : Box w g t #[a, b, c, d, f]) :
    (w.cell? ⟨g, 0, none⟩ = some a ∧ w.cell? ⟨g, 1, none⟩ = some b ∧ w.cell? ⟨g, 2, none⟩ = some c ∧ w.cell? ⟨g, 3, none⟩ = some d ∧ w.cell? ⟨g, 4, none⟩ = some f) ∧
    w.frozen? ⟨g, 0, none⟩ = false ∧ w.frozen? ⟨g, 1, none⟩ = false ∧ w.frozen? ⟨g, 2, none⟩ = false ∧ w.frozen? ⟨g, 3, none⟩ = false ∧ w.frozen? ⟨g, 4, none⟩ = false :=
  ⟨five h, h.frozen 0, h.frozen 1, h.frozen 2, h.frozen 3, h.frozen 4⟩
end Go.Proofs.Ytohiemdodffhoaa.RP
