/-
  What package command's front calls: its closures that read a number, a list, a text off a variable of bytes (NumAt). Conditions: the slice reads as bytes.
  What package command's front keeps: the bytes that are left, the command so far, the fields of its kind. No walk.
  What package command's Write gathers: its closure that gathers bytes, its closure that writes numbers. Conditions: as each theorem says.
  What package command's Write writes of numbers: its second closure. Conditions: as each theorem says.
-/
import Derived.Test.YteebeiaokfenmaaGreatK11
import Derived.Test.YteebeiaokfenmaaGreatK01
import Derived.Test.YteebeiaokfenmaaGreatK18
namespace Go.Proofs.YteebeiaokfenmaaGreat.CP
open Go.RowKit
open CM (Mg Cm)
set_option linter.unusedVariables false
set_option linter.unusedSimpArgs false
set_option maxRecDepth 100000

/-- a variable that holds the bytes that are left -/
def NumAt (w : World) (g : Nat) (l : List UInt8) : Prop := ∃ A n c, Box w g 120 #[.slice A n c] ∧ Src w g A n c l
/-- new memory, and the variable stored into -/
def KeepN (w w' : World) (g : Nat) : Prop := ∃ w1 u, Below w.heap.size w w1 ∧ w' = w1.setCell ⟨g, 0, none⟩ u
theorem numAt_put {w : World} {g : Nat} {A : Option Addr} {n c : Nat} {l : List UInt8} {v : Value} (b : Box w g 120 #[v]) (h : Src w g A n c l) : NumAt (w.setCell ⟨g, 0, none⟩ (.slice A n c)) g l := by
  refine ⟨A, n, c, ?_, h.below ((Below.refl g w).setCell (p := ⟨g, 0, none⟩) (Nat.le_refl g) _)⟩
  have := b.stored 0 (.slice A n c)
  simpa using this
def NumPost (w : World) (g : Nat) (l : List UInt8) (e : Ending) (w' : World) : Prop := e = .returned (.int .i64 (RM.gt l).1) ∧ NumAt w' g (RM.gt l).2 ∧ KeepN w w' g
def TxtPost (w : World) (g : Nat) (l : List UInt8) (e : Ending) (w' : World) : Prop := e = .returned (.string ⟨(gx l).1.toArray⟩) ∧ NumAt w' g (gx l).2 ∧ KeepN w w' g
def LstPost (w : World) (g most : Nat) (l : List UInt8) (e : Ending) (w' : World) : Prop :=
  ∃ B d, e = .returned (.slice B (gl most l).1.length d) ∧ RowGe w' w.heap.size B d (CM.zs (gl most l).1) ∧ NumAt w' g (gl most l).2 ∧ KeepN w w' g
theorem keepN_one (w : World) (g : Nat) (u : Value) : KeepN w (w.setCell ⟨g, 0, none⟩ u) g := ⟨w, u, Below.refl _ _, rfl⟩

set_option maxHeartbeats 1000000 in
theorem number_any (g : Nat) (l : List UInt8) (w : World) (h : NumAt w g l) : Calls Tryz.prog 123 #[.pointer (some ⟨g, 0, none⟩)] w (NumPost w g l) := by
  obtain ⟨A, n, c, b, hs⟩ := h
  have hl := src_len hs
  have hn := hs.2.1
  have hc := hs.2.2.1
  have G := Lib.hid (get_any A n c l w hs.1 (by omega))
  have c1 := b.cell 0
  have f1 := b.frozen 0
  simp at c1
  unfold maxLen at hc
  rcases hd : NM.dec l with _ | ⟨x, k⟩
  · have S := Lib.hid hs
    have B := Lib.hid b
    have HD := Lib.hid (show RM.gt l = (0, l) by unfold RM.gt; rw [hd])
    rw [hd] at G
    clear hs b hd hl
    go_enter Tryz.func123, Tryz.ntmps123
    go_wp2_with fail
    refine (G.out).mono ?_
    rintro e w1 ⟨rfl, rfl⟩
    unfold getRes
    go_wp2_with fail
    go_ret
    refine ⟨by rw [HD.out]; rfl, ?_, keepN_one _ _ _⟩
    rw [HD.out]
    exact numAt_put B.out S.out
  · have hk := (NM.dec_bound l x k hd).2.2.1
    rw [hl] at hk
    have S := Lib.hid (hs.cut hk)
    have B := Lib.hid b
    have HD := Lib.hid (show RM.gt l = (x, l.drop k) by unfold RM.gt; rw [hd])
    rw [hd] at G
    clear hs b hd hl
    by_cases hck : c = k
    · rw [if_pos hck] at S
      subst hck
      rw [Nat.sub_self, show n - c = 0 by omega] at S
      go_enter Tryz.func123, Tryz.ntmps123
      go_wp2_with fail
      refine (G.out).mono ?_
      rintro e w1 ⟨rfl, rfl⟩
      unfold getRes
      go_wp2_with fail
      go_ret
      refine ⟨by rw [HD.out]; rfl, ?_, keepN_one _ _ _⟩
      rw [HD.out]
      exact numAt_put B.out S.out
    · rw [if_neg hck] at S
      go_enter Tryz.func123, Tryz.ntmps123
      go_wp2_with fail
      refine (G.out).mono ?_
      rintro e w1 ⟨rfl, rfl⟩
      unfold getRes
      go_wp2_with fail
      go_ret
      refine ⟨by rw [HD.out]; rfl, ?_, keepN_one _ _ _⟩
      rw [HD.out]
      exact numAt_put B.out S.out

set_option maxHeartbeats 1000000 in
theorem text_any (g : Nat) (l : List UInt8) (w : World) (h : NumAt w g l) : Calls Tryz.prog 127 #[.pointer (some ⟨g, 0, none⟩)] w (TxtPost w g l) := by
  obtain ⟨A, n, c, b, hs⟩ := h
  have hl := src_len hs
  have hn := hs.2.1
  have hc := hs.2.2.1
  have G := Lib.hid (getText_any A n c l w hs.1 hn hc)
  have c1 := b.cell 0
  have f1 := b.frozen 0
  simp at c1
  unfold maxLen at hc
  rcases hd : NM.getText l with _ | ⟨x, k⟩
  · have S := Lib.hid hs
    have B := Lib.hid b
    have HD := Lib.hid (show gx l = ([], l) by unfold gx; rw [hd])
    rw [hd] at G
    clear hs b hd hl
    go_enter Tryz.func127, Tryz.ntmps127
    go_wp2_with fail
    refine (G.out).mono ?_
    rintro e w1 ⟨rfl, rfl⟩
    unfold textRes
    go_wp2_with fail
    go_ret
    refine ⟨by rw [HD.out]; rfl, ?_, keepN_one _ _ _⟩
    rw [HD.out]
    exact numAt_put B.out S.out
  · have hk := (NM.text_getText l x k hd).2.1
    rw [hl] at hk
    have S := Lib.hid (hs.cut hk)
    have B := Lib.hid b
    have HD := Lib.hid (show gx l = (x, l.drop k) by unfold gx; rw [hd])
    rw [hd] at G
    clear hs b hd hl
    by_cases hck : c = k
    · rw [if_pos hck] at S
      subst hck
      rw [Nat.sub_self, show n - c = 0 by omega] at S
      go_enter Tryz.func127, Tryz.ntmps127
      go_wp2_with fail
      refine (G.out).mono ?_
      rintro e w1 ⟨rfl, rfl⟩
      unfold textRes
      go_wp2_with fail
      go_ret
      refine ⟨by rw [HD.out]; rfl, ?_, keepN_one _ _ _⟩
      rw [HD.out]
      exact numAt_put B.out S.out
    · rw [if_neg hck] at S
      go_enter Tryz.func127, Tryz.ntmps127
      go_wp2_with fail
      refine (G.out).mono ?_
      rintro e w1 ⟨rfl, rfl⟩
      unfold textRes
      go_wp2_with fail
      go_ret
      refine ⟨by rw [HD.out]; rfl, ?_, keepN_one _ _ _⟩
      rw [HD.out]
      exact numAt_put B.out S.out

theorem lst_fin {w w1 : World} {g : Nat} {A : Option Addr} {n c : Nat} {l : List UInt8} {v : Value} (hg : g < w.heap.size) (hb : Below w.heap.size w w1) (b : Box w g 120 #[v]) (h : Src w g A n c l) : NumAt (w1.setCell ⟨g, 0, none⟩ (.slice A n c)) g l :=
  numAt_put (b.below hb b.lt) (h.below (hb.mono (Nat.le_of_lt hg)))
set_option maxHeartbeats 1000000 in
theorem list_any (g most : Nat) (l : List UInt8) (w : World) (h : NumAt w g l) (hmost : most ≤ 4096) : Calls Tryz.prog 125 #[.int .i64 most, .pointer (some ⟨g, 0, none⟩)] w (LstPost w g most l) := by
  obtain ⟨A, n, c, b, hs⟩ := h
  have hl := src_len hs
  have hn := hs.2.1
  have hc := hs.2.2.1
  have G := Lib.hid (getInts_any A n c most l w hs.1 hn hc hmost)
  have HGL := Lib.hid b.lt
  have c1 := b.cell 0
  simp at c1
  unfold maxLen at hc
  rcases hd : NM.getInts l most with _ | ⟨x, k⟩
  · have S := Lib.hid hs
    have B := Lib.hid b
    have HD := Lib.hid (show gl most l = ([], l) by unfold gl; rw [hd])
    rw [hd] at G
    clear hs b hd hl
    go_enter Tryz.func125, Tryz.ntmps125
    go_wp2_with fail
    refine (G.out).mono ?_
    rintro e w1 ⟨hb, ⟨_, rfl⟩ | ⟨_, _, _, h, _⟩⟩
    · have b1 := B.out.below hb HGL.out
      have d1 := b1.cell 0
      have f1 := b1.frozen 0
      simp at d1
      have HB := Lib.hid hb
      clear hb b1
      go_wp2_with fail
      go_ret
      refine ⟨none, 0, by rw [HD.out]; rfl, ?_, ?_, ⟨w1, _, HB.out, rfl⟩⟩
      · rw [HD.out]
        exact RowGe.none _ _
      · rw [HD.out]
        exact lst_fin HGL.out HB.out B.out S.out
    · cases h
  · have hk := (NM.ints_getInts l most x k hd).2.2.1
    rw [hl] at hk
    have S := Lib.hid (hs.cut hk)
    have B := Lib.hid b
    have HD := Lib.hid (show gl most l = (x, l.drop k) by unfold gl; rw [hd])
    rw [hd] at G
    clear hs b hd hl
    by_cases hck : c = k
    · rw [if_pos hck] at S
      subst hck
      rw [Nat.sub_self, show n - c = 0 by omega] at S
      go_enter Tryz.func125, Tryz.ntmps125
      go_wp2_with fail
      refine (G.out).mono ?_
      rintro e w1 ⟨hb, ⟨h, _⟩ | ⟨xs, k', u, h, rfl, ho⟩⟩
      · cases h
      · injection h with h
        injection h with h1 h2
        subst h1 h2
        obtain ⟨B2, d2, rfl, hd1, hd2⟩ := own_slice ho
        have HR := Lib.hid (rowGe_own (l := CM.zs x) ho (by simp [CM.zs]) (by simp [CM.zs]; exact hd1) hd2)
        have b1 := B.out.below hb HGL.out
        have e1 := b1.cell 0
        have f1 := b1.frozen 0
        simp at e1
        have HB := Lib.hid hb
        clear hb b1 ho hd1 hd2
        go_wp2_with fail
        go_ret
        refine ⟨B2, d2, by rw [HD.out]; rfl, ?_, ?_, ⟨w1, _, HB.out, rfl⟩⟩
        · rw [HD.out]
          exact HR.out.set HGL.out _
        · rw [HD.out]
          exact lst_fin HGL.out HB.out B.out S.out
    · rw [if_neg hck] at S
      go_enter Tryz.func125, Tryz.ntmps125
      go_wp2_with fail
      refine (G.out).mono ?_
      rintro e w1 ⟨hb, ⟨h, _⟩ | ⟨xs, k', u, h, rfl, ho⟩⟩
      · cases h
      · injection h with h
        injection h with h1 h2
        subst h1 h2
        obtain ⟨B2, d2, rfl, hd1, hd2⟩ := own_slice ho
        have HR := Lib.hid (rowGe_own (l := CM.zs x) ho (by simp [CM.zs]) (by simp [CM.zs]; exact hd1) hd2)
        have b1 := B.out.below hb HGL.out
        have e1 := b1.cell 0
        have f1 := b1.frozen 0
        simp at e1
        have HB := Lib.hid hb
        clear hb b1 ho hd1 hd2
        go_wp2_with fail
        go_ret
        refine ⟨B2, d2, by rw [HD.out]; rfl, ?_, ?_, ⟨w1, _, HB.out, rfl⟩⟩
        · rw [HD.out]
          exact HR.out.set HGL.out _
        · rw [HD.out]
          exact lst_fin HGL.out HB.out B.out S.out
end Go.Proofs.YteebeiaokfenmaaGreat.CP

namespace Go.Proofs.YteebeiaokfenmaaGreat.CP
open Go.RowKit
open CM (Mg Cm)
set_option linter.unusedVariables false
set_option linter.unusedSimpArgs false
set_option maxRecDepth 100000

section
variable {w0 w w' : World} {g f b B h : Nat} {l l' : List UInt8} {R : Array Value} {x1 x2 x3 x4 x5 : Bool} {A : Option Addr} {c : Nat} {L : List Int}
theorem box_keepN {t : TypeId} {cs : Array Value} (hb : Box w h t cs) (hg : h ≠ g) (hk : KeepN w w' g) : Box w' h t cs := by
  obtain ⟨w1, u, h1, rfl⟩ := hk
  exact (hb.below h1 hb.lt).far (p := ⟨g, 0, none⟩) hg u
theorem below_keepN (hb : Below w0.heap.size w0 w) (hg : w0.heap.size ≤ g) (hk : KeepN w w' g) : Below w0.heap.size w0 w' := by
  obtain ⟨w1, u, h1, rfl⟩ := hk
  exact (hb.trans (h1.mono hb.size)).setCell (p := ⟨g, 0, none⟩) hg u
theorem size_keepN (hk : KeepN w w' g) : w.heap.size ≤ w'.heap.size := by
  obtain ⟨w1, u, h1, rfl⟩ := hk
  have := h1.size
  simpa using this
theorem RowGe.keepN (hr : RowGe w b A c L) (hg : g < b) (hk : KeepN w w' g) : RowGe w' b A c L := by
  obtain ⟨w1, u, h1, rfl⟩ := hk
  exact (hr.below h1).set hg u
theorem RowGe.put12 (hr : RowGe w b A c L) (hg : g < b) (a0 a1 a2 a3 a4 a5 a6 a7 a8 a9 a10 a11 : Value) : RowGe (put12 w g a0 a1 a2 a3 a4 a5 a6 a7 a8 a9 a10 a11) b A c L := by
  unfold CP.put12
  exact ((((((((((((hr.set hg _).set hg _).set hg _).set hg _).set hg _).set hg _).set hg _).set hg _).set hg _).set hg _).set hg _).set hg _)
/-- ahead of the kind -/
def F0 (w0 w : World) (g : Nat) (l : List UInt8) (R : Array Value) : Prop :=
  NumAt w g l ∧ Box w (g + 1 + 1) 91 R ∧ Box w (g + 1) 91 #[.int .u8 0, .int .i64 0, .slice none 0 0, .int .i64 0, .string ⟨#[]⟩, .string ⟨#[]⟩, .int .i64 0, .int .i64 0, .slice none 0 0, .int .i64 0, .int .i64 0, .int .i64 0] ∧ g = w0.heap.size ∧ Below w0.heap.size w0 w
theorem F0.num (hF : F0 w0 w g l R) (hn : NumAt w' g l') (hk : KeepN w w' g) : F0 w0 w' g l' R :=
  ⟨hn, box_keepN hF.2.1 (by omega) hk, box_keepN hF.2.2.1 (by omega) hk, hF.2.2.2.1, below_keepN hF.2.2.2.2 (by have := hF.2.2.2.1; omega) hk⟩
theorem numAt_far (hn : NumAt w g l) (i h : Nat) (v : Value) (hg : g < h) : NumAt (w.setCell ⟨h, i, none⟩ v) g l := by
  obtain ⟨A, n, c, b, hs⟩ := hn
  exact ⟨A, n, c, b.far (p := ⟨h, i, none⟩) (by simp; omega) v, hs.below ((Below.refl _ _).setCell (p := ⟨h, i, none⟩) (by simp; omega) _)⟩
theorem F0.put (hF : F0 w0 w g l R) (i : Nat) (v : Value) : F0 w0 (w.setCell ⟨g + 1 + 1, i, none⟩ v) g l (R.setIfInBounds i v) :=
  ⟨numAt_far hF.1 i _ v (by omega), hF.2.1.stored i v, hF.2.2.1.far (p := ⟨g + 1 + 1, i, none⟩) (by simp <;> omega) v, hF.2.2.2.1, hF.2.2.2.2.setCell (p := ⟨g + 1 + 1, i, none⟩) (by have := hF.2.2.2.1; simp; omega) _⟩
theorem f0_new {w : World} {A : Option Addr} {n c : Nat} {l : List UInt8} (h : Rd w A n (bc l)) (h1 : n ≤ c) (h2 : c ≤ maxLen) :
    F0 w (((w.alloc (.cells #[.slice A n c] 120)).alloc (.cells #[.int .u8 0, .int .i64 0, .slice none 0 0, .int .i64 0, .string ⟨#[]⟩, .string ⟨#[]⟩, .int .i64 0, .int .i64 0, .slice none 0 0, .int .i64 0, .int .i64 0, .int .i64 0] 91)).alloc (.cells #[.int .u8 0, .int .i64 0, .slice none 0 0, .int .i64 0, .string ⟨#[]⟩, .string ⟨#[]⟩, .int .i64 0, .int .i64 0, .slice none 0 0, .int .i64 0, .int .i64 0, .int .i64 0] 91)) w.heap.size l #[.int .u8 0, .int .i64 0, .slice none 0 0, .int .i64 0, .string ⟨#[]⟩, .string ⟨#[]⟩, .int .i64 0, .int .i64 0, .slice none 0 0, .int .i64 0, .int .i64 0, .int .i64 0] := by
  have b3 := (((Below.refl w.heap.size w).alloc (Nat.le_refl _) (.cells #[.slice A n c] 120)).alloc (by simp) (.cells #[.int .u8 0, .int .i64 0, .slice none 0 0, .int .i64 0, .string ⟨#[]⟩, .string ⟨#[]⟩, .int .i64 0, .int .i64 0, .slice none 0 0, .int .i64 0, .int .i64 0, .int .i64 0] 91)).alloc (by simp; omega) (.cells #[.int .u8 0, .int .i64 0, .slice none 0 0, .int .i64 0, .string ⟨#[]⟩, .string ⟨#[]⟩, .int .i64 0, .int .i64 0, .slice none 0 0, .int .i64 0, .int .i64 0, .int .i64 0] 91)
  exact ⟨⟨A, n, c, ((Box.new w _ _).alloc _).alloc _, (src_new h h1 h2).below b3⟩, Box.new_at _ (by simp), (Box.new_at _ (by simp)).alloc _, rfl, b3⟩
/-- behind the kind: with the fields, and a list that was read -/
def Fr (w0 w : World) (g f : Nat) (l : List UInt8) (R : Array Value) (x1 x2 x3 x4 x5 : Bool) (A : Option Addr) (c : Nat) (L : List Int) : Prop :=
  F0 w0 w g l R ∧ Box w f 126 #[.bool x1, .bool x2, .bool x3, .bool x4, .bool x5] ∧ g + 1 + 1 < f ∧ RowGe w (g + 1 + 1 + 1) A c L
theorem fr_at (hF : F0 w0 w g l R) (hb : Below w.heap.size w w') (x1 x2 x3 x4 x5 : Bool) : Fr w0 (w'.alloc (.cells #[.bool x1, .bool x2, .bool x3, .bool x4, .bool x5] 126)) g w'.heap.size l R x1 x2 x3 x4 x5 none 0 [] := by
  have hA : Below w.heap.size w (w'.alloc (.cells #[.bool x1, .bool x2, .bool x3, .bool x4, .bool x5] 126)) := hb.alloc hb.size _
  have l2 := hF.2.1.lt
  refine ⟨⟨?_, hF.2.1.below hA hF.2.1.lt, hF.2.2.1.below hA hF.2.2.1.lt, hF.2.2.2.1, bmore hF.2.2.2.2 hA (Nat.le_refl _)⟩, Box.new _ _ _, Nat.lt_of_lt_of_le l2 hb.size, RowGe.none _ _⟩
  obtain ⟨A, n, c, b, hs⟩ := hF.1
  exact ⟨A, n, c, b.below hA b.lt, hs.below (hA.mono (Nat.le_of_lt b.lt))⟩
theorem Fr.num (hF : Fr w0 w g f l R x1 x2 x3 x4 x5 A c L) (hn : NumAt w' g l') (hk : KeepN w w' g) : Fr w0 w' g f l' R x1 x2 x3 x4 x5 A c L :=
  ⟨hF.1.num hn hk, box_keepN hF.2.1 (by have := hF.2.2.1; omega) hk, hF.2.2.1, hF.2.2.2.keepN (by omega) hk⟩
theorem Fr.lst {A' : Option Addr} {c' : Nat} {L' : List Int} (hF : Fr w0 w g f l R x1 x2 x3 x4 x5 A c L) (hn : NumAt w' g l') (hk : KeepN w w' g) (hr : RowGe w' w.heap.size A' c' L') : Fr w0 w' g f l' R x1 x2 x3 x4 x5 A' c' L' :=
  ⟨hF.1.num hn hk, box_keepN hF.2.1 (by have := hF.2.2.1; omega) hk, hF.2.2.1, hr.mono (by have := hF.2.1.lt; have := hF.2.2.1; omega)⟩
theorem Fr.put (hF : Fr w0 w g f l R x1 x2 x3 x4 x5 A c L) (i : Nat) (v : Value) : Fr w0 (w.setCell ⟨g + 1 + 1, i, none⟩ v) g f l (R.setIfInBounds i v) x1 x2 x3 x4 x5 A c L :=
  ⟨hF.1.put i v, hF.2.1.far (p := ⟨g + 1 + 1, i, none⟩) (by have := hF.2.2.1; simp; omega) v, hF.2.2.1, hF.2.2.2.set (by omega) v⟩
end
/-- the command that front answers -/
def FrontPost (w : World) (l : List UInt8) (e : Ending) (w' : World) : Prop := ∃ v, e = .returned v ∧ CmGe w' w.heap.size v (fr l) ∧ Below w.heap.size w w'
theorem zsl (xs : List Nat) : (CM.zs xs).length = xs.length := by simp [CM.zs]
end Go.Proofs.YteebeiaokfenmaaGreat.CP

namespace Go.Proofs.YteebeiaokfenmaaGreat.CP
open Go.RowKit
open CM (Mg Cm)
set_option linter.unusedVariables false
set_option linter.unusedSimpArgs false

/-- the closure that gathers into the variable at g -/
def gval (g : Nat) : Value := .func (.func 66) #[] #[.pointer (some ⟨g, 0, none⟩)]
/-- what is gathered: a variable of bytes, and one that holds the closure -/
def GatV (w : World) (g : Nat) (v : Value) (pre : List UInt8) : Prop :=
  Box w g 120 #[v] ∧ Box w (g + 1) 121 #[gval g] ∧ w.ownsRow (g + 2) 5 1 v pre.length (bc pre)
theorem GatV.below {w w' : World} {g : Nat} {v : Value} {pre : List UInt8} (h : GatV w g v pre) (hb : Below w.heap.size w w') : GatV w' g v pre := by
  obtain ⟨h1, h2, h3⟩ := h
  exact ⟨h1.below hb h1.lt, h2.below hb h2.lt, own_below h3 hb⟩
/-- blocks that stay: all but the variable of bytes and its row -/
def Kp (w w' : World) (g : Nat) (v v' : Value) : Prop := ∀ h t cs, Box w h t cs → h ≠ g → v.ownBlock ≠ some h → Box w' h t cs ∧ v'.ownBlock ≠ some h
theorem Kp.trans {a b c : World} {g : Nat} {u v x : Value} (h : Kp a b g u v) (k : Kp b c g v x) : Kp a c g u x := fun y t cs hb hg hu => by
  obtain ⟨h1, h2⟩ := h y t cs hb hg hu
  exact k y t cs h1 hg h2
theorem Kp.ofBelow {a b : World} (hb : Below a.heap.size a b) (g : Nat) (v : Value) : Kp a b g v v := fun y t cs h hg hu => ⟨h.below hb h.lt, hu⟩
theorem box_grown1 {w w' : World} {g : Nat} {t : TypeId} {cs : Array Value} {r : Option Nat} (h : Box w g t cs) (hg : w.grownBy w' r) (hr : ∀ k, r = some k → g + 1 ≤ k) : Box w' g t cs :=
  (hg.block g h.lt (fun e => by have := hr g e.symm; omega)).trans h
theorem own_ge {w : World} {base : Nat} {e : TypeId} {v : Value} {n : Nat} {xs : List Value} (h : w.ownsRow base e 1 v n xs) : ∀ k, v.ownBlock = some k → base ≤ k := by
  intro k hk
  rcases h.2 with ⟨rfl, _⟩ | ⟨g', cap, cur, rfl, hb, _⟩
  · simp [Value.ownBlock] at hk
  · simp [Value.ownBlock] at hk; omega
theorem gat_more {w w2 : World} {g : Nat} {v v2 : Value} {pre l : List UInt8} (b1 : Box w g 120 #[v]) (b2 : Box w (g + 1) 121 #[gval g]) (hg : w.grownBy w2 v.ownBlock) (hr : ∀ k, v.ownBlock = some k → g + 2 ≤ k)
    (ho : w2.ownsRow (g + 2) 5 1 v2 (pre.length + l.length) (bc pre ++ bc l)) (hob : v2.ownBlock = v.ownBlock ∨ v2.ownBlock = some w.heap.size) :
    GatV (w2.setCell ⟨g, 0, none⟩ v2) g v2 (pre ++ l) ∧ Kp w (w2.setCell ⟨g, 0, none⟩ v2) g v v2 ∧ Below g w (w2.setCell ⟨g, 0, none⟩ v2) := by
  have h1 := box_grown1 b1 hg (fun k hk => by have := hr k hk; omega)
  have h2 := box_grown1 b2 hg (fun k hk => by have := hr k hk; omega)
  refine ⟨⟨?_, ?_, ?_⟩, ?_, ?_⟩
  · have := h1.stored 0 v2
    simpa using this
  · exact h2.far (p := ⟨g, 0, none⟩) (by simp) v2
  · rw [List.length_append, bc_append]
    exact ownsRow_setCell_below ho (by simp) _
  · intro h t cs hb hne hv
    have hb2 : Box w2 h t cs := (hg.block h hb.lt (fun e => hv e.symm)).trans hb
    refine ⟨hb2.far (p := ⟨g, 0, none⟩) (by first | exact hne | exact hne.symm) v2, ?_⟩
    rcases hob with e | e
    · rw [e]; exact hv
    · rw [e]
      intro k
      injection k with k
      have := hb.lt
      omega
  · have hb := (Below.refl g w).grown hg (by have := b1.lt; omega) (fun k hk => by have := hr k hk; omega)
    exact hb.setCell (p := ⟨g, 0, none⟩) (Nat.le_refl _) _
theorem info_u8g : (Tryz.prog.info? 5).map (fun i => (i.zero, i.size, i.bytes)) = some (some (.int .u8 0), 1, 1) := by kernel_rfl

set_option maxRecDepth 100000 in
set_option maxHeartbeats 1000000 in
theorem gather_any (g : Nat) (pre l : List UInt8) (A : Option Addr) (n c : Nat) (v : Value) (w : World) (h : GatV w g v pre) (hr : Rd w A n (bc l)) (hn : n ≤ 10000) (hp : pre.length ≤ 10000) :
    Calls Tryz.prog 66 #[.slice A n c, .int .i64 0, .pointer (some ⟨g, 0, none⟩)] w fun e w' => e = .returned (.tuple #[]) ∧ ∃ v', GatV w' g v' (pre ++ l) ∧ Kp w w' g v v' ∧ Below g w w' := by
  obtain ⟨i0, hi, hz0, hz1, hz2⟩ := info_parts info_u8g
  obtain ⟨b1, b2, ho⟩ := h
  have hl : l.length = n := by have := hr.1; rwa [bc_length] at this
  have hg2 : g + 2 ≤ w.heap.size := by have := b2.lt; omega
  have c1 := b1.cell 0
  simp at c1
  have B1 := Lib.hid b1; have B2 := Lib.hid b2; have HO := Lib.hid ho; have HR := Lib.hid hr; have HL := Lib.hid hl
  have HG := Lib.hid (own_ge ho)
  clear b1 b2 ho hr hl
  go_enter Tryz.func66, Tryz.ntmps66
  go_wp2_with (at_builtin; refine wpList_append_rd _ rfl _ _ 120 rfl (g + 2) 5 i0 (.int .u8 0) 1 Tryz.underlying120 hi hz0 hz1 hz2 rfl v _ _ rfl HO.out A n c (bc l) rfl HR.out (bc_one l) (by unfold maxLen; omega) (by omega) hg2 ?_; intro v2 w2 hown2 hgr2 hob2; have b1 := box_grown1 B1.out hgr2 (fun k hk => (by have := HG.out k hk; omega)); have d1 := b1.cell 0; have f1 := b1.frozen 0; clear b1; simp at d1; have HOB := Lib.hid hob2; obtain ⟨A2, c3, rfl, _, _⟩ := own_slice hown2)
  go_end0
  exact ⟨rfl, _, gat_more (pre := pre) (l := l) B1.out B2.out hgr2 HG.out (by rw [HL.out]; exact hown2) HOB.out⟩
end Go.Proofs.YteebeiaokfenmaaGreat.CP

namespace Go.Proofs.YteebeiaokfenmaaGreat.CP
open Go.RowKit
open CM (Mg Cm)
set_option linter.unusedVariables false
set_option linter.unusedSimpArgs false
set_option maxRecDepth 100000

theorem put_a (n : Nat) (w : World) (hn : n ≤ 1099511627776) :
    Calls Tryz.prog 68 #[.int .i64 n] w fun e w' => ∃ A c, e = .returned (.tuple #[.slice A (NM.enc n).length c, .int .i64 0]) ∧ Rd w' A (NM.enc n).length (bc (NM.enc n)) ∧ Below w.heap.size w w' := by
  refine (put_ok n w hn).mono ?_
  rintro e w' ⟨v, rfl, ho, hb⟩
  obtain ⟨A, c, rfl, _, _⟩ := own_slice ho
  exact ⟨A, c, rfl, Rd.of_own ho, hb⟩
/-- numbers, one behind the other -/
def encs : List Nat → List UInt8
  | [] => []
  | x :: l => NM.enc x ++ encs l
theorem encs_snoc (l : List Nat) (x : Nat) : encs (l ++ [x]) = encs l ++ NM.enc x := by
  induction l with
  | nil => simp [encs]
  | cons y l ih => simp [encs, ih]
theorem encs_take {l : List Nat} {k : Nat} (h : k < l.length) : encs (l.take (k + 1)) = encs (l.take k) ++ NM.enc l[k] := by rw [List.take_succ_eq_append_getElem h, encs_snoc]
theorem encs_len (l : List Nat) : (encs l).length ≤ 10 * l.length := by
  induction l with
  | nil => simp [encs]
  | cons y l ih => have := NM.enc_le y; simp [encs]; omega
def zsN (l : List Nat) : List Value := ic (CM.zs l)
theorem zsN_len (l : List Nat) : (zsN l).length = l.length := by simp [zsN, ic, CM.zs]
theorem zsN_at {l : List Nat} {k : Nat} {u : Value} (hk : k < l.length) (h : (zsN l)[k]? = some u) : u = .int .i64 (l[k] : Nat) := by
  unfold zsN ic CM.zs at h
  rw [List.map_map, List.getElem?_map, List.getElem?_eq_getElem hk] at h
  injection h with h
  exact h.symm
/-- the loop of numbers -/
def NrRel (w : World) (g h : Nat) (v : Value) (pre : List UInt8) (l : List Nat) (k : Nat) (wr : World) : Prop :=
  ∃ v', GatV wr g v' (pre ++ encs (l.take k)) ∧ Kp w wr g v v' ∧ Box wr h 3 (zsN l).toArray ∧ v'.ownBlock ≠ some h ∧ Below g w wr

set_option maxHeartbeats 8000000 in
theorem numbers_any (g h : Nat) (v : Value) (pre : List UInt8) (A : Option Addr) (n c : Nat) (l : List Nat) (w : World) (hG : GatV w g v pre) (hA : A = some ⟨h, 0, none⟩) (hB : Box w h 3 (zsN l).toArray) (hne : h ≠ g) (hv : v.ownBlock ≠ some h)
    (hn : n ≤ 10) (hx : ∀ x ∈ l, x ≤ 1099511627776) (hp : pre.length ≤ 5000) (hl : l.length = n) :
    Calls Tryz.prog 67 #[.slice A n c, .pointer (some ⟨g + 1, 0, none⟩)] w fun e w' => e = .returned (.tuple #[]) ∧ ∃ v', GatV w' g v' (pre ++ encs l) ∧ Kp w w' g v v' ∧ Below g w w' := by
  have HS := Lib.hid (show NrRel w g h v pre l 0 w from ⟨v, by simpa [encs] using hG, fun y t cs h _ hu => ⟨h, hu⟩, hB, hv, Below.refl _ _⟩)
  have HA := Lib.hid hA
  have HNE := Lib.hid hne
  have HX := Lib.hid hx
  have HL := Lib.hid hl
  have HSS : Hid (∀ W v' pre', GatV W g v' pre' → W.cell? ⟨g + 1, 0, none⟩ = some (.func (.func 66) #[] #[.pointer (some ⟨g, 0, none⟩)])) := Lib.hid (fun W v' pre' hW => by
    have := hW.2.1.cell 0
    simpa [gval] using this)
  clear hG hA hB hne hv hx hl
  go_enter Tryz.func67, Tryz.ntmps67
  go_wp2_with fail
  go_loopw [7] (fun i wr => ∃ k : Nat, k ≤ n ∧ i = .int .i64 k ∧ NrRel w g h v pre l k wr) (fun i _ => n - (intOf i).toNat)
  case atStart => exact ⟨0, by omega, rfl, HS.out⟩
  case round =>
    clear HS
    obtain ⟨k, hk, rfl, v1, hg1, hk1, hb1, hv1, hB1⟩ := hrel
    have G := Lib.hid hg1
    have KP := Lib.hid hk1
    have BX := Lib.hid hb1
    have HV := Lib.hid hv1
    have HB := Lib.hid hB1
    clear hg1 hk1 hv1 hB1
    by_cases hlt : k < n
    · have hkz : k < l.length := by have := HL.out; omega
      have hr : Rd wr A n (zsN l) := by
        have := HL.out
        rw [HA.out]
        exact rd_box hb1 rfl (by rw [zsN_len]; exact this)
      clear hb1
      obtain ⟨ad, u, rfl, _, hu, hcell⟩ := hr.at_ hlt
      have hu2 := zsN_at hkz hu
      subst hu2
      have hz : l[k] ≤ 1099511627776 := HX.out _ (List.getElem_mem hkz)
      have HT := Lib.hid (encs_take hkz)
      have HP : Hid ((pre ++ encs (l.take k)).length ≤ 10000) := Lib.hid (by have := encs_len (l.take k); rw [List.length_append]; rw [List.length_take] at this; omega)
      have hpl := NM.enc_le l[k]
      generalize l[k] = z at hcell hz HT hpl
      clear hu hr hkz
      go_upto_region 3 with (fail)
      have GD := Lib.hid (G.out.below (show Below wr.heap.size wr wr.drew from (Below.refl _ _).drew))
      have BD := Lib.hid (show Below wr.heap.size wr wr.drew from (Below.refl _ _).drew)
      obtain ⟨ud, hud⟩ : ∃ ud, ud = wr.drew := ⟨_, rfl⟩
      refine wp_region_held_drew (S := fun w' => w'.cell? ⟨g + 1, 0, none⟩ = some (.func (.func 66) #[] #[.pointer (some ⟨g, 0, none⟩)])) (by kernel_rfl) (HSS.out _ _ _ GD.out) (fun hHeld => ?_)
      rw [← hud] at GD BD hHeld ⊢
      clear hud
      refine qT 0 ?_; try simp only [Act.put, qq]
      refine qT 1 ?_; try simp only [Act.put, qq]
      refine wpAnyH_ready (rs := [2]) (by kernel_rfl) (by simp) ?_
      refine AllReadyH.cons rfl (fun K hK => ?_) AllReadyH.nil
      go_simp
      refine (put_a z _ hz).mono ?_
      rintro e w4 ⟨A0, q0, rfl, hrd, hb⟩
      replace GD := Lib.hid (GD.out.below hb)
      replace BD := Lib.hid (BD.out.trans (hb.mono BD.out.size))
      refine hK.out _ _ (HSS.out _ _ _ GD.out) (fun hHeld => ?_)
      clear hK hb
      try simp only [Act.put, qq]
      refine qT 3 ?_; try simp only [Act.put, qq]
      refine qT 4 ?_; try simp only [Act.put, qq]
      refine wpAnyH_ready (rs := [5]) (by kernel_rfl) (by simp) ?_
      refine AllReadyH.cons rfl (fun K hK => ?_) AllReadyH.nil
      go_simp
      refine (gather_any g (pre ++ encs (l.take k)) (NM.enc z) A0 _ q0 v1 w4 GD.out hrd (by omega) HP.out).mono ?_
      rintro e w5 ⟨rfl, v2, hg2, hk2, hb2⟩
      have HN : Hid (NrRel w g h v pre l (k + 1) w5) := Lib.hid (by
        have t := hk2 h _ _ (BX.out.below BD.out BX.out.lt) HNE.out HV.out
        refine ⟨v2, ?_, KP.out.trans ((Kp.ofBelow BD.out g v1).trans hk2), t.1, t.2, HB.out.trans ((BD.out.mono (by have := G.out.1.lt; omega)).trans hb2)⟩
        rw [HT.out, ← List.append_assoc]
        exact hg2)
      refine hK.out _ _ (HSS.out _ _ _ hg2) (fun hHeld => ?_)
      clear hK hg2 hk2 hb2 hrd
      try simp only [Act.put, qq]
      refine wpAnyH_done (by kernel_rfl) ?_ _
      clear hHeld GD BD G KP BX HV HB
      go_wp2_with fail
      go_roundw
      case rel => exact ⟨k + 1, by omega, by go_num, HN.out⟩
      case measure => simp [intOf]; omega
    · obtain rfl : k = n := by omega
      have HE : Hid (∃ v', GatV wr g v' (pre ++ encs l) ∧ Kp w wr g v v' ∧ Below g w wr) := Lib.hid ⟨v1, by have := G.out; rwa [List.take_of_length_le (by have := HL.out; omega)] at this, KP.out, HB.out⟩
      clear G KP BX HV HB hb1
      go_wp2
      go_end0
      exact ⟨rfl, HE.out⟩
end Go.Proofs.YteebeiaokfenmaaGreat.CP
