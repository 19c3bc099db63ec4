/-
  The walk of NumNames: the limits, the errors' numbers and the examples of the chapter.
-/
import Derived.Test.YtffikjepeoeimaaNumTextsW
namespace Go.Proofs.Ytffikjepeoeimaa
open Go.RowKit
set_option linter.unusedVariables false

/-- a row that was just laid reads as its cells -/
theorem rd_row (w : World) (xs : List Value) (t : TypeId) : Rd (w.alloc (.cells xs.toArray t)) (some ⟨w.heap.size, 0, none⟩) xs.length xs := by
  refine ⟨rfl, fun _ => ⟨_, rfl, by simp, fun j u hu => ?_⟩⟩
  have h := World.cell?_alloc_mark w xs.toArray t (0, 0) j
  have e : (⟨w.heap.size, 0, none⟩ : Addr).add j = ⟨w.heap.size, j, none⟩ := by unfold Addr.add; by_cases hj : j = 0 <;> simp [hj]
  rw [e]
  rw [h]; simpa using hu
theorem get_lit (l : List UInt8) (xs : List Value) (k b : Nat) (o : Option (Nat × Nat)) (w : World) (hb : b = w.heap.size) (hx : bc l = xs) (hk : xs.length = k) (ho : NM.dec l = o) (h9 : k ≤ 100) :
    Calls Try.prog 10 #[.slice (some ⟨b, 0, none⟩) k k] (w.alloc (.cells xs.toArray 5)) fun e w' => e = .returned (getRes o) ∧ w.alloc (.cells xs.toArray 5) = w' := by
  subst hb
  subst hx
  subst ho
  subst hk
  exact get_any _ _ _ l _ (rd_row w _ _) (by unfold maxLen; omega)
theorem getInts_lit (l : List UInt8) (xs : List Value) (k b most : Nat) (o : Option (List Nat × Nat)) (w : World) (hb : b = w.heap.size) (hx : bc l = xs) (hk : xs.length = k) (ho : NM.getInts l most = o) (h9 : k ≤ 100) (hm : most ≤ 4096) :
    Calls Try.prog 13 #[.slice (some ⟨b, 0, none⟩) k k, .int .i64 most] (w.alloc (.cells xs.toArray 5)) (GetIntsPost (w.alloc (.cells xs.toArray 5)) o) := by
  subst hb
  subst hx
  subst ho
  subst hk
  exact getInts_any _ _ _ most l _ (rd_row w _ _) (Nat.le_refl _) (by unfold maxLen; omega) hm
theorem str_at {w : World} {A : Option Addr} {n : Nat} {l : List UInt8} (h : Rd w A n (bc l)) (cap : Nat) : (convert 22 9 (.slice A n cap)).run Try.prog w = .ok (.string ⟨l.toArray⟩) w :=
  run_string_of _ _ _ 5 _ _ cap _ Try.underlying22 Try.underlying5 Try.underlying9 h

theorem text_lit (l r : List UInt8) (k : Nat) (w : World) (hl : l.length ≤ 4096) (hr : NM.text l = r) (hk : r.length = k) :
    Calls Try.prog 11 #[.string ⟨l.toArray⟩] w fun e w' => ∃ A c, e = .returned (.tuple #[.slice A k c, .int .i64 0]) ∧ Rd w' A k (bc r) ∧ Below w.heap.size w w' := by
  subst hr
  subst hk
  refine (text_all l w (by omega)).mono ?_
  rintro e w' ⟨v, x, rfl, ⟨_, rfl, A, c, rfl, h1, _⟩ | ⟨h, _, _⟩, hb⟩
  · exact ⟨A, c, rfl, h1, hb⟩
  · omega
theorem ints_lit (zs : List Int) (r : List UInt8) (n k b : Nat) (w : World) (hb : b = w.heap.size) (hn : zs.length = n) (hok : ∀ z ∈ zs, 0 ≤ z ∧ z ≤ 1099511627776) (hr : NM.ints (nats zs) = r) (hk : r.length = k) (h9 : n ≤ 4096) :
    Calls Try.prog 12 #[.slice (some ⟨b, 0, none⟩) n n] (w.alloc (.cells (ic zs).toArray 3)) fun e w' => ∃ A c, e = .returned (.tuple #[.slice A k c, .int .i64 0]) ∧ Rd w' A k (bc r) ∧ Below (w.alloc (.cells (ic zs).toArray 3)).heap.size (w.alloc (.cells (ic zs).toArray 3)) w' := by
  subst hb
  subst hr
  subst hk
  subst hn
  have hrd := rd_row w (ic zs) 3
  rw [ic_length] at hrd
  refine (ints_all _ _ _ zs _ hrd (by unfold maxLen; omega)).mono ?_
  rintro e w' ⟨v, x, rfl, ⟨_, _, rfl, A, c, rfl, h1, _⟩ | ⟨_, h, _⟩ | ⟨h, _⟩, hb⟩
  · exact ⟨A, c, rfl, h1, hb⟩
  · exact absurd hok h
  · omega

set_option maxRecDepth 100000 in
set_option maxHeartbeats 4000000 in
theorem numNames_walk (w : World) : Calls Try.prog 3 #[] w fun e w' => e = .returned (.bool true) ∧ Below w.heap.size w w' := by
  go_enter Try.func3, Try.ntmps3
  go_wp2_with fail
  refine (put_rd 0 [0] 1 _ (by omega) (by decide) rfl).mono ?_
  rintro e w1 ⟨A1, c1, rfl, hr1, hc1, hm1, hb1⟩
  go_wp2_with fail
  refine (put_rd 127 [127] 1 _ (by omega) (by decide) rfl).mono ?_
  rintro e w2 ⟨A2, c2, rfl, hr2, hc2, hm2, hb2⟩
  have hB2 := bmore hb1 hb2 (Nat.le_refl _)
  have hr12 := hr1.below hb2
  clear hb1 hb2 hr1
  go_wp2_with fail
  refine (put_no (-1) _ (by omega)).mono ?_
  rintro e w3 ⟨rfl, rfl⟩
  have H1 := Lib.hid hr12; clear hr12
  have H2 := Lib.hid hr2; clear hr2
  have hg := get_lit [128, 1, 9] [.int .u8 128, .int .u8 1, .int .u8 9] 3 (w2.heap.size) (some (128, 2)) w2 (by simp) rfl rfl (by decide) (by omega)
  have HG := Lib.hid hg; clear hg
  go_wp2_with fail
  refine (HG.out).mono ?_
  rintro e w4 ⟨rfl, rfl⟩
  clear HG
  unfold getRes
  have hg := get_lit [128, 0] [.int .u8 128, .int .u8 0] 2 (w2.heap.size + 1) (none) (w2.alloc (.cells #[.int .u8 128, .int .u8 1, .int .u8 9] 5)) (by simp) rfl rfl (by decide) (by omega)
  have HG := Lib.hid hg; clear hg
  go_wp2_with fail
  refine (HG.out).mono ?_
  rintro e w4 ⟨rfl, rfl⟩
  clear HG
  unfold getRes
  go_wp2_with fail
  have hg := get_any none 0 0 [] ((w2.alloc (.cells #[.int .u8 128, .int .u8 1, .int .u8 9] 5)).alloc (.cells #[.int .u8 128, .int .u8 0] 5)) Rd.nil (by unfold maxLen; omega)
  rw [show NM.dec [] = none by decide] at hg
  have HG := Lib.hid hg; clear hg
  refine (HG.out).mono ?_
  rintro e w4 ⟨rfl, rfl⟩
  clear HG
  unfold getRes
  have hg := get_lit [128] [.int .u8 128] 1 (w2.heap.size + 1 + 1) (none) ((w2.alloc (.cells #[.int .u8 128, .int .u8 1, .int .u8 9] 5)).alloc (.cells #[.int .u8 128, .int .u8 0] 5)) (by simp) rfl rfl (by decide) (by omega)
  have HG := Lib.hid hg; clear hg
  go_wp2_with fail
  refine (HG.out).mono ?_
  rintro e w4 ⟨rfl, rfl⟩
  clear HG
  unfold getRes
  have hB3 : Below w.heap.size w (((w2.alloc (.cells #[.int .u8 128, .int .u8 1, .int .u8 9] 5)).alloc (.cells #[.int .u8 128, .int .u8 0] 5)).alloc (.cells #[.int .u8 128] 5)) := ((hB2.alloc hB2.size _).alloc (by have := hB2.size; simp; omega) _).alloc (by have := hB2.size; simp; omega) _
  have h1' := (((H1.out).alloc (.cells #[.int .u8 128, .int .u8 1, .int .u8 9] 5)).alloc (.cells #[.int .u8 128, .int .u8 0] 5)).alloc (.cells #[.int .u8 128] 5)
  have h2' := (((H2.out).alloc (.cells #[.int .u8 128, .int .u8 1, .int .u8 9] 5)).alloc (.cells #[.int .u8 128, .int .u8 0] 5)).alloc (.cells #[.int .u8 128] 5)
  clear H1 H2 hB2
  have H1 := Lib.hid h1'; clear h1'
  have H2 := Lib.hid h2'; clear h2'
  have HB := Lib.hid hB3; clear hB3
  go_wp2_with fail
  refine (text_lit [97, 98] [2, 97, 98] 3 _ (by decide) (by decide) rfl).mono ?_
  rintro e w5 ⟨A5, c5, rfl, hr5, hb5⟩
  have hB5 := bmore HB.out hb5 (by simp)
  have h1' := H1.out.below hb5
  have h2' := H2.out.below hb5
  clear H1 H2 HB hb5
  have H1 := Lib.hid h1'; clear h1'
  have H2 := Lib.hid h2'; clear h2'
  have H5 := Lib.hid hr5; clear hr5
  have hg := ints_lit [3, 200] [2, 3, 200, 1] 2 4 w5.heap.size w5 rfl rfl (by decide) (by decide) rfl (by omega)
  have HG := Lib.hid hg; clear hg
  go_wp2_with fail
  refine (HG.out).mono ?_
  rintro e w6 ⟨A6, c6, rfl, hr6, hb6⟩
  have hb6' := bmore ((Below.refl _ w5).alloc (Nat.le_refl _) _) hb6 (Nat.le_refl _)
  have hB6 := bmore hB5 hb6' (Nat.le_refl _)
  have h1' := H1.out.below hb6'
  have h2' := H2.out.below hb6'
  have h5' := H5.out.below hb6'
  clear H1 H2 H5 HG hb6 hb6' hB5
  have H1 := Lib.hid h1'; clear h1'
  have H2 := Lib.hid h2'; clear h2'
  have H5 := Lib.hid h5'; clear h5'
  have H6 := Lib.hid hr6; clear hr6
  have hg := getInts_lit [2, 3, 200, 1, 7] [.int .u8 2, .int .u8 3, .int .u8 200, .int .u8 1, .int .u8 7] 5 w6.heap.size 2 (some ([3, 200], 4)) w6 rfl rfl rfl (by decide) (by omega) (by omega)
  rw [show ((2 : Nat) : Int) = 2 from rfl] at hg
  have HG := Lib.hid hg; clear hg
  go_wp2_with fail
  refine (HG.out).mono ?_
  rintro e w7 ⟨hb7, ⟨hno, _⟩ | ⟨xs, k, v7, ho, rfl, hown7⟩⟩
  · cases hno
  simp only [Option.some.injEq, Prod.mk.injEq] at ho
  obtain ⟨rfl, rfl⟩ := ho
  obtain ⟨A7, c7, rfl, hc7, hm7⟩ := own_slice hown7
  obtain ⟨g7, rfl, _⟩ := own_slice_base hown7 (by decide)
  have hr7 := Rd.of_own hown7
  rw [show ([3, 200] : List Nat).length = 2 from rfl, show intsOf [3, 200] = [3, 200] from rfl] at hr7
  rw [show ([3, 200] : List Nat).length = 2 from rfl] at hc7
  have hb7' := bmore ((Below.refl _ w6).alloc (Nat.le_refl _) _) hb7 (Nat.le_refl _)
  have hB7 := bmore hB6 hb7' (Nat.le_refl _)
  have h1' := H1.out.below hb7'
  have h2' := H2.out.below hb7'
  have h5' := H5.out.below hb7'
  have h6' := H6.out.below hb7'
  clear H1 H2 H5 H6 HG hb7 hb7' hB6 hown7
  have H1 := Lib.hid h1'; clear h1'
  have H2 := Lib.hid h2'; clear h2'
  have H5 := Lib.hid h5'; clear h5'
  have H6 := Lib.hid h6'; clear h6'
  have H7 := Lib.hid hr7; clear hr7
  have hg := getInts_lit [2, 3, 200, 1, 7] [.int .u8 2, .int .u8 3, .int .u8 200, .int .u8 1, .int .u8 7] 5 w7.heap.size 1 none w7 rfl rfl rfl (by decide) (by omega) (by omega)
  rw [show ((1 : Nat) : Int) = 1 from rfl] at hg
  have HG := Lib.hid hg; clear hg
  go_wp2_with fail
  refine (HG.out).mono ?_
  rintro e w8 ⟨hb8, ⟨_, rfl⟩ | ⟨xs, k, v8, ho, _, _⟩⟩
  rotate_left
  · cases ho
  have hb8' := bmore ((Below.refl _ w7).alloc (Nat.le_refl _) _) hb8 (Nat.le_refl _)
  have hB8 := bmore hB7 hb8' (Nat.le_refl _)
  have x1 := str_at (H1.out.below hb8') c1
  have x2 := str_at (H2.out.below hb8') c2
  have h5' := H5.out.below hb8'
  have h6' := H6.out.below hb8'
  have h7' := H7.out.below hb8'
  clear H1 H2 H5 H6 H7 HG hb8 hb8' hB7
  have H5 := Lib.hid h5'; clear h5'
  have H6 := Lib.hid h6'; clear h6'
  have H7 := Lib.hid h7'; clear h7'
  go_wp2_with fail
  refine (alive_any _).mono ?_
  rintro e w9 ⟨rfl, hb9⟩
  have hB9 := bmore hB8 hb9 (Nat.le_refl _)
  have x5 := str_at (H5.out.below hb9) c5
  have x6 := str_at (H6.out.below hb9) c6
  obtain ⟨ad, hea, _, hcs⟩ := (H7.out.below hb9).2 (by omega)
  injection hea with hea
  subst hea
  have y0 : w9.cell? ⟨g7, 0, none⟩ = some (.int .i64 3) := by simpa [Addr.add] using hcs 0 (.int .i64 3) rfl
  have y1 : w9.cell? ⟨g7, 1, none⟩ = some (.int .i64 200) := by simpa [Addr.add] using hcs 1 (.int .i64 200) rfl
  clear hcs
  clear H5 H6 H7 hb9 hB8 x1 x2
  go_wp2
  go_ret
  exact ⟨by simp, hB9⟩
end Go.Proofs.Ytffikjepeoeimaa
