/-
  The walk of FrameNames: the limits, the errors' numbers and the examples of the chapter.
-/
import Derived.Test.YtpabkhcoaiggnaaFrameAlive
namespace Go.Proofs.Ytpabkhcoaiggnaa
open Go.RowKit
set_option linter.unusedVariables false

theorem same_lit (A : Option Addr) (n ca b : Nat) (ls : List (List UInt8)) (xs : List Value) (w : World) (hb : b = w.heap.size) (hx : sc ls = xs) (hn : ls.length = n) (h9 : n ≤ 4096) (h1 : Rd w A n (sc ls)) :
    Calls Try.prog 10 #[.slice A n ca, .slice (some ⟨b, 0, none⟩) n n] (w.alloc (.cells xs.toArray 9)) fun e w' => e = .returned (.bool true) ∧ ∃ q, w' = (w.alloc (.cells xs.toArray 9)).drewN q := by
  subst hb
  subst hx
  subst hn
  have hrd := rd_row w (sc ls) 9
  rw [sc_length] at hrd
  exact same_texts _ _ _ _ _ ls _ (h1.alloc _) hrd (by omega)
theorem bc_replicate (n : Nat) : List.replicate n (Value.int .u8 0) = bc (List.replicate n 0) := by simp [bc]

set_option maxRecDepth 100000 in
set_option maxHeartbeats 4000000 in
theorem frameNames_walk (w : World) : Calls Try.prog 3 #[] w fun e w' => e = .returned (.bool true) ∧ Below w.heap.size w w' := by
  obtain ⟨i0, hi, hz0, hz1, hz2⟩ := info_parts info_u8
  obtain ⟨i1, hj, hy0, hy1, hy2⟩ := info_parts info_str
  have kc := Lib.run_convert_bytes_const (P := Try.prog) w 26 5 #[.int .u8 2, .int .u8 97, .int .u8 98, .int .u8 0, .int .u8 5, .int .u8 97] 6 6 Try.underlying26 Try.underlying5
  have HC := Lib.hid (cut_const [2, 97, 98, 0, 5, 97] [.int .u8 2, .int .u8 97, .int .u8 98, .int .u8 0, .int .u8 5, .int .u8 97] [[97, 98], []] 6 2 4 w.heap.size w (6, 7) rfl rfl rfl ⟨rfl, by decide⟩ (by omega))
  go_enter Try.func3, Try.ntmps3
  go_wp2_with fail
  refine (HC.out).mono ?_
  rintro e w1 ⟨A1, c1, rfl, hr1, hc1, hm1, hb1⟩
  have hB1 := bmore ((Below.refl _ w).alloc (Nat.le_refl _) _) hb1 (Nat.le_refl _)
  clear hb1 HC hm1 kc
  have kc := Lib.run_convert_bytes_const (P := Try.prog) w1 26 5 #[.int .u8 2, .int .u8 97] 2 2 Try.underlying26 Try.underlying5
  have HC := Lib.hid (cut_const [2, 97] [.int .u8 2, .int .u8 97] [] 2 0 0 w1.heap.size w1 (2, 3) rfl rfl rfl ⟨rfl, by decide⟩ (by omega))
  go_wp2_with fail
  refine (HC.out).mono ?_
  rintro e w2 ⟨A2, c2, rfl, hr2, hc2, hm2, hb2⟩
  have hb2' := bmore ((Below.refl _ w1).alloc (Nat.le_refl _) _) hb2 (Nat.le_refl _)
  have hB2 := bmore hB1 hb2' (Nat.le_refl _)
  have hs2 := hr1.below hb2'
  clear hb2 hb2' HC kc hm2 hr2 hr1 hB1
  have HC := Lib.hid (cut_lit [128, 0] [.int .u8 128, .int .u8 0] [] 2 0 0 w2.heap.size w2 rfl rfl rfl ⟨rfl, by decide⟩ (by omega))
  go_wp2_with fail
  refine (HC.out).mono ?_
  rintro e w3 ⟨A3, c3, rfl, hr3, hc3, hm3, hb3⟩
  have hb3' := bmore ((Below.refl _ w2).alloc (Nat.le_refl _) _) hb3 (Nat.le_refl _)
  have hB3 := bmore hB2 hb3' (Nat.le_refl _)
  have hs3 := hs2.below hb3'
  clear hb3 hb3' HC hm3 hr3 hs2 hB2
  obtain ⟨s, hs⟩ : ∃ s : List UInt8, s = List.replicate 4097 0 := ⟨_, rfl⟩
  have hsl : s.length = 4097 := by rw [hs, List.length_replicate]
  have HS := Lib.hid hs; clear hs
  have HSL := Lib.hid hsl; clear hsl
  have HT : Hid (TextIs s [] 0 3) := Lib.hid ⟨rfl, .inr ⟨by have := HSL.out; omega, rfl, rfl⟩⟩
  go_wp2_with (at_make; refine wpList_make_rd _ rfl _ _ 26 rfl 5 i0 (.int .u8 0) Try.underlying26 hi hz0 hz1 rfl .i64 .i64 4097 rfl rfl (by rw [hz2]; omega) (by unfold maxLen; omega) ?_; intro A4 w4 hown4 hb4; have hr4 := Rd.of_own hown4; rw [bc_replicate, ← HS.out] at hr4; have X4 := str_ans hr4 4097; clear hown4 hr4)
  have hB4 := bmore hB3 hb4 (Nat.le_refl _)
  have hs4 := hs3.below hb4
  clear hb4 hs3 hB3
  refine (frame_ans s [] 0 3 _ HT.out (by have := HSL.out; omega)).mono ?_
  rintro e w5 ⟨A5, c5, rfl, hr5, hc5, hm5, hb5⟩
  have hB5 := bmore hB4 hb5 (Nat.le_refl _)
  have hs5 := hs4.below hb5
  clear hb5 hs4 hB4 X4 hr5 hm5 HT
  go_wp2_with (at_make; refine wpList_make_rd _ rfl _ _ 22 rfl 9 i1 (.string ByteArray.empty) Try.underlying22 hj hy0 hy1 rfl .i64 .i64 65537 rfl rfl (by rw [hy2]; omega) (by unfold maxLen; omega) ?_; intro A6 w6 hown6 hb6; clear hown6)
  have hB6 := bmore hB5 hb6 (Nat.le_refl _)
  have hs6 := hs5.below hb6
  clear hb6 hs5 hB5
  refine (join_great A6 65537 65537 w6 (by omega) (by unfold maxLen; omega)).mono ?_
  rintro e w7 ⟨rfl, rfl⟩
  go_wp2_with fail
  refine (frameAlive_any _).mono ?_
  rintro e w8 ⟨rfl, hb8⟩
  have hB8 := bmore hB6 hb8 (Nat.le_refl _)
  have hs8 := hs6.below hb8
  clear hb8 hs6 hB6
  have HC := Lib.hid (same_lit A1 2 c1 w8.heap.size [[97, 98], []] [.string ⟨#[97, 98]⟩, .string ⟨#[]⟩] w8 rfl rfl rfl (by omega) hs8)
  clear hs8
  go_wp2_with fail
  refine (HC.out).mono ?_
  rintro e w9 ⟨rfl, q, rfl⟩
  have hB9 := below_drewN (hB8.alloc hB8.size (.cells #[.string ⟨#[97, 98]⟩, .string ⟨#[]⟩] 9)) q
  clear HC
  go_wp2
  go_ret
  exact ⟨by simp, hB9⟩
end Go.Proofs.Ytpabkhcoaiggnaa
