/-
  The document's own parse (towncrierref12): any bytes. Conditions: the slice reads as bytes.
  The document's own Read (towncrierref12). Conditions: the text's length is one that Go has.
-/
import Derived.Test.YteebeiaokfenmaaGreatK34
import Derived.Test.YteebeiaokfenmaaGreatK37
import Derived.Test.YteebeiaokfenmaaGreatK35
import Derived.Test.YteebeiaokfenmaaGreatK36
import Derived.Deep.DeepCutAuto
import Derived.Test.YteebeiaokfenmaaGreatK54
import Derived.Test.YteebeiaokfenmaaGreatK01
import Derived.Test.YteebeiaokfenmaaGreatK32
namespace Go.Proofs.YteebeiaokfenmaaGreat.CP
open Go.RowKit
open CM (Mg Cm)
set_option linter.unusedVariables false
set_option linter.unusedSimpArgs false
set_option maxRecDepth 100000

theorem parse_k2 (v : Value) (l : List UInt8) (w : World) (h : BsIs w w.heap.size v l) (r0 : List UInt8) (hn : CM.nm l = some (2, r0)) :
    Calls Tryz.prog 113 #[v] w (ParseIs (CM.parse l) w) := by
  have hk : nums 1 l = some ([2], r0) := by rw [nums1, hn]; rfl
  have hp : CM.parse l = CM.q2 r0 := by unfold CM.parse; rw [hn]; rfl
  rcases e0 : CM.nm r0 with _ | ⟨n0, r1⟩
  · exact parse_2_0 v l w h r0 hk (by rw [nums2]; simp [e0]) (by rw [hp]; simp [CM.q2, e0])
  rcases e1 : CM.nm r1 with _ | ⟨n1, r2⟩
  · exact parse_2_0 v l w h r0 hk (by rw [nums2]; simp [e0, e1]) (by rw [hp]; simp [CM.q2, e0, e1])
  exact parse_2_ok (r1 := r2) v l w h r0 hk (by rw [nums2]; simp [e0, e1]) (by rw [hp]; simp [CM.q2, e0, e1]) ⟨by constructor <;> simp, mz_fit, i64_nat (nm_le e0), i64_nat (nm_le e1), i64_zero, i64_zero, i64_zero⟩
theorem parse_k4 (v : Value) (l : List UInt8) (w : World) (h : BsIs w w.heap.size v l) (r0 : List UInt8) (hn : CM.nm l = some (4, r0)) :
    Calls Tryz.prog 113 #[v] w (ParseIs (CM.parse l) w) := by
  have hk : nums 1 l = some ([4], r0) := by rw [nums1, hn]; rfl
  have hp : CM.parse l = CM.q4 r0 := by unfold CM.parse; rw [hn]; rfl
  rcases e0 : CM.nm r0 with _ | ⟨n0, r1⟩
  · exact parse_4_0 v l w h r0 hk (by rw [nums4]; simp [e0]) (by rw [hp]; simp [CM.q4, e0])
  rcases e1 : CM.nm r1 with _ | ⟨n1, r2⟩
  · exact parse_4_0 v l w h r0 hk (by rw [nums4]; simp [e0, e1]) (by rw [hp]; simp [CM.q4, e0, e1])
  rcases e2 : CM.nm r2 with _ | ⟨n2, r3⟩
  · exact parse_4_0 v l w h r0 hk (by rw [nums4]; simp [e0, e1, e2]) (by rw [hp]; simp [CM.q4, e0, e1, e2])
  rcases e3 : CM.nm r3 with _ | ⟨n3, r4⟩
  · exact parse_4_0 v l w h r0 hk (by rw [nums4]; simp [e0, e1, e2, e3]) (by rw [hp]; simp [CM.q4, e0, e1, e2, e3])
  exact parse_4_ok (r1 := r4) v l w h r0 hk (by rw [nums4]; simp [e0, e1, e2, e3]) (by rw [hp]; simp [CM.q4, e0, e1, e2, e3]) ⟨by constructor <;> simp, mz_fit, i64_nat (nm_le e0), i64_zero, i64_nat (nm_le e1), i64_nat (nm_le e2), i64_nat (nm_le e3)⟩
theorem parse_k5 (v : Value) (l : List UInt8) (w : World) (h : BsIs w w.heap.size v l) (r0 : List UInt8) (hn : CM.nm l = some (5, r0)) :
    Calls Tryz.prog 113 #[v] w (ParseIs (CM.parse l) w) := by
  have hk : nums 1 l = some ([5], r0) := by rw [nums1, hn]; rfl
  have hp : CM.parse l = CM.q5 5 r0 := by unfold CM.parse; rw [hn]; rfl
  rcases e0 : CM.nm r0 with _ | ⟨n0, r1⟩
  · exact parse_5_0 v l w h r0 hk (by rw [nums3]; simp [e0]) (by rw [hp]; simp [CM.q5, e0])
  rcases e1 : CM.nm r1 with _ | ⟨n1, r2⟩
  · exact parse_5_0 v l w h r0 hk (by rw [nums3]; simp [e0, e1]) (by rw [hp]; simp [CM.q5, e0, e1])
  rcases e2 : CM.nm r2 with _ | ⟨n2, r3⟩
  · exact parse_5_0 v l w h r0 hk (by rw [nums3]; simp [e0, e1, e2]) (by rw [hp]; simp [CM.q5, e0, e1, e2])
  exact parse_5_ok (r1 := r3) v l w h r0 hk (by rw [nums3]; simp [e0, e1, e2]) (by rw [hp]; simp [CM.q5, e0, e1, e2]) ⟨by constructor <;> simp, mz_fit, i64_nat (nm_le e0), i64_zero, i64_nat (nm_le e1), i64_zero, i64_nat (nm_le e2)⟩
theorem parse_k6 (v : Value) (l : List UInt8) (w : World) (h : BsIs w w.heap.size v l) (r0 : List UInt8) (hn : CM.nm l = some (6, r0)) :
    Calls Tryz.prog 113 #[v] w (ParseIs (CM.parse l) w) := by
  have hk : nums 1 l = some ([6], r0) := by rw [nums1, hn]; rfl
  have hp : CM.parse l = CM.q5 6 r0 := by unfold CM.parse; rw [hn]; rfl
  rcases e0 : CM.nm r0 with _ | ⟨n0, r1⟩
  · exact parse_6_0 v l w h r0 hk (by rw [nums3]; simp [e0]) (by rw [hp]; simp [CM.q5, e0])
  rcases e1 : CM.nm r1 with _ | ⟨n1, r2⟩
  · exact parse_6_0 v l w h r0 hk (by rw [nums3]; simp [e0, e1]) (by rw [hp]; simp [CM.q5, e0, e1])
  rcases e2 : CM.nm r2 with _ | ⟨n2, r3⟩
  · exact parse_6_0 v l w h r0 hk (by rw [nums3]; simp [e0, e1, e2]) (by rw [hp]; simp [CM.q5, e0, e1, e2])
  exact parse_6_ok (r1 := r3) v l w h r0 hk (by rw [nums3]; simp [e0, e1, e2]) (by rw [hp]; simp [CM.q5, e0, e1, e2]) ⟨by constructor <;> simp, mz_fit, i64_nat (nm_le e0), i64_zero, i64_nat (nm_le e1), i64_zero, i64_nat (nm_le e2)⟩
theorem parse_k3 (v : Value) (l : List UInt8) (w : World) (h : BsIs w w.heap.size v l) (r0 : List UInt8) (hn : CM.nm l = some (3, r0)) :
    Calls Tryz.prog 113 #[v] w (ParseIs (CM.parse l) w) := by
  have hk : nums 1 l = some ([3], r0) := by rw [nums1, hn]; rfl
  have hp : CM.parse l = CM.q3 r0 := by unfold CM.parse; rw [hn]; rfl
  rcases e0 : CM.lst 6 r0 with _ | ⟨xs, r1⟩
  · exact parse_3_0 v l w h r0 hk e0 (by rw [hp]; simp [CM.q3, e0])
  · exact parse_3_ok v l w h r0 hk e0 (by rw [hp]; simp [CM.q3, e0]) ⟨by constructor <;> simp, mz_fit, i64_zero, i64_zero, i64_zero, i64_zero, i64_zero⟩
theorem parse_k1 (v : Value) (l : List UInt8) (w : World) (h : BsIs w w.heap.size v l) (r0 : List UInt8) (hn : CM.nm l = some (1, r0)) :
    Calls Tryz.prog 113 #[v] w (ParseIs (CM.parse l) w) := by
  have hk : nums 1 l = some ([1], r0) := by rw [nums1, hn]; rfl
  have hp : CM.parse l = CM.q1 r0 := by unfold CM.parse; rw [hn]; rfl
  rcases e0 : CM.nm r0 with _ | ⟨n0, r1⟩
  · exact parse_1_0 v l w h r0 hk (by rw [nums1]; simp [e0]) (by rw [hp]; simp [CM.q1, e0])
  have hq0 : nums 1 r0 = some ([n0], r1) := by rw [nums1]; simp [e0]
  rcases e1 : CM.lst 4 r1 with _ | ⟨xs, r2⟩
  · exact parse_1_1 v l w h r0 hk hq0 e1 (by rw [hp]; simp [CM.q1, e0, e1])
  rcases e2 : CM.nm r2 with _ | ⟨n1, r3⟩
  · exact parse_1_2 v l w h r0 hk hq0 e1 (by rw [nums1]; simp [e2]) (by rw [hp]; simp [CM.q1, e0, e1, e2])
  have hq2 : nums 1 r2 = some ([n1], r3) := by rw [nums1]; simp [e2]
  rcases e3 : CM.tx r3 with _ | ⟨s, r4⟩
  · exact parse_1_3 v l w h r0 hk hq0 e1 hq2 (by unfold tx2; simp [e3]) (by rw [hp]; simp [CM.q1, e0, e1, e2, e3])
  rcases e4 : CM.tx r4 with _ | ⟨t, r5⟩
  · exact parse_1_3 v l w h r0 hk hq0 e1 hq2 (by unfold tx2; simp [e3, e4]) (by rw [hp]; simp [CM.q1, e0, e1, e2, e3, e4])
  · exact parse_1_ok (r4 := r5) v l w h r0 hk hq0 e1 hq2 (by unfold tx2; simp [e3, e4]) (by rw [hp]; simp [CM.q1, e0, e1, e2, e3, e4]) ⟨by constructor <;> simp, ⟨i64_nat (nm_le e0), i64_nat (nm_le e2), tx_size e3, tx_size e4⟩, i64_zero, i64_zero, i64_zero, i64_zero, i64_zero⟩
theorem parse12_any (v : Value) (l : List UInt8) (w : World) (h : BsIs w w.heap.size v l) :
    Calls Tryz.prog 113 #[v] w (ParseIs (CM.parse l) w) := by
  rcases hn : CM.nm l with _ | ⟨k, r0⟩
  · exact parse_none v l w h (by rw [nums1, hn]; rfl) (by unfold CM.parse; rw [hn]; rfl)
  by_cases h0 : k = 0
  · subst h0; exact parse_0 v l w h r0 (by rw [nums1, hn]; rfl) (by unfold CM.parse; rw [hn]; rfl)
  by_cases h1 : k = 1
  · subst h1; exact parse_k1 v l w h r0 hn
  by_cases h2 : k = 2
  · subst h2; exact parse_k2 v l w h r0 hn
  by_cases h3 : k = 3
  · subst h3; exact parse_k3 v l w h r0 hn
  by_cases h4 : k = 4
  · subst h4; exact parse_k4 v l w h r0 hn
  by_cases h5 : k = 5
  · subst h5; exact parse_k5 v l w h r0 hn
  by_cases h6 : k = 6
  · subst h6; exact parse_k6 v l w h r0 hn
  exact parse_big v l w h r0 k (by omega) (by rw [nums1, hn]; rfl) (by unfold CM.parse; rw [hn]; simp [h0, h1, h2, h3, h4, h5, h6])
end Go.Proofs.YteebeiaokfenmaaGreat.CP

namespace Go.Proofs.YteebeiaokfenmaaGreat.CP
open Go.RowKit
open CM (Mg Cm)
set_option linter.unusedVariables false
set_option linter.unusedSimpArgs false
set_option maxRecDepth 100000

set_option maxHeartbeats 4000000 in
theorem read12_ge {x : Cm} {y : Int} (s : ByteArray) (h : CM.ReadIs (RM.bsz s) x y) (hs : s.size ≤ maxLen) (w : World) :
    Calls Tryz.prog 95 #[.string s] w (RdGe x y w) := by
  have HXY := Lib.hid (CM.readIs_eq h (CM.readIs_read (RM.bsz s)))
  clear h
  have HB := Lib.hid (show Below w.heap.size w (w.alloc (.cells #[.int .u8 0, .int .i64 0, .slice none 0 0, .int .i64 0, .string ⟨#[]⟩, .string ⟨#[]⟩, .int .i64 0, .int .i64 0, .slice none 0 0, .int .i64 0, .int .i64 0, .int .i64 0] 91)) from (Below.refl _ _).alloc (Nat.le_refl _) _)
  have R := Lib.hid (Box.new w 91 #[.int .u8 0, .int .i64 0, .slice none 0 0, .int .i64 0, .string ⟨#[]⟩, .string ⟨#[]⟩, .int .i64 0, .int .i64 0, .slice none 0 0, .int .i64 0, .int .i64 0, .int .i64 0])
  have hs2 := hs
  unfold maxLen at hs2
  by_cases hl : 1024 < s.size
  · have hF : CM.readF (RM.bsz s) = (CM.zero, 3) := by unfold CM.readF; rw [if_pos (by rw [RM.bsz_len]; exact hl)]
    obtain ⟨rfl, rfl⟩ : x = CM.zero ∧ y = 3 := by have h := HXY.out; rw [hF] at h; exact h
    have hli : (1024 : Int) < (s.size : Int) := by omega
    clear hF hs HXY
    obtain ⟨d0, d1, d2, d3, d4, d5, d6, d7, d8, d9, d10, d11⟩ := box_cm R.out
    have g0 := R.out.frozen 0
    have g1 := R.out.frozen 1
    have g2 := R.out.frozen 2
    have g3 := R.out.frozen 3
    have g4 := R.out.frozen 4
    have g5 := R.out.frozen 5
    have g6 := R.out.frozen 6
    have g7 := R.out.frozen 7
    have g8 := R.out.frozen 8
    have g9 := R.out.frozen 9
    have g10 := R.out.frozen 10
    have g11 := R.out.frozen 11
    go_enter Tryz.func95, Tryz.ntmps95
    go_wp2_with fail
    exact bodyPost_ret (v := .tuple #[.agg #[.int .u8 0, .int .i64 0, .slice none 0 0, .int .i64 0, .string ⟨#[]⟩, .string ⟨#[]⟩, .int .i64 0, .int .i64 0, .slice none 0 0, .int .i64 0, .int .i64 0, .int .i64 0], .int .i64 3]) (by simp [results, Tryz.results95, go_sem, d0, d1, d2, d3, d4, d5, d6, d7, d8, d9, d10, d11]; try rfl) rfl ⟨_, rfl, zero_ge _ _, HB.out⟩
  · obtain ⟨A0, c0, w1, hcv, hR, hc1, hc2, hb1⟩ := conv_ex (w.alloc (.cells #[.int .u8 0, .int .i64 0, .slice none 0 0, .int .i64 0, .string ⟨#[]⟩, .string ⟨#[]⟩, .int .i64 0, .int .i64 0, .slice none 0 0, .int .i64 0, .int .i64 0, .int .i64 0] 91)) s hs
    have HF := Lib.hid (show CM.readF (RM.bsz s) = (match CM.parse (RM.bsz s) with
      | some (c, []) => if CM.may c then (c, 0) else (CM.zero, 8)
      | _ => (CM.zero, 8)) by unfold CM.readF; rw [if_neg (by rw [RM.bsz_len]; exact hl)]; rfl)
    have hli : (s.size : Int) ≤ (1024 : Int) := by omega
    have R1 := Lib.hid (R.out.below hb1 R.out.lt)
    have HB1 := Lib.hid (bmore HB.out hb1 (by simp))
    have hlen : (RM.bsz s).length = s.size := RM.bsz_len s
    have CPa := Lib.hid (parse12_any (.slice A0 s.size c0) (RM.bsz s) w1 ⟨A0, c0, by rw [hlen], by rw [hlen]; exact hR, by rw [hlen]; exact hc1, hc2, fun ad e hn => by
      rw [hlen] at hn
      obtain ⟨a, e2, hB, _⟩ := hR.2 hn
      rw [e] at e2
      injection e2 with e2
      rw [e2]
      exact hB⟩)
    clear hb1 hR R HB hc1 hc2 hs hlen
    generalize CM.parse (RM.bsz s) = oo at CPa HF
    go_enter Tryz.func95, Tryz.ntmps95
    go_wp2_with fail
    refine (CPa.out).mono ?_
    rintro e1 w2 ⟨hb2, ⟨rfl, A, c, P, q, x2, u, rfl⟩ | ⟨x2, r, v, u, rfl, rfl, ⟨A, c, P, q, rfl, r1, r3⟩, hfit, ⟨A5, c5, rfl, _, hc5, hm5, _⟩⟩⟩
    · have hF := HF.out
      simp only at hF
      obtain ⟨rfl, rfl⟩ : x = CM.zero ∧ y = 8 := by have h := HXY.out; rw [hF] at h; exact h
      clear HXY
      obtain ⟨k, ⟨mi, mg, mt, mk, mb⟩, aid, atm, ams, atp, awh, an⟩ := x2
      unfold ccells
      have R2 := Lib.hid ((R1.out.below hb2 R1.out.lt).alloc (.cells #[.int .u8 k, .int .i64 mi, .slice A mg.length c, .int .i64 mt, .string mk, .string mb, .int .i64 aid, .int .i64 atm, .slice P ams.length q, .int .i64 atp, .int .i64 awh, .int .i64 an] 91))
      have HBF := Lib.hid ((bmore HB1.out hb2 (Nat.le_refl _)).alloc (by have := HB1.out.size; have := hb2.size; omega) (.cells #[.int .u8 k, .int .i64 mi, .slice A mg.length c, .int .i64 mt, .string mk, .string mb, .int .i64 aid, .int .i64 atm, .slice P ams.length q, .int .i64 atp, .int .i64 awh, .int .i64 an] 91))
      clear hb2 R1 HB1 CPa HF hF
      go_upto_region 4 with (fail)
      generalize w2.alloc (.cells #[.int .u8 k, .int .i64 mi, .slice A mg.length c, .int .i64 mt, .string mk, .string mb, .int .i64 aid, .int .i64 atm, .slice P ams.length q, .int .i64 atp, .int .i64 awh, .int .i64 an] 91) = w4 at R2 HBF ⊢
      obtain ⟨d0, d1, d2, d3, d4, d5, d6, d7, d8, d9, d10, d11⟩ := box_cm R2.out
      have g0 := R2.out.frozen 0
      have g1 := R2.out.frozen 1
      have g2 := R2.out.frozen 2
      have g3 := R2.out.frozen 3
      have g4 := R2.out.frozen 4
      have g5 := R2.out.frozen 5
      have g6 := R2.out.frozen 6
      have g7 := R2.out.frozen 7
      have g8 := R2.out.frozen 8
      have g9 := R2.out.frozen 9
      have g10 := R2.out.frozen 10
      have g11 := R2.out.frozen 11
      go_wp2_with fail
      exact bodyPost_ret (v := .tuple #[.agg #[.int .u8 0, .int .i64 0, .slice none 0 0, .int .i64 0, .string ⟨#[]⟩, .string ⟨#[]⟩, .int .i64 0, .int .i64 0, .slice none 0 0, .int .i64 0, .int .i64 0, .int .i64 0], .int .i64 8]) (by simp [results, Tryz.results95, go_sem, d0, d1, d2, d3, d4, d5, d6, d7, d8, d9, d10, d11]; try rfl) rfl ⟨_, rfl, zero_ge _ _, put12_below HBF.out (Nat.le_refl _) (.int .u8 0) (.int .i64 0) (.slice none 0 0) (.int .i64 0) (.string ⟨#[]⟩) (.string ⟨#[]⟩) (.int .i64 0) (.int .i64 0) (.slice none 0 0) (.int .i64 0) (.int .i64 0) (.int .i64 0)⟩
    · obtain ⟨k, ⟨mi, mg, mt, mk, mb⟩, aid, atm, ams, atp, awh, an⟩ := x2
      simp only at r1 r3
      unfold ccells
      have hb3 : Below w2.heap.size w2 (w2.alloc (.cells #[.int .u8 k, .int .i64 mi, .slice A mg.length c, .int .i64 mt, .string mk, .string mb, .int .i64 aid, .int .i64 atm, .slice P ams.length q, .int .i64 atp, .int .i64 awh, .int .i64 an] 91)) := (Below.refl _ _).alloc (Nat.le_refl _) _
      have R2 := Lib.hid ((R1.out.below hb2 R1.out.lt).alloc (.cells #[.int .u8 k, .int .i64 mi, .slice A mg.length c, .int .i64 mt, .string mk, .string mb, .int .i64 aid, .int .i64 atm, .slice P ams.length q, .int .i64 atp, .int .i64 awh, .int .i64 an] 91))
      have B2 := Lib.hid (Box.new w2 91 #[.int .u8 k, .int .i64 mi, .slice A mg.length c, .int .i64 mt, .string mk, .string mb, .int .i64 aid, .int .i64 atm, .slice P ams.length q, .int .i64 atp, .int .i64 awh, .int .i64 an])
      have HBF := Lib.hid (bmore (bmore HB1.out hb2 (Nat.le_refl _)) hb3 (Nat.le_refl _))
      have HR1 := Lib.hid (⟨r1.below hb3, r3.below hb3⟩ : RowGe (w2.alloc (.cells #[.int .u8 k, .int .i64 mi, .slice A mg.length c, .int .i64 mt, .string mk, .string mb, .int .i64 aid, .int .i64 atm, .slice P ams.length q, .int .i64 atp, .int .i64 awh, .int .i64 an] 91)) w1.heap.size A c mg ∧ RowGe (w2.alloc (.cells #[.int .u8 k, .int .i64 mi, .slice A mg.length c, .int .i64 mt, .string mk, .string mb, .int .i64 aid, .int .i64 atm, .slice P ams.length q, .int .i64 atp, .int .i64 awh, .int .i64 an] 91)) w1.heap.size P q ams)
      have HP := Lib.hid R1.out.lt
      have CM12 := Lib.hid (may12_any ⟨k, ⟨mi, mg, mt, mk, mb⟩, aid, atm, ams, atp, awh, an⟩ (.agg #[.int .u8 k, .int .i64 mi, .slice A mg.length c, .int .i64 mt, .string mk, .string mb, .int .i64 aid, .int .i64 atm, .slice P ams.length q, .int .i64 atp, .int .i64 awh, .int .i64 an]) (w2.alloc (.cells #[.int .u8 k, .int .i64 mi, .slice A mg.length c, .int .i64 mt, .string mk, .string mb, .int .i64 aid, .int .i64 atm, .slice P ams.length q, .int .i64 atp, .int .i64 awh, .int .i64 an] 91)) ⟨A, c, P, q, rfl, (r1.below hb3).1, (r3.below hb3).1⟩ hfit)
      unfold maxLen at hm5
      clear hb2 hb3 R1 HB1 CPa r1 r3 hfit
      go_upto_region 4 with (fail)
      generalize w2.alloc (.cells #[.int .u8 k, .int .i64 mi, .slice A mg.length c, .int .i64 mt, .string mk, .string mb, .int .i64 aid, .int .i64 atm, .slice P ams.length q, .int .i64 atp, .int .i64 awh, .int .i64 an] 91) = w4 at R2 B2 HBF HR1 CM12 ⊢
      generalize w2.heap.size = g at B2 ⊢
      rcases r with _ | ⟨b0, r⟩
      · by_cases hm : CM.may ⟨k, ⟨mi, mg, mt, mk, mb⟩, aid, atm, ams, atp, awh, an⟩
        · have hF := HF.out
          simp only at hF
          rw [if_pos hm] at hF
          obtain ⟨rfl, rfl⟩ : x = ⟨k, ⟨mi, mg, mt, mk, mb⟩, aid, atm, ams, atp, awh, an⟩ ∧ y = 0 := by have h := HXY.out; rw [hF] at h; exact h
          clear HXY
          rw [decide_eq_true hm] at CM12
          clear hm hF HF
          obtain ⟨c0, c1, c2, c3, c4, c5, c6, c7, c8, c9, c10, c11⟩ := box_cm B2.out
          go_wp2_with fail
          clear c0 c1 c2 c3 c4 c5 c6 c7 c8 c9 c10 c11
          refine (CM12.out).mono ?_
          rintro e2 w5 ⟨rfl, hb⟩
          have R3 := Lib.hid (R2.out.below hb R2.out.lt)
          have B3 := Lib.hid (B2.out.below hb B2.out.lt)
          have HBF5 := Lib.hid (bmore HBF.out hb (Nat.le_refl _))
          have HRW := Lib.hid (⟨HR1.out.1.below hb, HR1.out.2.below hb⟩ : RowGe w5 w1.heap.size A c mg ∧ RowGe w5 w1.heap.size P q ams)
          clear hb CM12 R2 B2 HBF HR1
          obtain ⟨c0, c1, c2, c3, c4, c5, c6, c7, c8, c9, c10, c11⟩ := box_cm B3.out
          obtain ⟨d0, d1, d2, d3, d4, d5, d6, d7, d8, d9, d10, d11⟩ := box_cm R3.out
          have g0 := R3.out.frozen 0
          have g1 := R3.out.frozen 1
          have g2 := R3.out.frozen 2
          have g3 := R3.out.frozen 3
          have g4 := R3.out.frozen 4
          have g5 := R3.out.frozen 5
          have g6 := R3.out.frozen 6
          have g7 := R3.out.frozen 7
          have g8 := R3.out.frozen 8
          have g9 := R3.out.frozen 9
          have g10 := R3.out.frozen 10
          have g11 := R3.out.frozen 11
          go_wp2_with fail
          exact bodyPost_ret (v := .tuple #[.agg #[.int .u8 k, .int .i64 mi, .slice A mg.length c, .int .i64 mt, .string mk, .string mb, .int .i64 aid, .int .i64 atm, .slice P ams.length q, .int .i64 atp, .int .i64 awh, .int .i64 an], .int .i64 0]) (by simp [results, Tryz.results95, go_sem, d0, d1, d2, d3, d4, d5, d6, d7, d8, d9, d10, d11]; try rfl) rfl ⟨_, rfl, ⟨A, c, P, q, rfl, (HRW.out.1.put12p HP.out (.int .u8 k) (.int .i64 mi) (.slice A mg.length c) (.int .i64 mt) (.string mk) (.string mb) (.int .i64 aid) (.int .i64 atm) (.slice P ams.length q) (.int .i64 atp) (.int .i64 awh) (.int .i64 an)).mono (Nat.le_of_lt HP.out), (HRW.out.2.put12p HP.out (.int .u8 k) (.int .i64 mi) (.slice A mg.length c) (.int .i64 mt) (.string mk) (.string mb) (.int .i64 aid) (.int .i64 atm) (.slice P ams.length q) (.int .i64 atp) (.int .i64 awh) (.int .i64 an)).mono (Nat.le_of_lt HP.out)⟩, put12_below HBF5.out (Nat.le_refl _) (.int .u8 k) (.int .i64 mi) (.slice A mg.length c) (.int .i64 mt) (.string mk) (.string mb) (.int .i64 aid) (.int .i64 atm) (.slice P ams.length q) (.int .i64 atp) (.int .i64 awh) (.int .i64 an)⟩
        · have hF := HF.out
          simp only at hF
          rw [if_neg hm] at hF
          obtain ⟨rfl, rfl⟩ : x = CM.zero ∧ y = 8 := by have h := HXY.out; rw [hF] at h; exact h
          clear HXY
          rw [decide_eq_false hm] at CM12
          clear hm hF HF HR1
          obtain ⟨c0, c1, c2, c3, c4, c5, c6, c7, c8, c9, c10, c11⟩ := box_cm B2.out
          go_wp2_with fail
          clear c0 c1 c2 c3 c4 c5 c6 c7 c8 c9 c10 c11
          refine (CM12.out).mono ?_
          rintro e2 w5 ⟨rfl, hb⟩
          have R3 := Lib.hid (R2.out.below hb R2.out.lt)
          have HBF5 := Lib.hid (bmore HBF.out hb (Nat.le_refl _))
          clear hb CM12 R2 B2 HBF
          obtain ⟨d0, d1, d2, d3, d4, d5, d6, d7, d8, d9, d10, d11⟩ := box_cm R3.out
          have g0 := R3.out.frozen 0
          have g1 := R3.out.frozen 1
          have g2 := R3.out.frozen 2
          have g3 := R3.out.frozen 3
          have g4 := R3.out.frozen 4
          have g5 := R3.out.frozen 5
          have g6 := R3.out.frozen 6
          have g7 := R3.out.frozen 7
          have g8 := R3.out.frozen 8
          have g9 := R3.out.frozen 9
          have g10 := R3.out.frozen 10
          have g11 := R3.out.frozen 11
          go_wp2_with fail
          exact bodyPost_ret (v := .tuple #[.agg #[.int .u8 0, .int .i64 0, .slice none 0 0, .int .i64 0, .string ⟨#[]⟩, .string ⟨#[]⟩, .int .i64 0, .int .i64 0, .slice none 0 0, .int .i64 0, .int .i64 0, .int .i64 0], .int .i64 8]) (by simp [results, Tryz.results95, go_sem, d0, d1, d2, d3, d4, d5, d6, d7, d8, d9, d10, d11]; try rfl) rfl ⟨_, rfl, zero_ge _ _, put12_below HBF5.out (Nat.le_refl _) (.int .u8 0) (.int .i64 0) (.slice none 0 0) (.int .i64 0) (.string ⟨#[]⟩) (.string ⟨#[]⟩) (.int .i64 0) (.int .i64 0) (.slice none 0 0) (.int .i64 0) (.int .i64 0) (.int .i64 0)⟩
      · have hF := HF.out
        simp only at hF
        obtain ⟨rfl, rfl⟩ : x = CM.zero ∧ y = 8 := by have h := HXY.out; rw [hF] at h; exact h
        clear HXY
        clear hF HF HR1 CM12 B2
        have hlr : 0 < (b0 :: r).length := Nat.succ_pos _
        generalize (b0 :: r).length = nr at hlr hc5 ⊢
        have hlri : (0 : Int) < (nr : Int) := by omega
        obtain ⟨d0, d1, d2, d3, d4, d5, d6, d7, d8, d9, d10, d11⟩ := box_cm R2.out
        have g0 := R2.out.frozen 0
        have g1 := R2.out.frozen 1
        have g2 := R2.out.frozen 2
        have g3 := R2.out.frozen 3
        have g4 := R2.out.frozen 4
        have g5 := R2.out.frozen 5
        have g6 := R2.out.frozen 6
        have g7 := R2.out.frozen 7
        have g8 := R2.out.frozen 8
        have g9 := R2.out.frozen 9
        have g10 := R2.out.frozen 10
        have g11 := R2.out.frozen 11
        go_wp2_with fail
        exact bodyPost_ret (v := .tuple #[.agg #[.int .u8 0, .int .i64 0, .slice none 0 0, .int .i64 0, .string ⟨#[]⟩, .string ⟨#[]⟩, .int .i64 0, .int .i64 0, .slice none 0 0, .int .i64 0, .int .i64 0, .int .i64 0], .int .i64 8]) (by simp [results, Tryz.results95, go_sem, d0, d1, d2, d3, d4, d5, d6, d7, d8, d9, d10, d11]; try rfl) rfl ⟨_, rfl, zero_ge _ _, put12_below HBF.out (Nat.le_refl _) (.int .u8 0) (.int .i64 0) (.slice none 0 0) (.int .i64 0) (.string ⟨#[]⟩) (.string ⟨#[]⟩) (.int .i64 0) (.int .i64 0) (.slice none 0 0) (.int .i64 0) (.int .i64 0) (.int .i64 0)⟩
theorem read12_any {x : Cm} {y : Int} (s : ByteArray) (h : CM.ReadIs (RM.bsz s) x y) (hs : s.size ≤ maxLen) (w : World) :
    Calls Tryz.prog 95 #[.string s] w (RdIs x y w) := by
  refine (read12_ge s h hs w).mono ?_
  rintro e w' ⟨v, rfl, hv, hb⟩
  exact ⟨v, rfl, hv.is, hb⟩
end Go.Proofs.YteebeiaokfenmaaGreat.CP
