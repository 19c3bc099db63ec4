/-
  The walk of FrameTorn: where frames are broken off anywhere, just those are told that are whole, in order, and all of them.
-/
import Derived.Test.YtpabkhcoaiggnaaFrameAlive
namespace Go.Proofs.Ytpabkhcoaiggnaa
open Go.RowKit
set_option linter.unusedVariables false

set_option maxRecDepth 100000 in
set_option maxHeartbeats 4000000 in
theorem frameTorn_core (A : Option Addr) (n ca : Nat) (ls : List (List UInt8)) (left : Int) (w : World) (HRA : Hid (Rd w A n (sc ls))) (hnc : n ≤ ca) (HC : Hid (ca ≤ maxLen)) (hca : ca ≤ 9223372036854775807) (HSm : Hid (∀ t ∈ ls, t.length ≤ 9223372036854775807)) (hl1 : -9223372036854775808 ≤ left) (hl2 : left ≤ 9223372036854775807) :
    Calls Try.prog 5 #[.slice A n ca, .int .i64 left] w fun e w' => e = .returned (.bool true) ∧ Below w.heap.size w w' := by
  have hln : ls.length = n := by have := HRA.out.1; rwa [sc_length] at this
  have HLN := Lib.hid hln; clear hln
  obtain ⟨r, k, x, hj⟩ := joinIs_ex ls
  have HJ := Lib.hid hj; clear hj
  go_enter Try.func5, Try.ntmps5
  go_wp2_with fail
  refine (frameAlive_any _).mono ?_
  rintro e w1 ⟨rfl, hb1⟩
  go_wp2_with fail
  refine (great_any A n ca ls _ (HRA.out.below hb1) HSm.out (by omega)).mono ?_
  rintro e w0 ⟨b, rfl, rfl, hgr⟩
  cases b with
  | true =>
    clear hgr
    go_wp2
    go_ret
    exact ⟨rfl, hb1⟩
  | false =>
  have hn1000 : n ≤ 1000 := hgr rfl
  clear hgr
  go_wp2_with fail
  refine (join_ans A n ca ls r k x _ HJ.out (HRA.out.below hb1) HSm.out (by unfold maxLen; omega)).mono ?_
  rintro e w2 ⟨A2, c2, rfl, hr2, hc2, hm2, hb2⟩
  have hB2 := bmore hb1 hb2 (Nat.le_refl _)
  clear hb1 hb2
  obtain ⟨hrk, hj⟩ := HJ.out
  have HM2 := Lib.hid hm2
  have hm2' : c2 ≤ 9223372036854775807 := by unfold maxLen at hm2; omega
  clear hm2 HJ
  rcases hj with ⟨_, hok, hr, rfl⟩ | ⟨_, _, hr, rfl⟩ | ⟨_, hr, rfl⟩
  rotate_left
  · clear hr hrk
    go_wp2
    go_ret
    exact ⟨rfl, hB2⟩
  · clear hr hrk
    go_wp2
    go_ret
    exact ⟨rfl, hB2⟩
  have hk : k ≤ 1048576 := by rw [← hrk, hr]; exact hok.2
  have HK := Lib.hid hrk; clear hrk
  have HR := Lib.hid hr; clear hr
  have HOk := Lib.hid hok; clear hok
  by_cases hneg : left < 0
  · go_wp2
    go_ret
    exact ⟨rfl, hB2⟩
  by_cases hgt : (k : Int) < left
  · go_wp2
    go_ret
    exact ⟨rfl, hB2⟩
  obtain ⟨lf, rfl⟩ := Int.eq_ofNat_of_zero_le (show 0 ≤ left by omega)
  have hlf : lf ≤ k := by omega
  clear hneg hgt hl1 hl2
  obtain ⟨j, hj1, hj2, hj3, hj4⟩ := NM.cut_torn ls lf HOk.out.1 (by rw [← HR.out, HK.out]; exact hlf)
  rw [← HR.out] at hj2
  have hcut : CutIs (r.take lf) (ls.take j) j (NM.join (ls.take j)).length := ⟨by rw [List.length_take]; omega, hj2⟩
  have hjn : j ≤ n := by have := HLN.out; omega
  have hjoin : JoinIs (ls.take j) (NM.join (ls.take j)) (NM.join (ls.take j)).length 0 := ⟨rfl, .inl ⟨by rw [List.length_take]; have := HLN.out; omega, joinOk_take ls j HOk.out, rfl, rfl⟩⟩
  obtain ⟨rj, hrj⟩ : ∃ y, y = NM.join (ls.take j) := ⟨_, rfl⟩
  rw [← hrj] at hcut hjoin hj3 hj4
  obtain ⟨kj, hkj⟩ : ∃ y, y = rj.length := ⟨_, rfl⟩
  rw [← hkj] at hcut hjoin hj3 hj4
  have HCut := Lib.hid hcut; clear hcut hj2
  have HJoin := Lib.hid hjoin; clear hjoin hrj hkj
  have hrl : Rd w2 A2 lf (bc (r.take lf)) := by have := hr2.front (k := lf) hlf; rwa [bc_take] at this
  have HJ4 := Lib.hid hj4; clear hj4
  clear hr2
  go_wp2_with fail
  refine (cut_ans A2 lf c2 (r.take lf) (ls.take j) j kj _ HCut.out hrl (by omega) HM2.out (by omega)).mono ?_
  rintro e w3 ⟨A3, c3, rfl, hr3, hc3, hm3, hb3⟩
  have hB3 := bmore hB2 hb3 (Nat.le_refl _)
  clear hb3 hB2 hrl hm3
  have hra : Rd w3 A j (sc (ls.take j)) := by have := (HRA.out.below hB3).front (k := j) hjn; rwa [sc_take] at this
  have t1 : decide (n < j) = false := by simp; omega
  have t2 : decide (lf < kj) = false := by simp; omega
  go_wp2_with fail
  refine (same_texts A3 A j c3 ca (ls.take j) _ hr3 hra (by omega)).mono ?_
  rintro e w4 ⟨rfl, q, rfl⟩
  have hB4 := below_drewN hB3 q
  have hra4 := hra.drewN q
  have hsm : ∀ t ∈ ls.take j, t.length ≤ 9223372036854775807 := fun t ht => HSm.out t (List.mem_of_mem_take ht)
  have HSm2 := Lib.hid hsm; clear hsm hra hB3 hr3
  go_wp2_with fail
  refine (join_ans A j ca (ls.take j) rj kj 0 _ HJoin.out hra4 HSm2.out (by unfold maxLen; omega)).mono ?_
  rintro e w5 ⟨A5, c5, rfl, hr5, hc5, hm5, hb5⟩
  have hB5 := bmore hB4 hb5 (Nat.le_refl _)
  clear hb5 hB4 hra4 hr5 hm5
  have t3 : ((kj : Int) != (kj : Int)) = false := by simp
  have t3' : (kj != kj) = false := by simp
  by_cases hjn2 : j = n
  · subst hjn2
    go_wp2
    go_ret
    exact ⟨rfl, hB5⟩
  have hlt : j < n := by omega
  have hjl : j < ls.length := by have := HLN.out; omega
  obtain ⟨ad, u, rfl, _, hu, hcell⟩ := (HRA.out.below hB5).at_ hlt
  rw [sc_get ls j hjl] at hu
  injection hu with hu
  subst hu
  have h4096 : ls[j].length ≤ 4096 := HOk.out.1 _ (List.getElem_mem hjl)
  have hj5 := HJ4.out hjl
  obtain ⟨s, hs⟩ : ∃ s, s = ls[j] := ⟨_, rfl⟩
  rw [← hs] at hcell h4096 hj5
  have htx : TextIs s (NM.text s) (NM.text s).length 0 := ⟨rfl, .inl ⟨h4096, rfl, rfl⟩⟩
  have htl := NM.text_le s
  obtain ⟨kt, hkt⟩ : ∃ y, y = (NM.text s).length := ⟨_, rfl⟩
  rw [← hkt] at htx hj5 htl
  have HTX := Lib.hid htx; clear htx hs hkt HJ4
  go_wp2_with fail
  refine (frame_ans s (NM.text s) kt 0 _ HTX.out (by omega)).mono ?_
  rintro e w6 ⟨A6, c6, rfl, hr6, hc6, hm6, hb6⟩
  have hB6 := bmore hB5 hb6 (Nat.le_refl _)
  clear hb6 hB5 hr6 hm6
  go_wp2
  go_ret
  exact ⟨by simp; omega, hB6⟩

theorem frameTorn_walk (a0 : Option Addr) (len0 cap0 : Nat) (z0 : List ByteArray) (a1 : Int) (w : World) (w0 : IsTexts w a0 len0 cap0 z0) (w1 : (Lit.int .i64 a1).wf = true) :
    Calls Try.prog 5 #[.slice a0 len0 cap0, .int .i64 a1] w fun e w' => e = .returned (.bool true) ∧ Below w.heap.size w w' := by
  obtain ⟨hl0, hm0, _⟩ := w0.len_le
  have hc0 : cap0 ≤ 9223372036854775807 := by unfold maxLen at hm0; omega
  have hsm : ∀ t ∈ textsOf z0 len0, t.length ≤ 9223372036854775807 := fun t ht => by have := w0.small t ht; unfold maxLen at this; omega
  have hb : -9223372036854775808 ≤ a1 ∧ a1 ≤ 9223372036854775807 := by simpa [Lit.wf, IntKind.min, IntKind.max, IntKind.signed, IntKind.bits] using w1
  exact frameTorn_core a0 len0 cap0 _ a1 w (Lib.hid w0.texts) hl0 (Lib.hid hm0) hc0 (Lib.hid hsm) hb.1 hb.2
end Go.Proofs.Ytpabkhcoaiggnaa
