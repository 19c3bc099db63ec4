/-
  What disk.Crash answers, whatever disk and numbers. Conditions: the disk's slices read as bytes and writes.
-/
import Derived.Test.YtkdnkaiknmcfmaaDiskD
namespace Go.Proofs.Ytkdnkaiknmcfmaa
open Go.RowKit
set_option linter.unusedVariables false

def CrashIs (b : List UInt8) (ps : List DM.Wr) (keep most : Int) (r : List UInt8) (x : Int) : Prop :=
  (¬ DM.may b ps ∧ r = [] ∧ x = 30) ∨ (DM.may b ps ∧ (keep < 0 ∨ (ps.length : Int) < keep ∨ most < 0) ∧ r = [] ∧ x = 2) ∨
  (DM.may b ps ∧ 0 ≤ keep ∧ keep ≤ (ps.length : Int) ∧ 0 ≤ most ∧ r = DM.crash b ps keep.toNat most.toNat ∧ x = 0)
theorem crashIs_ex (b : List UInt8) (ps : List DM.Wr) (keep most : Int) : ∃ r x, CrashIs b ps keep most r x := by
  by_cases h : DM.may b ps
  · by_cases h2 : keep < 0 ∨ (ps.length : Int) < keep ∨ most < 0
    · exact ⟨[], 2, .inr (.inl ⟨h, h2, rfl, rfl⟩)⟩
    · exact ⟨_, 0, .inr (.inr ⟨h, by omega, by omega, by omega, rfl, rfl⟩)⟩
  · exact ⟨[], 30, .inl ⟨h, rfl, rfl⟩⟩

set_option maxRecDepth 100000 in
set_option maxHeartbeats 4000000 in
theorem crash_any (v : Value) (b r : List UInt8) (ps : List DM.Wr) (keep most x : Int) (w : World) (HV : Hid (DiskIs w v b ps)) (HS : Hid (CrashIs b ps keep most r x))
    (hk1 : -9223372036854775808 ≤ keep) (hk2 : keep ≤ 9223372036854775807) (hm1 : -9223372036854775808 ≤ most) (hm2 : most ≤ 9223372036854775807) :
    Calls Try.prog 9 #[v, .int .i64 keep, .int .i64 most] w (DiskAns w r [] x) := by
  obtain ⟨A, n, c, B, m, d, rfl, h1, h2, h3, h4, h5, h6⟩ := HV.out
  have hc : c ≤ 9223372036854775807 := by unfold maxLen at h2; omega
  have hd : d ≤ 9223372036854775807 := by unfold maxLen at h4; omega
  have hb0 : Below w.heap.size w ((w.alloc (.cells #[.slice A n c, .slice B m d] 25)).alloc (.cells #[.slice none 0 0, .slice none 0 0] 25)) := (((Below.refl _ _).alloc (Nat.le_refl _) _).alloc (by simp) _)
  have hr0 := h5.below hb0
  have hw0 := h6.below hb0
  have HR := Lib.hid hr0
  have HW := Lib.hid hw0
  have HB0 := Lib.hid hb0
  have HPL := Lib.hid h6.1
  have HD := Lib.hid h4
  clear h2 h4 h5 h6 hr0 hw0 hb0 HV
  go_enter Try.func9, Try.ntmps9
  go_wp2_with fail
  refine (check_any A B n c m d b ps _ HR HW (by omega) (by omega)).mono ?_
  rintro e w1 ⟨x1, rfl, hx1, hb1⟩
  have c0 : w1.cell? ⟨w.heap.size, 0, none⟩ = some (.slice A n c) := by rw [hb1.cell (by simp; omega)]; simp
  have c1 : w1.cell? ⟨w.heap.size, 1, none⟩ = some (.slice B m d) := by rw [hb1.cell (by simp; omega)]; simp
  have k0 : w1.cell? ⟨w.heap.size + 1, 0, none⟩ = some (.slice none 0 0) := by rw [hb1.cell (by simp)]; simp
  have k1 : w1.cell? ⟨w.heap.size + 1, 1, none⟩ = some (.slice none 0 0) := by rw [hb1.cell (by simp)]; simp
  have f0 : w1.frozen? ⟨w.heap.size + 1, 0, none⟩ = false := by rw [hb1.frozen (by simp)]; simp
  have f1 : w1.frozen? ⟨w.heap.size + 1, 1, none⟩ = false := by rw [hb1.frozen (by simp)]; simp
  have hz := hb1.size
  simp at hz
  have hr1 := HR.out.below hb1
  have hw1 := HW.out.below hb1
  have HR1 := Lib.hid hr1
  have HW1 := Lib.hid hw1
  have hB1 := HB0.out.trans (hb1.mono (by simp; omega))
  have HB1 := Lib.hid hB1
  clear hr1 hw1 hb1 hB1 HR HW HB0
  rcases hx1 with ⟨hmay, rfl⟩ | ⟨hmay, rfl⟩
  rotate_left
  · rcases HS.out with ⟨_, hr, rfl⟩ | ⟨hno, _⟩ | ⟨hno, _⟩
    rotate_left
    · exact absurd hno hmay
    · exact absurd hno hmay
    have HRr := Lib.hid hr
    clear hmay hr HS
    go_wp2_with fail
    refine bodyPost_ret (v := .tuple #[.agg #[.slice none 0 0, .slice none 0 0], .int .i64 30]) (by simp [results, Try.results9, go_sem, k0, k1]) rfl ⟨_, rfl, ?_, below_put HB1.out (by omega) _ _⟩
    rw [HRr.out]
    exact DiskOwn.zero
  rcases HS.out with ⟨hno, _⟩ | ⟨_, hbad, hr, rfl⟩ | ⟨_, ha1, ha2, ha3, hr, rfl⟩
  · exact absurd hmay hno
  · rw [HPL.out] at hbad
    have HRr := Lib.hid hr
    clear hmay hr HS
    have hend : ∀ W, W = (w1.setCell ⟨w.heap.size + 1, 0, none⟩ (.slice none 0 0)).setCell ⟨w.heap.size + 1, 1, none⟩ (.slice none 0 0) → DiskOwn W w.heap.size 5 37 (.agg #[.slice none 0 0, .slice none 0 0]) r [] ∧ Below w.heap.size w W := by
      rintro W rfl
      rw [HRr.out]
      exact ⟨DiskOwn.zero, below_put HB1.out (by omega) _ _⟩
    have HE := Lib.hid hend
    clear hend
    by_cases q1 : keep < 0
    · have q1' : decide (keep < 0) = true := by simpa using q1
      clear hbad
      go_wp2_with fail
      exact bodyPost_ret (v := .tuple #[.agg #[.slice none 0 0, .slice none 0 0], .int .i64 2]) (by simp [results, Try.results9, go_sem, k0, k1]) rfl ⟨_, rfl, HE.out _ rfl⟩
    by_cases q2 : (m : Int) < keep
    · clear hbad
      go_wp2_with fail
      exact bodyPost_ret (v := .tuple #[.agg #[.slice none 0 0, .slice none 0 0], .int .i64 2]) (by simp [results, Try.results9, go_sem, k0, k1]) rfl ⟨_, rfl, HE.out _ rfl⟩
    · have q3 : most < 0 := by omega
      clear hbad
      go_wp2_with fail
      exact bodyPost_ret (v := .tuple #[.agg #[.slice none 0 0, .slice none 0 0], .int .i64 2]) (by simp [results, Try.results9, go_sem, k0, k1]) rfl ⟨_, rfl, HE.out _ rfl⟩
  · rw [HPL.out] at ha2
    obtain ⟨kn, rfl⟩ := Int.eq_ofNat_of_zero_le ha1
    obtain ⟨mn, rfl⟩ := Int.eq_ofNat_of_zero_le ha3
    have hm1024 : m ≤ 1024 := by have := hmay.1; rw [HPL.out] at this; exact this
    have hfl := DM.fits_left hmay.2 kn mn
    have HFL := Lib.hid hfl
    have hr' : r = DM.behind b (DM.left ps kn mn) := hr
    have HRr := Lib.hid hr'
    have hkm : kn ≤ m := by omega
    have hmm : mn ≤ 9223372036854775807 := by omega
    have q1 : ¬ ((kn : Int) < 0) := by omega
    have q2 : ¬ ((m : Int) < (kn : Int)) := by omega
    have q3 : ¬ ((mn : Int) < 0) := by omega
    clear hmay hr hr' HS hfl ha1 ha2 ha3 hk1 hk2 hm1 hm2
    obtain ⟨rl, hrl⟩ : ∃ y, r.length = y := ⟨_, rfl⟩
    have HRl := Lib.hid hrl
    clear hrl
    have hg1 : w.heap.size < w1.heap.size := by omega
    have hg2 : w.heap.size + 1 < w1.heap.size := by omega
    have hleft : Calls Try.prog 28 #[.slice B m d, .int .i64 (kn : Int), .int .i64 (mn : Int)] w1.drew (LeftPost w1.drew (DM.left ps kn mn)) := left_any B m d kn mn ps w1.drew (Lib.hid (HW1.out.below (Below.refl _ _).drew)) h3 HD hm1024 hkm hmm
    have HLe := Lib.hid hleft
    clear hleft
    go_wp2_with fail
    go_region_held3 (fun w' => w'.cell? ⟨w.heap.size, 0, none⟩ = some (.slice A n c) ∧ w'.cell? ⟨w.heap.size, 1, none⟩ = some (.slice B m d))
      (first | go_keep | (go_split_ands; refine ⟨?_, ?_⟩ <;> (rw [hb2.cell (show w.heap.size < _ from hg1)]; first | assumption | (simp; assumption))) | (go_split_ands; refine ⟨?_, ?_⟩ <;> (rw [hb3.cell (show w.heap.size < _ from Nat.lt_of_lt_of_le hg1 hb2.size)]; first | assumption | (simp; assumption))))
      (first
        | (go_at_call 28; refine (HLe.out).mono ?_; rintro e w2 ⟨B2, m2, d2, rfl, hw2, hmd2, hdm2, hb2⟩)
        | (go_at_call 27; refine (behind_sl A B2 n c m2 d2 rl b r (DM.left ps kn mn) _ (Lib.hid ((HR1.out.drew).below hb2)) (Lib.hid hw2) HFL (by unfold maxLen at hdm2; omega) HRr HRl).mono ?_; rintro e w3 ⟨A3, c3, rfl, hown3, hb3⟩; have hz3 := Nat.le_trans hb2.size hb3.size; have k03 : w3.cell? ⟨w.heap.size + 1, 0, none⟩ = some (.slice none 0 0) := ((hb3.cell (show w.heap.size + 1 < _ from Nat.lt_of_lt_of_le hg2 hb2.size)).trans (hb2.cell (show w.heap.size + 1 < _ from hg2))).trans k0; have k13 : w3.cell? ⟨w.heap.size + 1, 1, none⟩ = some (.slice none 0 0) := ((hb3.cell (show w.heap.size + 1 < _ from Nat.lt_of_lt_of_le hg2 hb2.size)).trans (hb2.cell (show w.heap.size + 1 < _ from hg2))).trans k1; have f03 : w3.frozen? ⟨w.heap.size + 1, 0, none⟩ = false := ((hb3.frozen (show w.heap.size + 1 < _ from Nat.lt_of_lt_of_le hg2 hb2.size)).trans (hb2.frozen (show w.heap.size + 1 < _ from hg2))).trans f0; have f13 : w3.frozen? ⟨w.heap.size + 1, 1, none⟩ = false := ((hb3.frozen (show w.heap.size + 1 < _ from Nat.lt_of_lt_of_le hg2 hb2.size)).trans (hb2.frozen (show w.heap.size + 1 < _ from hg2))).trans f1))
    have ho : w3.ownsRow w2.heap.size 5 1 (.slice A3 rl c3) r.length (bc r) := by rw [HRl.out]; exact hown3
    have hz2 : w1.heap.size ≤ w2.heap.size := hb2.size
    have hB3 : Below w.heap.size w w3 := bmore (HB1.out.drew.trans (hb2.mono (by simp; omega))) hb3 (Nat.le_refl _)
    clear hown3 hb3 hb2 hw2
    go_wp2
    refine bodyPost_ret (v := .tuple #[.agg #[.slice A3 rl c3, .slice none 0 0], .int .i64 0]) (by simp [results, Try.results9, go_sem, k03, k13]) rfl ⟨_, rfl, ?_, below_put hB3 (by omega) _ _⟩
    exact ((DiskOwn.data ho).put (by omega) _ _).mono (by omega)
end Go.Proofs.Ytkdnkaiknmcfmaa
