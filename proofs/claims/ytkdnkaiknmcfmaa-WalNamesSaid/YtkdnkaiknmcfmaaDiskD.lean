/-
  What disk.See, Sync and Crash answer, whatever disk. Conditions: the disk's slices read as bytes and writes.
-/
import Derived.Test.YtkdnkaiknmcfmaaDiskC
namespace Go.Proofs.Ytkdnkaiknmcfmaa
open Go.RowKit
set_option linter.unusedVariables false

/-- what an answer of bytes and an error is -/
def ByAns (w : World) (r : List UInt8) (x : Int) (e : Ending) (w' : World) : Prop := ∃ v, e = .returned (.tuple #[v, .int .i64 x]) ∧ w'.ownsRow w.heap.size 5 1 v r.length (bc r) ∧ Below w.heap.size w w'
/-- what an answer of a disk and an error is -/
def DiskAns (w : World) (b : List UInt8) (ps : List DM.Wr) (x : Int) (e : Ending) (w' : World) : Prop := ∃ v, e = .returned (.tuple #[v, .int .i64 x]) ∧ DiskOwn w' w.heap.size 5 37 v b ps ∧ Below w.heap.size w w'
def SeeIs (b : List UInt8) (ps : List DM.Wr) (r : List UInt8) (x : Int) : Prop := (DM.may b ps ∧ r = DM.behind b ps ∧ x = 0) ∨ (¬ DM.may b ps ∧ r = [] ∧ x = 30)
theorem seeIs_ex (b : List UInt8) (ps : List DM.Wr) : ∃ r x, SeeIs b ps r x := by
  by_cases h : DM.may b ps
  · exact ⟨_, 0, .inl ⟨h, rfl, rfl⟩⟩
  · exact ⟨[], 30, .inr ⟨h, rfl, rfl⟩⟩

set_option maxRecDepth 100000 in
set_option maxHeartbeats 2000000 in
theorem see_any (v : Value) (b r : List UInt8) (ps : List DM.Wr) (x : Int) (w : World) (HV : Hid (DiskIs w v b ps)) (HS : Hid (SeeIs b ps r x)) : Calls Try.prog 38 #[v] w (ByAns w r x) := by
  obtain ⟨A, n, c, B, m, d, rfl, h1, h2, h3, h4, h5, h6⟩ := HV.out
  have hc : c ≤ 9223372036854775807 := by unfold maxLen at h2; omega
  have hd : d ≤ 9223372036854775807 := by unfold maxLen at h4; omega
  have hb0 : Below w.heap.size w (w.alloc (.cells #[.slice A n c, .slice B m d] 25)) := (Below.refl _ _).alloc (Nat.le_refl _) _
  have hr0 := h5.below hb0
  have hw0 := h6.below hb0
  have HR := Lib.hid hr0
  have HW := Lib.hid hw0
  have HB0 := Lib.hid hb0
  clear h2 h4 h5 h6 hr0 hw0 hb0 HV
  go_enter Try.func38, Try.ntmps38
  go_wp2_with fail
  refine (check_any A B n c m d b ps _ HR HW (by omega) (by omega)).mono ?_
  rintro e w1 ⟨x1, rfl, hx1, hb1⟩
  obtain ⟨hcell, hfro⟩ := (⟨fun b o h => hb1.cell (p := ⟨b, o, none⟩) h, trivial⟩ : (∀ b o, b < (w.alloc (.cells #[.slice A n c, .slice B m d] 25)).heap.size → w1.cell? ⟨b, o, none⟩ = (w.alloc (.cells #[.slice A n c, .slice B m d] 25)).cell? ⟨b, o, none⟩) ∧ True)
  have c0 : w1.cell? ⟨w.heap.size, 0, none⟩ = some (.slice A n c) := by rw [hcell _ _ (by simp)]; simp
  have c1 : w1.cell? ⟨w.heap.size, 1, none⟩ = some (.slice B m d) := by rw [hcell _ _ (by simp)]; simp
  have hr1 := HR.out.below hb1
  have hw1 := HW.out.below hb1
  have HR1 := Lib.hid hr1
  have HW1 := Lib.hid hw1
  have hB1 := HB0.out.trans (hb1.mono (by simp))
  have HB1 := Lib.hid hB1
  clear hcell hfro hr1 hw1 hb1 hB1 HR HW HB0
  rcases hx1 with ⟨hmay, rfl⟩ | ⟨hmay, rfl⟩
  · rcases HS.out with ⟨_, hr, rfl⟩ | ⟨hno, _⟩
    · have HFit := Lib.hid hmay.2
      have HRr := Lib.hid hr
      clear hmay hr HS
      go_wp2_with fail
      refine (behind_any A B n c m d b ps _ HR1 HW1 HFit (by omega)).mono ?_
      rintro e w2 ⟨v2, rfl, hown2, hb2⟩
      go_wp2_with fail
      go_ret2
      refine ⟨v2, rfl, ?_, bmore HB1.out hb2 (Nat.le_refl _)⟩
      rw [HRr.out]
      exact own_mono hown2 HB1.out.size
    · exact absurd hmay hno
  · rcases HS.out with ⟨hno, _⟩ | ⟨_, hr, rfl⟩
    · exact absurd hno hmay
    · have HRr := Lib.hid hr
      clear hmay hr HS
      go_wp2_with fail
      go_ret2
      refine ⟨_, rfl, ?_, HB1.out⟩
      rw [HRr.out]
      exact World.ownsRow_nil _ _ _ _

set_option maxRecDepth 100000 in
set_option maxHeartbeats 2000000 in
theorem sync_any (v : Value) (b r : List UInt8) (ps : List DM.Wr) (x : Int) (w : World) (HV : Hid (DiskIs w v b ps)) (HS : Hid (SeeIs b ps r x)) : Calls Try.prog 21 #[v] w (DiskAns w r [] x) := by
  obtain ⟨A, n, c, B, m, d, rfl, h⟩ := HV.out
  clear h
  have hb0 : Below w.heap.size w ((w.alloc (.cells #[.slice A n c, .slice B m d] 25)).alloc (.cells #[.slice none 0 0, .slice none 0 0] 25)) := (((Below.refl _ _).alloc (Nat.le_refl _) _).alloc (by simp) _)
  have hv0 := HV.out.below hb0
  have HV0 := Lib.hid hv0
  have HB0 := Lib.hid hb0
  clear hv0 hb0 HV
  go_enter Try.func21, Try.ntmps21
  go_wp2_with fail
  refine (see_any _ b r ps x _ HV0 HS).mono ?_
  rintro e w1 ⟨v1, rfl, hown1, hb1⟩
  obtain ⟨A1, c1, rfl, g1, g2⟩ := own_slice hown1
  have HO1 := Lib.hid hown1
  have HB1 := Lib.hid hb1
  have f0 : w1.frozen? ⟨w.heap.size + 1, 0, none⟩ = false := by rw [hb1.frozen (by simp)]; simp
  have f1 : w1.frozen? ⟨w.heap.size + 1, 1, none⟩ = false := by rw [hb1.frozen (by simp)]; simp
  have k0 : w1.cell? ⟨w.heap.size + 1, 0, none⟩ = some (.slice none 0 0) := by rw [hb1.cell (by simp)]; simp
  have k1 : w1.cell? ⟨w.heap.size + 1, 1, none⟩ = some (.slice none 0 0) := by rw [hb1.cell (by simp)]; simp
  have hz := hb1.size
  simp at hz
  clear hown1 hb1 g1 g2
  go_wp2_with fail
  refine bodyPost_ret (v := .tuple #[.agg #[.slice A1 r.length c1, .slice none 0 0], .int .i64 x]) (by simp [results, Try.results21, go_sem, k0, k1]) rfl ⟨_, rfl, ?_, below_put (HB0.out.trans (HB1.out.mono (by simp; omega))) (by omega) _ _⟩
  exact ((DiskOwn.data HO1.out).put (by simp) _ _).mono (by simp; omega)
end Go.Proofs.Ytkdnkaiknmcfmaa
