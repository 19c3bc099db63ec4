/-
  What See of the document's disks answer. Conditions: the disk's slices read as bytes and writes; all its bytes together are no more than one slice may have.
-/
import Derived.Test.YtkdnkaiknmcfmaaRefA
import Derived.Deep.DeepCutAuto
namespace Go.Proofs.Ytkdnkaiknmcfmaa
open Go.RowKit
set_option linter.unusedVariables false

theorem mayB_of {b r : List UInt8} {ps : List DM.Wr} {x : Int} (h : SeeIs b ps r x) : (decide (x = 0) = true ↔ DM.may b ps) := by
  rcases h with ⟨h1, _, rfl⟩ | ⟨h1, _, rfl⟩
  · simp [h1]
  · simp [h1]

set_option maxRecDepth 100000 in
set_option maxHeartbeats 2000000 in
theorem refSee_any (v : Value) (b r : List UInt8) (ps : List DM.Wr) (n9 : Nat) (x : Int) (w : World) (HV : Hid (DiskIs w v b ps)) (HT : Hid (DM.total b ps ≤ 140737488355328)) (HS : Hid (SeeIs b ps r x)) (Hn9 : Hid (r.length = n9)) :
    Calls Try.prog 32 #[v] w (BAns w r n9 x) := by
  obtain ⟨A, n, c, B, m, d, rfl, h⟩ := HV.out
  clear h
  have hB0 : Below w.heap.size w (w.alloc (.cells #[.slice A n c, .slice B m d] 25)) := (Below.refl _ _).alloc (Nat.le_refl _) _
  have V : Hid (Var (w.alloc (.cells #[.slice A n c, .slice B m d] 25)) w.heap.size A n c B m d b ps) := Lib.hid ⟨Box.new _ _ _, HV.out.below hB0⟩
  have HB := Lib.hid hB0
  clear hB0 HV
  rcases HS.out with ⟨hm, hr, rfl⟩ | ⟨hm, hr, rfl⟩
  · have HG : Hid (GIs true b ps) := Lib.hid (by simp [GIs, hm])
    have HR := Lib.hid hr
    clear hm hr HS
    go_enter Try.func32, Try.ntmps32
    go_wp2_with fail
    refine (may_any _ b ps true _ (Lib.hid V.out.2) HT HG).mono ?_
    rintro e w1 ⟨rfl, hb1⟩
    have V1 := Lib.hid (V.out.below hb1)
    have HB1 := Lib.hid (bmore HB.out hb1 (Nat.le_refl _))
    have k0 := V1.out.c0
    have k1 := V1.out.c1
    clear hb1 V HB
    go_wp2_with fail
    refine (seen_any _ b r ps n9 _ (Lib.hid V1.out.2) HT HR Hn9).mono ?_
    rintro e w2 ⟨A2, c2, rfl, hown, hb2⟩
    have HO := Lib.hid hown
    have HB2 := Lib.hid (bmore HB1.out hb2 (Nat.le_refl _))
    clear hown hb2
    go_wp2
    go_ret2
    exact ⟨A2, c2, rfl, own_mono HO.out HB1.out.size, HB2.out⟩
  · have HG : Hid (GIs false b ps) := Lib.hid (by simp [GIs, hm])
    have hn : 0 = n9 := by rw [← Hn9.out, hr]; rfl
    subst hn
    have HR := Lib.hid hr
    clear hm hr HS
    go_enter Try.func32, Try.ntmps32
    go_wp2_with fail
    refine (may_any _ b ps false _ (Lib.hid V.out.2) HT HG).mono ?_
    rintro e w1 ⟨rfl, hb1⟩
    have HB1 := Lib.hid (bmore HB.out hb1 (Nat.le_refl _))
    clear hb1 V HB
    go_wp2
    go_ret2
    exact ⟨none, 0, rfl, by rw [HR.out]; exact World.ownsRow_nil _ _ _ _, HB1.out⟩
end Go.Proofs.Ytkdnkaiknmcfmaa
