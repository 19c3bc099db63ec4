/-
  What See, Sync and Crash of the document's disks answer. Conditions: the disk's slices read as bytes and writes; all its bytes together are no more than one slice may have.
-/
import Derived.Test.YtnbnnnphepfkkaaRefA
import Derived.Deep.DeepCutAuto
namespace Go.Proofs.Ytnbnnnphepfkkaa
open Go.RowKit
set_option linter.unusedVariables false

theorem mayB_of {b r : List UInt8} {ps : List DM.Wr} {x : Int} (h : SeeIs b ps r x) : (decide (x = 0) = true ↔ DM.may b ps) := by
  rcases h with ⟨h1, _, rfl⟩ | ⟨h1, _, rfl⟩
  · simp [h1]
  · simp [h1]

set_option maxRecDepth 100000 in
set_option maxHeartbeats 2000000 in
theorem refSee_any (v : Value) (b r : List UInt8) (ps : List DM.Wr) (n9 : Nat) (x : Int) (w : World) (HV : Hid (DiskIs w v b ps)) (HT : Hid (DM.total b ps ≤ 140737488355328)) (HS : Hid (SeeIs b ps r x)) (Hn9 : Hid (r.length = n9)) :
    Calls Try.prog 21 #[v] w (BAns w r n9 x) := by
  obtain ⟨A, n, c, B, m, d, rfl, h⟩ := HV.out
  clear h
  have hB0 : Below w.heap.size w (w.alloc (.cells #[.slice A n c, .slice B m d] 25)) := (Below.refl _ _).alloc (Nat.le_refl _) _
  have V : Hid (Var (w.alloc (.cells #[.slice A n c, .slice B m d] 25)) w.heap.size A n c B m d b ps) := Lib.hid ⟨Box.new _ _ _, HV.out.below hB0⟩
  have HB := Lib.hid hB0
  clear hB0 HV
  rcases HS.out with ⟨hm, hr, rfl⟩ | ⟨hm, hr, rfl⟩
  · have HG : Hid (GIs true b ps) := Lib.hid (by simp [GIs, hm])
    have HR := Lib.hid hr
    clear hm hr HS
    go_enter Try.func21, Try.ntmps21
    go_wp2_with fail
    refine (may_any _ b ps true _ (Lib.hid V.out.2) HT HG).mono ?_
    rintro e w1 ⟨rfl, hb1⟩
    have V1 := Lib.hid (V.out.below hb1)
    have HB1 := Lib.hid (bmore HB.out hb1 (Nat.le_refl _))
    have k0 := V1.out.c0
    have k1 := V1.out.c1
    clear hb1 V HB
    go_wp2_with fail
    refine (seen_any _ b r ps n9 _ (Lib.hid V1.out.2) HT HR Hn9).mono ?_
    rintro e w2 ⟨A2, c2, rfl, hown, hb2⟩
    have HO := Lib.hid hown
    have HB2 := Lib.hid (bmore HB1.out hb2 (Nat.le_refl _))
    clear hown hb2
    go_wp2
    go_ret2
    exact ⟨A2, c2, rfl, own_mono HO.out HB1.out.size, HB2.out⟩
  · have HG : Hid (GIs false b ps) := Lib.hid (by simp [GIs, hm])
    have hn : 0 = n9 := by rw [← Hn9.out, hr]; rfl
    subst hn
    have HR := Lib.hid hr
    clear hm hr HS
    go_enter Try.func21, Try.ntmps21
    go_wp2_with fail
    refine (may_any _ b ps false _ (Lib.hid V.out.2) HT HG).mono ?_
    rintro e w1 ⟨rfl, hb1⟩
    have HB1 := Lib.hid (bmore HB.out hb1 (Nat.le_refl _))
    clear hb1 V HB
    go_wp2
    go_ret2
    exact ⟨none, 0, rfl, by rw [HR.out]; exact World.ownsRow_nil _ _ _ _, HB1.out⟩

set_option maxRecDepth 100000 in
set_option maxHeartbeats 2000000 in
theorem refSync_any (v : Value) (b r : List UInt8) (ps : List DM.Wr) (n9 : Nat) (x : Int) (w : World) (HV : Hid (DiskIs w v b ps)) (HT : Hid (DM.total b ps ≤ 140737488355328)) (HS : Hid (SeeIs b ps r x)) (Hn9 : Hid (r.length = n9)) :
    Calls Try.prog 18 #[v] w (DAns w r [] n9 0 x) := by
  obtain ⟨A, n, c, B, m, d, rfl, h⟩ := HV.out
  clear h
  have hB0 : Below w.heap.size w ((w.alloc (.cells #[.slice A n c, .slice B m d] 25)).alloc (.cells #[.slice none 0 0, .slice none 0 0] 25)) := ((Below.refl _ _).alloc (Nat.le_refl _) _).alloc (by simp) _
  have V : Hid (Var ((w.alloc (.cells #[.slice A n c, .slice B m d] 25)).alloc (.cells #[.slice none 0 0, .slice none 0 0] 25)) w.heap.size A n c B m d b ps) := Lib.hid ⟨(Box.new _ _ _).alloc _, HV.out.below hB0⟩
  have X : Hid (Box ((w.alloc (.cells #[.slice A n c, .slice B m d] 25)).alloc (.cells #[.slice none 0 0, .slice none 0 0] 25)) (w.heap.size + 1) 25 #[.slice none 0 0, .slice none 0 0]) := Lib.hid (Box.new_at _ (by simp))
  have HB := Lib.hid hB0
  clear hB0 HV
  rcases HS.out with ⟨hm, hr, rfl⟩ | ⟨hm, hr, rfl⟩
  · have HG : Hid (GIs true b ps) := Lib.hid (by simp [GIs, hm])
    have HR := Lib.hid hr
    clear hm hr HS
    go_enter Try.func18, Try.ntmps18
    go_wp2_with fail
    refine (may_any _ b ps true _ (Lib.hid V.out.2) HT HG).mono ?_
    rintro e w1 ⟨rfl, hb1⟩
    have V1 := Lib.hid (V.out.below hb1)
    have X1 := Lib.hid (X.out.below hb1 X.out.lt)
    have HB1 := Lib.hid (bmore HB.out hb1 (Nat.le_refl _))
    have k0 := V1.out.c0
    have k1 := V1.out.c1
    clear hb1 V HB X
    go_wp2_with fail
    refine (seen_any _ b r ps n9 _ (Lib.hid V1.out.2) HT HR Hn9).mono ?_
    rintro e w2 ⟨A2, c2, rfl, hown, hb2⟩
    have x2 := X1.out.below hb2 X1.out.lt
    have ho : w2.ownsRow w1.heap.size 5 1 (.slice A2 n9 c2) r.length (bc r) := by rw [Hn9.out]; exact hown
    have HO := Lib.hid ho
    have HB2 := Lib.hid (bmore HB1.out hb2 (Nat.le_refl _))
    have z0 : w2.cell? ⟨w.heap.size + 1, 0, none⟩ = some (.slice none 0 0) := x2.cell 0
    have z1 : w2.cell? ⟨w.heap.size + 1, 1, none⟩ = some (.slice none 0 0) := x2.cell 1
    have z2 : w2.frozen? ⟨w.heap.size + 1, 0, none⟩ = false := x2.frozen 0
    have z3 : w2.frozen? ⟨w.heap.size + 1, 1, none⟩ = false := x2.frozen 1
    have hlt := X1.out.lt
    clear hown hb2 x2 ho k0 k1
    go_wp2
    exact bodyPost_ret (v := .tuple #[.agg #[.slice A2 n9 c2, .slice none 0 0], .int .i64 0]) (by simp [results, Try.results18, go_sem, z0, z1]) rfl ⟨_, _, _, _, rfl, ((DiskOwn.data HO.out).put (by omega) _ _).mono (by omega), below_put HB2.out (by omega) _ _⟩
  · have HG : Hid (GIs false b ps) := Lib.hid (by simp [GIs, hm])
    have hn : 0 = n9 := by rw [← Hn9.out, hr]; rfl
    subst hn
    have HR := Lib.hid hr
    clear hm hr HS
    go_enter Try.func18, Try.ntmps18
    go_wp2_with fail
    refine (may_any _ b ps false _ (Lib.hid V.out.2) HT HG).mono ?_
    rintro e w1 ⟨rfl, hb1⟩
    have x1 := X.out.below hb1 X.out.lt
    have HB1 := Lib.hid (bmore HB.out hb1 (Nat.le_refl _))
    have z0 : w1.cell? ⟨w.heap.size + 1, 0, none⟩ = some (.slice none 0 0) := x1.cell 0
    have z1 : w1.cell? ⟨w.heap.size + 1, 1, none⟩ = some (.slice none 0 0) := x1.cell 1
    have z2 : w1.frozen? ⟨w.heap.size + 1, 0, none⟩ = false := x1.frozen 0
    have z3 : w1.frozen? ⟨w.heap.size + 1, 1, none⟩ = false := x1.frozen 1
    clear hb1 V HB X x1
    go_wp2
    exact bodyPost_ret (v := .tuple #[.agg #[.slice none 0 0, .slice none 0 0], .int .i64 30]) (by simp [results, Try.results18, go_sem, z0, z1]) rfl ⟨_, _, _, _, rfl, by rw [HR.out]; exact DiskOwn.zero, below_put HB1.out (by omega) _ _⟩
end Go.Proofs.Ytnbnnnphepfkkaa
