/-
  What disk.Append and disk.Swap answer, whatever disk and bytes. Conditions: the disk's slices read as bytes and writes, the bytes' slice as bytes.
-/
import Derived.Test.YtkdnkaiknmcfmaaDiskG
namespace Go.Proofs.Ytkdnkaiknmcfmaa
open Go.RowKit
set_option linter.unusedVariables false

set_option maxRecDepth 100000 in
set_option maxHeartbeats 2000000 in
theorem append_any (v : Value) (Ap : Option Addr) (np cp : Nat) (b q b' : List UInt8) (ps ps' : List DM.Wr) (x : Int) (w : World) (HV : Hid (DiskIs w v b ps)) (HQ : Hid (Rd w Ap np (bc q))) (hnp : np ≤ cp) (HC : Hid (cp ≤ maxLen)) (HS : Hid (LenIs b ps (false, q) b' ps' x)) :
    Calls Try.prog 41 #[v, .slice Ap np cp] w (DiskAns w b' ps' x) := by
  obtain ⟨A, n, c, B, m, d, rfl, h⟩ := HV.out
  clear h
  have hb0 : Below w.heap.size w ((w.alloc (.cells #[.slice A n c, .slice B m d] 25)).alloc (.cells #[.slice none 0 0, .slice none 0 0] 25)) := (((Below.refl _ _).alloc (Nat.le_refl _) _).alloc (by simp) _)
  have hv0 := HV.out.below hb0
  have hq0 := HQ.out.below hb0
  have HV0 := Lib.hid hv0
  have HQ0 := Lib.hid hq0
  have HB0 := Lib.hid hb0
  clear hv0 hb0 hq0 HV HQ
  go_enter Try.func41, Try.ntmps41
  go_wp2_with fail
  refine (lengthen_any _ false Ap np cp b q b' ps ps' x _ HV0 HQ0 hnp HC.out HS).mono ?_
  rintro e w1 ⟨v1, rfl, hown1, hb1⟩
  obtain ⟨x1, y1, l1, rfl, o1, o2, o3⟩ := hown1
  obtain ⟨A1, c1, rfl, g1, g2⟩ := own_slice o1
  obtain ⟨B1, d1, rfl, g3, g4⟩ := own_slice2 o2
  have hown : DiskOwn w1 _ 5 37 (.agg #[.slice A1 b'.length c1, .slice B1 ps'.length d1]) b' ps' := ⟨_, _, l1, rfl, o1, o2, o3⟩
  have HO1 := Lib.hid hown
  have HB1 := Lib.hid hb1
  have br : Box w1 (w.heap.size + 1) 25 #[.slice none 0 0, .slice none 0 0] := (Box.new_at (w.heap.size + 1) (by simp)).below hb1 (by simp)
  have k0 : w1.cell? ⟨w.heap.size + 1, 0, none⟩ = some (.slice none 0 0) := br.cell 0
  have k1 : w1.cell? ⟨w.heap.size + 1, 1, none⟩ = some (.slice none 0 0) := br.cell 1
  have f0 : w1.frozen? ⟨w.heap.size + 1, 0, none⟩ = false := br.frozen 0
  have f1 : w1.frozen? ⟨w.heap.size + 1, 1, none⟩ = false := br.frozen 1
  clear hown o1 o2 o3 hb1 g1 g2 g3 g4 br
  go_wp2_with fail
  refine bodyPost_ret (v := .tuple #[.agg #[.slice A1 b'.length c1, .slice B1 ps'.length d1], .int .i64 x]) (by simp [results, Try.results41, go_sem, k0, k1]) rfl ⟨_, rfl, ?_, below_put (HB0.out.trans (HB1.out.mono (by simp; omega))) (by omega) _ _⟩
  exact (HO1.out.put (by simp) _ _).mono (by simp; omega)

set_option maxRecDepth 100000 in
set_option maxHeartbeats 2000000 in
theorem swap_any (v : Value) (Ap : Option Addr) (np cp : Nat) (b q b' : List UInt8) (ps ps' : List DM.Wr) (x : Int) (w : World) (HV : Hid (DiskIs w v b ps)) (HQ : Hid (Rd w Ap np (bc q))) (hnp : np ≤ cp) (HC : Hid (cp ≤ maxLen)) (HS : Hid (LenIs b ps (true, q) b' ps' x)) :
    Calls Try.prog 30 #[v, .slice Ap np cp] w (DiskAns w b' ps' x) := by
  obtain ⟨A, n, c, B, m, d, rfl, h⟩ := HV.out
  clear h
  have hb0 : Below w.heap.size w ((w.alloc (.cells #[.slice A n c, .slice B m d] 25)).alloc (.cells #[.slice none 0 0, .slice none 0 0] 25)) := (((Below.refl _ _).alloc (Nat.le_refl _) _).alloc (by simp) _)
  have hv0 := HV.out.below hb0
  have hq0 := HQ.out.below hb0
  have HV0 := Lib.hid hv0
  have HQ0 := Lib.hid hq0
  have HB0 := Lib.hid hb0
  clear hv0 hb0 hq0 HV HQ
  go_enter Try.func30, Try.ntmps30
  go_wp2_with fail
  refine (lengthen_any _ true Ap np cp b q b' ps ps' x _ HV0 HQ0 hnp HC.out HS).mono ?_
  rintro e w1 ⟨v1, rfl, hown1, hb1⟩
  obtain ⟨x1, y1, l1, rfl, o1, o2, o3⟩ := hown1
  obtain ⟨A1, c1, rfl, g1, g2⟩ := own_slice o1
  obtain ⟨B1, d1, rfl, g3, g4⟩ := own_slice2 o2
  have hown : DiskOwn w1 _ 5 37 (.agg #[.slice A1 b'.length c1, .slice B1 ps'.length d1]) b' ps' := ⟨_, _, l1, rfl, o1, o2, o3⟩
  have HO1 := Lib.hid hown
  have HB1 := Lib.hid hb1
  have br : Box w1 (w.heap.size + 1) 25 #[.slice none 0 0, .slice none 0 0] := (Box.new_at (w.heap.size + 1) (by simp)).below hb1 (by simp)
  have k0 : w1.cell? ⟨w.heap.size + 1, 0, none⟩ = some (.slice none 0 0) := br.cell 0
  have k1 : w1.cell? ⟨w.heap.size + 1, 1, none⟩ = some (.slice none 0 0) := br.cell 1
  have f0 : w1.frozen? ⟨w.heap.size + 1, 0, none⟩ = false := br.frozen 0
  have f1 : w1.frozen? ⟨w.heap.size + 1, 1, none⟩ = false := br.frozen 1
  clear hown o1 o2 o3 hb1 g1 g2 g3 g4 br
  go_wp2_with fail
  refine bodyPost_ret (v := .tuple #[.agg #[.slice A1 b'.length c1, .slice B1 ps'.length d1], .int .i64 x]) (by simp [results, Try.results30, go_sem, k0, k1]) rfl ⟨_, rfl, ?_, below_put (HB0.out.trans (HB1.out.mono (by simp; omega))) (by omega) _ _⟩
  exact (HO1.out.put (by simp) _ _).mono (by simp; omega)
end Go.Proofs.Ytkdnkaiknmcfmaa
