/-
  What Great of the document's disks answers: a disk that is not great has few writes, and no more bytes than one slice may have. Conditions: each slice is no greater than a machine holds.
-/
import Derived.Test.YtkdnkaiknmcfmaaDiskV
namespace Go.Proofs.Ytkdnkaiknmcfmaa
open Go.RowKit
set_option linter.unusedVariables false

def capped (xs : List Nat) : Nat := (xs.map fun x => min x 2000000).sum
theorem capped_zero : ∀ (xs : List Nat), capped xs = 0 → xs.sum = 0
  | [], _ => rfl
  | x :: t, h => by
    simp only [capped, List.map_cons, List.sum_cons] at h
    have := capped_zero t (by unfold capped; omega)
    rw [List.sum_cons]; omega
theorem capped_le (L : Nat) : ∀ (xs : List Nat) (a : Nat), (∀ x ∈ xs, x ≤ L) → 2000000 ≤ L → a + capped xs ≤ 2000000 → a + xs.sum ≤ L
  | [], a, _, hL, h => by simp [capped] at h; simp; omega
  | x :: t, a, hx, hL, h => by
    simp only [capped, List.map_cons, List.sum_cons] at h
    rw [List.sum_cons]
    by_cases hc : x ≤ 2000000
    · have := capped_le L t (a + x) (fun y hy => hx y (by simp [hy])) hL (by unfold capped; omega)
      omega
    · have h0 := capped_zero t (by unfold capped; omega)
      have := hx x (by simp)
      omega
theorem capped_take (xs : List Nat) (k : Nat) (h : k < xs.length) : capped (xs.take (k + 1)) = capped (xs.take k) + min xs[k] 2000000 := by
  unfold capped
  rw [List.take_succ_eq_append_getElem h, List.map_append, List.sum_append]; rfl
theorem capped_bound (xs : List Nat) : capped xs ≤ xs.length * 2000000 := by
  induction xs with
  | nil => simp [capped]
  | cons x t ih => simp only [capped, List.map_cons, List.sum_cons, List.length_cons] at *; omega

def Small (b : List UInt8) (ps : List DM.Wr) : Prop := DM.total b ps ≤ 140737488351232 ∧ ps.length ≤ 1200
def GreatPost (w : World) (b : List UInt8) (ps : List DM.Wr) (e : Ending) (w' : World) : Prop := ∃ g, e = .returned (.bool g) ∧ (g = false → Small b ps) ∧ Below w.heap.size w w'
def lens (ps : List DM.Wr) : List Nat := ps.map (·.2.length)
theorem small_of {b : List UInt8} {ps : List DM.Wr} {x : Nat} (hx : x = b.length + capped ((lens ps).take ps.length)) (h1 : x ≤ 2000000) (h2 : ps.length ≤ 1200) (hb : b.length ≤ 140737488351232) (hp : ∀ (i : Nat) (q : DM.Wr), ps[i]? = some q → q.2.length ≤ 140737488351232) : Small b ps := by
  refine ⟨?_, h2⟩
  unfold DM.total
  have hl : (lens ps).take ps.length = lens ps := List.take_of_length_le (by simp [lens])
  rw [hl] at hx
  refine capped_le _ (lens ps) b.length (fun x hx => ?_) (by omega) (by omega)
  simp only [lens, List.mem_map] at hx
  obtain ⟨q, hq, rfl⟩ := hx
  obtain ⟨i, hi, rfl⟩ := List.getElem_of_mem hq
  exact hp i _ (List.getElem?_eq_getElem hi)

set_option maxRecDepth 100000 in
set_option maxHeartbeats 2000000 in
theorem great_any (v : Value) (b : List UInt8) (ps : List DM.Wr) (w : World) (HV : Hid (DiskIs w v b ps)) (hb : b.length ≤ 140737488351232) (HP : Hid (∀ (i : Nat) (q : DM.Wr), ps[i]? = some q → q.2.length ≤ 140737488351232)) :
    Calls Try.prog 14 #[v] w (GreatPost w b ps) := by
  obtain ⟨A, n, c, B, m, d, rfl, h1, h2, h3, h4, h5, h6⟩ := HV.out
  have hd : d ≤ 9223372036854775807 := by unfold maxLen at h4; omega
  have hbl : b.length = n := by have := h5.1; rwa [bc_length] at this
  have hB0 : Below w.heap.size w (w.alloc (.cells #[.slice A n c, .slice B m d] 25)) := (Below.refl _ _).alloc (Nat.le_refl _) _
  have X := Lib.hid (Box.new w 25 #[.slice A n c, .slice B m d])
  have HW := Lib.hid (h6.below hB0)
  have HB := Lib.hid hB0
  have HPL := Lib.hid h6.1
  have HBL := Lib.hid hbl
  rw [hbl] at hb
  clear h2 h4 h5 h6 hB0 HV hbl
  go_enter Try.func14, Try.ntmps14
  go_upto_region 3 with (fail)
  generalize w.alloc (.cells #[.slice A n c, .slice B m d] 25) = w1 at X HW HB ⊢
  have k1 : w1.cell? ⟨w.heap.size, 1, none⟩ = some (.slice B m d) := X.out.cell 1
  go_loop [3, 4] (fun z i => ∃ k x : Nat, k ≤ m ∧ k ≤ 2000 ∧ i = .int .i64 k ∧ z = .int .i64 x ∧ x ≤ n + k * 2000000 ∧ Hid (x = n + capped ((lens ps).take k))) (fun _ i => m - (intOf i).toNat)
  case atStart => exact ⟨0, n, by omega, by omega, rfl, rfl, by omega, by simp [Hid, capped]⟩
  case round =>
    obtain ⟨k, x, hk, hk2, rfl, rfl, hx, HX⟩ := hrel
    by_cases hlt : k < m
    · by_cases hlt2 : k < 2000
      · obtain ⟨bl, o, Ai, ci, s, dd, rfl, hadb, hps, hc0, hc1, g1, g2, hrd⟩ := HW.out.at_ hlt
        have hdd := HP.out _ _ hps
        obtain ⟨hlt3, he⟩ := List.getElem?_eq_some_iff.1 hps
        have hkl : k < (lens ps).length := by simp [lens]; exact hlt3
        have hle : (lens ps)[k] = dd.length := by simp [lens, he]
        obtain ⟨y, hy⟩ : ∃ y, dd.length = y := ⟨_, rfl⟩
        simp only at hdd
        rw [hy] at hc1 hdd hle
        obtain ⟨z, hz⟩ : ∃ z, min y 2000000 = z := ⟨_, rfl⟩
        have hmin : min (y : Int) 2000000 = (z : Int) := by omega
        have hz2 : z ≤ 2000000 := by omega
        have HX2 : Hid (x + z = n + capped ((lens ps).take (k + 1))) := by
          have := HX.out
          rw [Hid, capped_take _ _ hkl, hle, hz]; omega
        clear hps hrd he hle hy hz g1 g2 HX hkl
        have t1 : (k : Int) < 2000 := by omega
        go_wp2_with fail
        go_round
        case rel => exact ⟨k + 1, x + z, by omega, by omega, by go_num, by go_num, by omega, HX2⟩
        case measure => simp [intOf]; omega
      · have hm : 1200 < m := by omega
        have t1 : ¬ ((k : Int) < 2000) := by omega
        have t3 : decide ((k : Int) < 2000) = false := by simpa using t1
        go_wp2_with fail
        all_goals (go_ret; exact ⟨_, rfl, fun hg => by first | (simp at hg; omega) | (simp at hg), HB.out⟩)
    · obtain rfl : m = k := by omega
      have hfin : x ≤ 2000000 → m ≤ 1200 → Small b ps := fun q1 q2 => small_of (x := x) (by rw [HBL.out, HPL.out]; exact HX.out) q1 (by rw [HPL.out]; exact q2) (by rw [HBL.out]; exact hb) HP.out
      have HF := Lib.hid hfin
      clear hfin HX
      go_wp2_with fail
      all_goals (go_ret; exact ⟨_, rfl, fun hg => by first | (simp at hg; exact HF.out (by omega) (by omega)) | (simp at hg; omega) | (simp at hg), HB.out⟩)
end Go.Proofs.Ytkdnkaiknmcfmaa
