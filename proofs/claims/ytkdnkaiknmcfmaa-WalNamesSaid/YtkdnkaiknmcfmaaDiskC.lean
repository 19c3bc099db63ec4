/-
  What the inner function 'left' of package disk makes: the writes that a crash leaves. Conditions: as the theorem says.
-/
import Derived.Test.YtkdnkaiknmcfmaaDiskB
import Derived.Deep.RegionHeld3
namespace Go.Proofs.Ytkdnkaiknmcfmaa
open Go.RowKit
set_option linter.unusedVariables false

def LeftPost (w : World) (r : List DM.Wr) (e : Ending) (w' : World) : Prop := ∃ B m d, e = .returned (.slice B m d) ∧ WaitIs w' B m r ∧ m ≤ d ∧ d ≤ maxLen ∧ Below w.heap.size w w'

theorem left_torn_end {w w1 w2 : World} {A : Option Addr} {keep y ci H : Nat} {ps : List DM.Wr} {l : List (Bool × Value)} {d : List UInt8} {v : Value} (hH : w1.heap.size = H) (hk : keep ≤ ps.length) (hp : PairsAre w l (ps.take keep)) (hb1 : Below w.heap.size w w1)
    (ho : w2.ownsRow H 37 2 v (keep + 1) (pc l ++ [.bool false, .slice A y ci])) (hb2 : Below H w1 w2) (hy : d.length = y) (hyc : y ≤ ci) (hcm : ci ≤ maxLen) (hr : Rd w A y (bc d)) :
    LeftPost w (ps.take keep ++ [(false, d)]) (.returned v) w2 := by
  subst hy
  subst hH
  obtain ⟨B2, d2, rfl, g1, g2⟩ := own_slice2 ho
  have hB := bmore hb1 hb2 (Nat.le_refl _)
  refine ⟨B2, keep + 1, d2, rfl, ⟨by simp; omega, l ++ [(false, .slice A d.length ci)], ?_, (hp.below hB).snoc rfl ⟨A, ci, rfl, hyc, hcm, hr.below hB⟩⟩, g1, g2, hB⟩
  rw [pc_append]
  exact RdS.of_own ho

set_option maxRecDepth 100000 in
set_option maxHeartbeats 4000000 in
theorem left_any (B : Option Addr) (m d keep most : Nat) (ps : List DM.Wr) (w : World) (HW : Hid (WaitIs w B m ps)) (hmd : m ≤ d) (HD : Hid (d ≤ maxLen)) (hm : m ≤ 1024) (hk : keep ≤ m) (hmost : most ≤ 9223372036854775807) :
    Calls Try.prog 28 #[.slice B m d, .int .i64 keep, .int .i64 most] w (LeftPost w (DM.left ps keep most)) := by
  obtain ⟨i0, hi, hz0, hz1, hz2⟩ := info_parts info_put
  have hd : d ≤ 9223372036854775807 := by have := HD.out; unfold maxLen at this; omega
  have hpl := HW.out.1
  by_cases hkm : keep = m
  · have hfin : LeftPost w (DM.left ps keep most) (.returned (.slice B keep d)) w := by
      rw [DM.left_end (by omega)]
      exact ⟨B, keep, d, rfl, HW.out.front hk, by omega, HD.out, Below.refl _ _⟩
    have HF := Lib.hid hfin; clear hfin hpl
    subst hkm
    go_enter Try.func28, Try.ntmps28
    go_wp2_with fail
    go_ret
    exact HF.out
  have hlt : keep < m := by omega
  obtain ⟨bl, o, Ai, ci, s, dd, rfl, hadb, hps, hc0, hc1, h1, h2, hrd⟩ := HW.out.at_ hlt
  obtain ⟨hlt2, he⟩ := List.getElem?_eq_some_iff.1 hps
  have hne : ((keep : Int) == (m : Int)) = false := by simp; omega
  have hne2 : (keep == m) = false := by simp; omega
  cases s with
  | true =>
    have hfin : LeftPost w (DM.left ps keep most) (.returned (.slice (some ⟨bl, o, none⟩) keep d)) w := by
      rw [DM.left_swap hlt2 (by rw [he])]
      exact ⟨_, keep, d, rfl, HW.out.front hk, by omega, HD.out, Below.refl _ _⟩
    have HF := Lib.hid hfin; clear hfin hpl he hps h1 h2 hrd hkm
    go_enter Try.func28, Try.ntmps28
    go_wp2_with fail
    go_ret
    exact HF.out
  | false =>
    have hres : DM.left ps keep most = ps.take keep ++ [(false, dd.take most)] := by rw [DM.left_torn hlt2 (by rw [he]), he]
    rw [hres]
    obtain ⟨y, hy⟩ : ∃ y, y = min most dd.length := ⟨_, rfl⟩
    obtain ⟨x, hx⟩ : ∃ x, x = dd.length := ⟨_, rfl⟩
    have hrd2 : Rd w Ai y (bc (dd.take most)) := by
      have := hrd.front (k := y) (by omega)
      rw [bc_take] at this
      rw [show dd.take most = dd.take y by rw [hy]; simp [List.take_eq_take_iff]]
      exact this
    have hyl : (dd.take most).length = y := by rw [List.length_take, hy]
    rw [← hx] at hc1 h1 hy
    obtain ⟨hW0, l, hl1, hl2⟩ := HW.out.front hk
    have HL1 := Lib.hid hl1
    have HL2 := Lib.hid hl2
    have HR2 := Lib.hid hrd2
    have HYL := Lib.hid hyl
    have HCI := Lib.hid h2
    have hci : ci ≤ 9223372036854775807 := by unfold maxLen at h2; omega
    have hpl2 : keep ≤ ps.length := by omega
    have hyx : y ≤ x := by omega
    have hmin : min (most : Int) (x : Int) = (y : Int) := by omega
    clear hl1 hl2 hrd2 hyl hrd hres he hps hpl hkm hW0 hx h2 HW
    have HY := Lib.hid hy; clear hy
    have hk0 : (0 : Int) ≤ (keep : Int) := by omega
    have hk1 : (keep : Int) < (m : Int) := by omega
    have hk2 : (keep : Int) ≤ (d : Int) := by omega
    have hy0 : (0 : Int) ≤ (y : Int) := by omega
    have hy1 : (y : Int) ≤ (ci : Int) := by omega
    go_enter Try.func28, Try.ntmps28
    go_wp2_with fail
    have hb1 : Below w.heap.size w (w.alloc (.cells #[.bool false, .slice Ai y ci] 37)) := (Below.refl _ _).alloc (Nat.le_refl _) _
    have hg0 : (w.alloc (.cells #[.bool false, .slice Ai y ci] 37)).cell? ⟨w.heap.size, 0, none⟩ = some (.bool false) := by simp
    have hg1 : (w.alloc (.cells #[.bool false, .slice Ai y ci] 37)).cell? ⟨w.heap.size, 1, none⟩ = some (.slice Ai y ci) := by simp
    have hgs : w.heap.size < (w.alloc (.cells #[.bool false, .slice Ai y ci] 37)).heap.size := by simp
    generalize w.alloc (.cells #[.bool false, .slice Ai y ci] 37) = w1 at hb1 hg0 hg1 hgs ⊢
    have hl1 := HL1.out.below hb1
    have HL := Lib.hid hl1
    have HB1 := Lib.hid hb1
    clear hl1 hb1 hc0 hc1 HL1
    go_region_held3 (fun w' => w'.cell? ⟨w.heap.size, 0, none⟩ = some (.bool false) ∧ w'.cell? ⟨w.heap.size, 1, none⟩ = some (.slice Ai y ci))
      (first | go_keep | (go_split_ands; refine ⟨?_, ?_⟩ <;> (rw [hb2.cell (show w.heap.size < _ from by omega)]; first | assumption | (simp; assumption))))
      ((refine step_append_full _ (by rfl) _ _ 23 (by rfl) 37 i0 _ 2 32 Try.underlying23 hi hz0 hz1 hz2 rfl (some ⟨bl, o, none⟩) keep (pc l) (by rfl) ((HL.out.alloc _).drew) ⟨w1.heap.size, 0, none⟩ 1 [.bool false, .slice Ai y ci] (by rfl) ((rdS_new w1 _ _ _).drew) (by simp [Value.oneCell']) (by unfold maxLen; omega) (by omega) (w1.heap.size + 1) (by simp) ?_; intro cap2 w2 hown2 hb2 hlt2))
    go_wp2
    go_ret
    exact left_torn_end (by simp) hpl2 HL2.out (((HB1.out).alloc (by omega) _).drew) hown2 hb2 HYL.out (by omega) HCI.out HR2.out
end Go.Proofs.Ytkdnkaiknmcfmaa
