/-
  The document's own SameStamps and SameMessages of any two lists (towncrierref15). Conditions: slices that read as such.
-/
import Derived.Test.YteebeiaokfenmaaGreatK01
namespace Go.Proofs.YteebeiaokfenmaaGreat.KP
open Go.RowKit CP TP
open CM (Mg Cm)
open TM (Sp)
open KM (Wt Sk)
set_option linter.unusedVariables false
set_option linter.unusedSimpArgs false
set_option maxRecDepth 100000

set_option maxHeartbeats 4000000 in
theorem rsameStamps_any (A B : Option Addr) (n m ca cb : Nat) (x y : List Sp) (w : World) (h1 : SpsIs w A n ca x) (h2 : SpsIs w B m cb y) :
    Calls Tryz.prog 23 #[.slice A n ca, .slice B m cb] w (IsB (decide (x = y)) w) := by
  obtain ⟨r, hr⟩ : ∃ r, r = decide (x = y) := ⟨_, rfl⟩
  rw [← hr]
  have HR := Lib.hid hr
  have hn := h1.small
  have hm := h2.small
  have HX := Lib.hid h1.2.1
  have HY := Lib.hid h2.2.1
  have H1 := Lib.hid h1
  have H2 := Lib.hid h2
  clear h1 h2 hr
  by_cases hnm : n = m
  rotate_left
  · have HF := Lib.hid (show r = false by rw [HR.out]; exact decide_eq_false (fun e => hnm (by have := HX.out; have := HY.out; rw [e] at *; omega)))
    have hb : ((n : Int) != (m : Int)) = true := by simp; omega
    clear hnm
    go_enter Tryz.func23, Tryz.ntmps23
    go_wp2_with fail
    go_ret
    exact ⟨by rw [HF.out]; rfl, Below.refl _ _⟩
  subst hnm
  have hne : ((n : Int) != (n : Int)) = false := by simp
  go_enter Tryz.func23, Tryz.ntmps23
  go_wp2_with fail
  go_loopw [5] (fun i wr => ∃ k : Nat, k ≤ n ∧ i = .int .i64 k ∧ Below w.heap.size w wr ∧ Hid (x.take k = y.take k)) (fun i _ => n - (intOf i).toNat)
  case atStart => exact ⟨0, by omega, rfl, Below.refl _ _, Lib.hid rfl⟩
  case round =>
    obtain ⟨k, hk, rfl, hB, HT⟩ := hrel
    have HB := Lib.hid hB
    clear hB
    by_cases hlt : k < n
    · obtain ⟨a, ha⟩ : ∃ a, x[k]? = some a := ⟨_, List.getElem?_eq_getElem (by have := HX.out; omega)⟩
      obtain ⟨b, hb⟩ : ∃ b, y[k]? = some b := ⟨_, List.getElem?_eq_getElem (by have := HY.out; omega)⟩
      have HA := Lib.hid ha
      have HBb := Lib.hid hb
      obtain ⟨b1, o1, rfl, _, _, x0, x1⟩ := (H1.out.below HB.out).at_ ha
      obtain ⟨b2, o2, rfl, _, _, y0, y1⟩ := (H2.out.below HB.out).at_ hb
      clear ha hb
      have hk0 : (0 : Int) ≤ (k : Int) := by omega
      have hkn : (k : Int) < (n : Int) := by omega
      by_cases hab : a = b
      · subst hab
        have HN := Lib.hid (take_more HT.out HA.out HBb.out)
        obtain ⟨at_, ai⟩ := a
        simp only at x0 x1 y0 y1
        go_wp2_with fail
        go_region
        have HB2 := Lib.hid (below_drewN HB.out 1)
        go_wp2_with fail
        go_roundw
        case rel => exact ⟨k + 1, by omega, by go_num, HB2.out, HN⟩
        case measure => simp [intOf]; omega
      · have HF := Lib.hid (show r = false by rw [HR.out]; exact decide_eq_false (ne_at HA.out HBb.out hab))
        have hc : (a.t == b.t) = false ∨ ((a.t == b.t) = true ∧ (a.i == b.i) = false) := by
          by_cases e : a.t = b.t
          · right
            refine ⟨by simpa using e, ?_⟩
            have : a.i ≠ b.i := fun e2 => hab (by obtain ⟨p, q⟩ := a; obtain ⟨p', q'⟩ := b; simp only at e e2; rw [e, e2])
            simpa using this
          · left; simpa using e
        clear hab HA HBb
        obtain ⟨at_, ai⟩ := a
        obtain ⟨bt, bi⟩ := b
        simp only at x0 x1 y0 y1 hc
        rcases hc with c1 | ⟨c1, c2⟩
        all_goals
          go_wp2_with fail
          go_region
          have HB2 := Lib.hid (below_drewN HB.out 1)
          go_wp2_with fail
          go_ret
          exact ⟨by rw [HF.out]; rfl, HB2.out⟩
    · have HF := Lib.hid (show r = true by
        rw [HR.out]
        exact decide_eq_true (take_all HT.out (by have := HX.out; omega) (by have := HY.out; omega)))
      go_wp2_with fail
      go_ret
      exact ⟨by rw [HF.out]; rfl, HB.out⟩
end Go.Proofs.YteebeiaokfenmaaGreat.KP
