/-
  The document's own Rises and Same of two equal lists (towncrierref14). Conditions: as each theorem says.
-/
import Derived.Test.YteenodmkpdcbaaaSpC
import Derived.Test.YteenodmkpdcbaaaSpR
namespace Go.Proofs.Yteenodmkpdcbaaa.TP
open Go.RowKit
open TM (Sp)
set_option linter.unusedVariables false
set_option linter.unusedSimpArgs false
set_option maxRecDepth 100000

set_option maxHeartbeats 4000000 in
theorem rrises_any (A : Option Addr) (n c : Nat) (l : List Sp) (w : World) (h : SpsIs w A n c l) : Calls Try.prog 17 #[.slice A n c] w (IsB (TM.rises l) w) := by
  have hn := h.small
  have hl := h.2.1
  obtain ⟨r, hr⟩ : ∃ r, r = TM.rises l := ⟨_, rfl⟩
  rw [← hr]
  have HR := Lib.hid hr
  have H := Lib.hid h
  have HL := Lib.hid hl
  clear h hl hr
  go_enter Try.func17, Try.ntmps17
  go_wp2_with fail
  go_loopw [3] (fun i wr => ∃ k : Nat, 1 ≤ k ∧ k ≤ n + 1 ∧ i = .int .i64 k ∧ Below w.heap.size w wr ∧ Hid (Seen l k)) (fun i _ => n + 1 - (intOf i).toNat)
  case atStart => exact ⟨1, by omega, by omega, rfl, Below.refl _ _, Lib.hid (seen_one l)⟩
  case round =>
    obtain ⟨k, hk1, hk, rfl, hB, HSn⟩ := hrel
    have HB := Lib.hid hB
    clear hB
    by_cases hlt : k < n
    · obtain ⟨a, ha⟩ : ∃ a, l[k - 1]? = some a := ⟨_, List.getElem?_eq_getElem (by have := HL.out; omega)⟩
      obtain ⟨b, hb⟩ : ∃ b, l[k]? = some b := ⟨_, List.getElem?_eq_getElem (by have := HL.out; omega)⟩
      have HA := Lib.hid ha
      have HBb := Lib.hid hb
      obtain ⟨bl, o, rfl, _, _, a0, a1⟩ := (H.out.below HB.out).at_ ha
      obtain ⟨bl', o', e', _, _, b0, b1⟩ := (H.out.below HB.out).at_ hb
      injection e' with e'
      injection e' with e1 e2
      subst e1 e2
      clear ha hb
      obtain ⟨j, hj⟩ : ∃ j, j = k - 1 := ⟨_, rfl⟩
      rw [← hj] at a0 a1 HA
      have hkj : IntKind.i64.wrap ((k : Int) - 1) = (j : Int) := by rw [IntKind.wrap_i64]; omega
      have hk0 : (0 : Int) ≤ (j : Int) := by omega
      have hkn : (j : Int) < (n : Int) := by omega
      have hk2 : (0 : Int) ≤ (k : Int) := by omega
      have hk3 : (k : Int) < (n : Int) := by omega
      have HJ := Lib.hid hj
      clear hj
      obtain ⟨q, hq⟩ : ∃ q, q = TM.less a b := ⟨_, rfl⟩
      have HQ := Lib.hid hq
      have C := Lib.hid (fun w => rless_any a b w)
      rw [← hq] at C
      clear hq
      obtain ⟨at_, ai⟩ := a
      obtain ⟨bt, bi⟩ := b
      unfold vsp at C
      simp only at a0 a1 b0 b1 C
      have HSS := Lib.hid (fun (W : World) (h : Below wr.heap.size wr W) => show W.cell? ⟨bl, o + j * 2, none⟩ = some (.int .i64 at_) ∧ W.cell? ⟨bl, o + j * 2 + 1, none⟩ = some (.int .i64 ai) ∧ W.cell? ⟨bl, o + k * 2, none⟩ = some (.int .i64 bt) ∧ W.cell? ⟨bl, o + k * 2 + 1, none⟩ = some (.int .i64 bi) from
        ⟨(h.cell (cell_block a0)).trans a0, (h.cell (cell_block a1)).trans a1, (h.cell (cell_block b0)).trans b0, (h.cell (cell_block b1)).trans b1⟩)
      have bb1 : Below wr.heap.size wr wr.drew := (Below.refl _ _).drew
      go_wp2_with fail
      go_region_held3 (fun W => W.cell? ⟨bl, o + j * 2, none⟩ = some (.int .i64 at_) ∧ W.cell? ⟨bl, o + j * 2 + 1, none⟩ = some (.int .i64 ai) ∧ W.cell? ⟨bl, o + k * 2, none⟩ = some (.int .i64 bt) ∧ W.cell? ⟨bl, o + k * 2 + 1, none⟩ = some (.int .i64 bi))
        (first | exact HSS.out _ bb1 | exact HSS.out _ hb3 | go_keep)
        ((go_at_call 16; refine (C.out _).mono ?_; rintro e w5 ⟨rfl, hb⟩; have hb3 := bmore bb1 hb (Nat.le_refl _)))
      all_goals
        have HN := Lib.hid (bmore HB.out hb3 (Nat.le_refl _))
        clear hb3 hb bb1 HSS a0 a1 b0 b1 C
        rcases q with _ | _
        · simp only [Bool.not_false]
          have HF := Lib.hid (show r = false by
            rw [HR.out]
            exact seen_no hk1 (by rw [← HJ.out]; exact HA.out) HBb.out HQ.out.symm)
          go_wp2_with fail
          go_ret
          exact ⟨by rw [HF.out]; rfl, HN.out⟩
        · simp only [Bool.not_true]
          have HF := Lib.hid (HSn.out.next hk1 (by rw [← HJ.out]; exact HA.out) HBb.out HQ.out.symm)
          go_wp2_with fail
          go_roundw
          case rel => exact ⟨k + 1, by omega, by omega, by go_num, HN.out, HF⟩
          case measure => simp [intOf]; omega
    · go_wp2_with fail
      go_ret
      exact ⟨by rw [HR.out, HSn.out.all (by have := HL.out; omega)]; rfl, HB.out⟩
set_option maxHeartbeats 2000000 in
theorem rsame14_any (A B : Option Addr) (n ca cb : Nat) (l : List Sp) (w : World) (h1 : SpsIs w A n ca l) (h2 : SpsIs w B n cb l) :
    Calls Try.prog 18 #[.slice A n ca, .slice B n cb] w (IsB true w) := by
  have hn := h1.small
  have HL := Lib.hid h1.2.1
  have H1 := Lib.hid h1
  have H2 := Lib.hid h2
  have hne : ((n : Int) != (n : Int)) = false := by simp
  clear h1 h2
  go_enter Try.func18, Try.ntmps18
  go_wp2_with fail
  go_loopw [5] (fun i wr => ∃ k : Nat, k ≤ n ∧ i = .int .i64 k ∧ Below w.heap.size w wr) (fun i _ => n - (intOf i).toNat)
  case atStart => exact ⟨0, by omega, rfl, Below.refl _ _⟩
  case round =>
    obtain ⟨k, hk, rfl, hB⟩ := hrel
    have HB := Lib.hid hB
    clear hB
    by_cases hlt : k < n
    · obtain ⟨a, ha⟩ : ∃ a, l[k]? = some a := ⟨_, List.getElem?_eq_getElem (by have := HL.out; omega)⟩
      obtain ⟨b1, o1, rfl, _, _, x0, x1⟩ := (H1.out.below HB.out).at_ ha
      obtain ⟨b2, o2, rfl, _, _, y0, y1⟩ := (H2.out.below HB.out).at_ ha
      clear ha
      have hk0 : (0 : Int) ≤ (k : Int) := by omega
      have hkn : (k : Int) < (n : Int) := by omega
      obtain ⟨at_, ai⟩ := a
      simp only at x0 x1 y0 y1
      go_wp2_with fail
      go_region
      have HB2 := Lib.hid (below_drewN HB.out 1)
      go_wp2_with fail
      go_roundw
      case rel => exact ⟨k + 1, by omega, by go_num, HB2.out⟩
      case measure => simp [intOf]; omega
    · go_wp2_with fail
      go_ret
      exact ⟨rfl, HB.out⟩
end Go.Proofs.Yteenodmkpdcbaaa.TP
