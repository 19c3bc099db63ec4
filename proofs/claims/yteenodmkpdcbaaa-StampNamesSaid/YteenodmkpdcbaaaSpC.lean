/-
  Package stamp's Check and Rises. Conditions: as each theorem says.
-/
import Derived.Test.YteenodmkpdcbaaaSpA
namespace Go.Proofs.Yteenodmkpdcbaaa.TP
open Go.RowKit
open TM (Sp)
set_option linter.unusedVariables false
set_option linter.unusedSimpArgs false
set_option maxRecDepth 100000

def SpFit (a : Sp) : Prop := (-9223372036854775808 ≤ a.t ∧ a.t ≤ 9223372036854775807) ∧ (-9223372036854775808 ≤ a.i ∧ a.i ≤ 9223372036854775807)
theorem box_2 {w : World} {g : Nat} {t : TypeId} {a b : Value} (h : Box w g t #[a, b]) : w.cell? ⟨g, 0, none⟩ = some a ∧ w.cell? ⟨g, 1, none⟩ = some b := ⟨h.cell 0, h.cell 1⟩
set_option maxHeartbeats 2000000 in
theorem pcheck_any (a : Sp) (w : World) (hf : SpFit a) : Calls Try.prog 13 #[vsp a] w (IsN (TM.chk a) w) := by
  obtain ⟨r, n, y, hof⟩ := TM.ofIs_ex a.i
  have HO := Lib.hid (fun w => pof_any hof hf.2.1 hf.2.2 w)
  have hy : (y = 0 ∧ TM.good a.i) ∨ (y = 2 ∧ ¬ TM.good a.i) := by
    rcases hof with ⟨h, _, _, h2⟩ | ⟨h, _, _, h2⟩
    · exact .inl ⟨h2, h⟩
    · exact .inr ⟨h2, h⟩
  have HY := Lib.hid hy
  clear hy hof hf
  obtain ⟨t, i⟩ := a
  simp only at HO HY
  unfold vsp
  simp only
  have HB := Lib.hid (show Below w.heap.size w (w.alloc (.cells #[.int .i64 t, .int .i64 i] 31)) from (Below.refl _ _).alloc (Nat.le_refl _) _)
  have X := Lib.hid (Box.new w 31 #[.int .i64 t, .int .i64 i])
  rcases (show t < 0 ∨ (0 ≤ t ∧ 1073741824 < t) ∨ (0 ≤ t ∧ ¬ 1073741824 < t) by omega) with h | ⟨h0, h⟩ | ⟨h0, h⟩
  rotate_right
  · rcases HY.out with ⟨rfl, hg⟩ | ⟨rfl, hg⟩
    · rw [show TM.chk ⟨t, i⟩ = 0 from if_pos ⟨h0, by simp only; omega, hg.1, hg.2⟩]
      clear HY hg
      go_enter Try.func13, Try.ntmps13
      go_upto_region 1 with (fail)
      generalize w.alloc (.cells #[.int .i64 t, .int .i64 i] 31) = w1 at HB X ⊢
      generalize hg : w.heap.size = g at X ⊢
      clear hg
      obtain ⟨x0, x1⟩ := box_2 X.out
      go_wp2_with fail
      refine (HO.out w1).mono ?_
      rintro e w2 ⟨rfl, rfl⟩
      go_wp2_with fail
      go_ret
      exact ⟨rfl, HB.out⟩
    · rw [show TM.chk ⟨t, i⟩ = 8 from if_neg (fun g => hg ⟨g.2.2.1, g.2.2.2⟩)]
      clear HY hg
      go_enter Try.func13, Try.ntmps13
      go_upto_region 1 with (fail)
      generalize w.alloc (.cells #[.int .i64 t, .int .i64 i] 31) = w1 at HB X ⊢
      generalize hg : w.heap.size = g at X ⊢
      clear hg
      obtain ⟨x0, x1⟩ := box_2 X.out
      go_wp2_with fail
      refine (HO.out w1).mono ?_
      rintro e w2 ⟨rfl, rfl⟩
      go_wp2_with fail
      go_ret
      exact ⟨rfl, HB.out⟩
  all_goals
    rw [show TM.chk ⟨t, i⟩ = 8 from if_neg (fun g => by unfold TM.ok at g; simp only at g; omega)]
    go_enter Try.func13, Try.ntmps13
    go_upto_region 1 with (fail)
    generalize w.alloc (.cells #[.int .i64 t, .int .i64 i] 31) = w1 at HB X ⊢
    generalize hg : w.heap.size = g at X ⊢
    clear hg
    obtain ⟨x0, x1⟩ := box_2 X.out
    go_wp2_with fail
    go_ret
    exact ⟨rfl, HB.out⟩
/-- how far a row has been looked at -/
def Seen (l : List Sp) (i : Nat) : Prop := ∀ k a b, k + 1 < i → l[k]? = some a → l[k + 1]? = some b → TM.less a b = true
theorem seen_one (l : List Sp) : Seen l 1 := fun k a b h => absurd h (by omega)
theorem Seen.next {l : List Sp} {i : Nat} {a b : Sp} (h : Seen l i) (h1 : 1 ≤ i) (ha : l[i - 1]? = some a) (hb : l[i]? = some b) (hl : TM.less a b = true) : Seen l (i + 1) := fun k x y hk hx hy => by
  rcases (show k + 1 < i ∨ k + 1 = i by omega) with h2 | h2
  · exact h k x y h2 hx hy
  · obtain rfl : k = i - 1 := by omega
    rw [show i - 1 + 1 = i by omega] at hy
    rw [ha] at hx
    rw [hb] at hy
    injection hx with hx
    injection hy with hy
    subst hx hy
    exact hl
theorem Seen.all {l : List Sp} {i : Nat} (h : Seen l i) (hi : l.length ≤ i) : TM.rises l = true := (TM.rises_iff l).2 fun k a b ha hb => h k a b (by have := (List.getElem?_eq_some_iff.1 hb).1; omega) ha hb
theorem seen_no {l : List Sp} {i : Nat} {a b : Sp} (h1 : 1 ≤ i) (ha : l[i - 1]? = some a) (hb : l[i]? = some b) (hl : TM.less a b = false) : TM.rises l = false := by
  rcases h : TM.rises l with _ | _
  · rfl
  · have := (TM.rises_iff l).1 h (i - 1) a b ha (by rw [show i - 1 + 1 = i by omega]; exact hb)
    rw [hl] at this
    cases this
set_option maxHeartbeats 4000000 in
theorem prises_any (A : Option Addr) (n c : Nat) (l : List Sp) (w : World) (h : SpsIs w A n c l) : Calls Try.prog 12 #[.slice A n c] w (IsB (TM.rises l) w) := by
  have hn := h.small
  have hl := h.2.1
  obtain ⟨r, hr⟩ : ∃ r, r = TM.rises l := ⟨_, rfl⟩
  rw [← hr]
  have HR := Lib.hid hr
  have H := Lib.hid h
  have HL := Lib.hid hl
  clear h hl hr
  go_enter Try.func12, Try.ntmps12
  go_wp2_with fail
  go_loopw [3] (fun i wr => ∃ k : Nat, 1 ≤ k ∧ k ≤ n + 1 ∧ i = .int .i64 k ∧ Below w.heap.size w wr ∧ Hid (Seen l k)) (fun i _ => n + 1 - (intOf i).toNat)
  case atStart => exact ⟨1, by omega, by omega, rfl, Below.refl _ _, Lib.hid (seen_one l)⟩
  case round =>
    obtain ⟨k, hk1, hk, rfl, hB, HSn⟩ := hrel
    have HB := Lib.hid hB
    clear hB
    by_cases hlt : k < n
    · obtain ⟨a, ha⟩ : ∃ a, l[k - 1]? = some a := ⟨_, List.getElem?_eq_getElem (by have := HL.out; omega)⟩
      obtain ⟨b, hb⟩ : ∃ b, l[k]? = some b := ⟨_, List.getElem?_eq_getElem (by have := HL.out; omega)⟩
      have HA := Lib.hid ha
      have HBb := Lib.hid hb
      obtain ⟨bl, o, rfl, _, _, a0, a1⟩ := (H.out.below HB.out).at_ ha
      obtain ⟨bl', o', e', _, _, b0, b1⟩ := (H.out.below HB.out).at_ hb
      injection e' with e'
      injection e' with e1 e2
      subst e1 e2
      clear ha hb
      obtain ⟨j, hj⟩ : ∃ j, j = k - 1 := ⟨_, rfl⟩
      rw [← hj] at a0 a1 HA
      have hkj : IntKind.i64.wrap ((k : Int) - 1) = (j : Int) := by rw [IntKind.wrap_i64]; omega
      have hk0 : (0 : Int) ≤ (j : Int) := by omega
      have hkn : (j : Int) < (n : Int) := by omega
      have hk2 : (0 : Int) ≤ (k : Int) := by omega
      have hk3 : (k : Int) < (n : Int) := by omega
      have HJ := Lib.hid hj
      clear hj
      obtain ⟨q, hq⟩ : ∃ q, q = TM.less a b := ⟨_, rfl⟩
      have HQ := Lib.hid hq
      have C := Lib.hid (fun w => pless_any a b w)
      rw [← hq] at C
      clear hq
      obtain ⟨at_, ai⟩ := a
      obtain ⟨bt, bi⟩ := b
      unfold vsp at C
      simp only at a0 a1 b0 b1 C
      have HSS := Lib.hid (fun (W : World) (h : Below wr.heap.size wr W) => show W.cell? ⟨bl, o + j * 2, none⟩ = some (.int .i64 at_) ∧ W.cell? ⟨bl, o + j * 2 + 1, none⟩ = some (.int .i64 ai) ∧ W.cell? ⟨bl, o + k * 2, none⟩ = some (.int .i64 bt) ∧ W.cell? ⟨bl, o + k * 2 + 1, none⟩ = some (.int .i64 bi) from
        ⟨(h.cell (cell_block a0)).trans a0, (h.cell (cell_block a1)).trans a1, (h.cell (cell_block b0)).trans b0, (h.cell (cell_block b1)).trans b1⟩)
      have bb1 : Below wr.heap.size wr wr.drew := (Below.refl _ _).drew
      go_wp2_with fail
      go_region_held3 (fun W => W.cell? ⟨bl, o + j * 2, none⟩ = some (.int .i64 at_) ∧ W.cell? ⟨bl, o + j * 2 + 1, none⟩ = some (.int .i64 ai) ∧ W.cell? ⟨bl, o + k * 2, none⟩ = some (.int .i64 bt) ∧ W.cell? ⟨bl, o + k * 2 + 1, none⟩ = some (.int .i64 bi))
        (first | exact HSS.out _ bb1 | exact HSS.out _ hb3 | go_keep)
        ((go_at_call 15; refine (C.out _).mono ?_; rintro e w5 ⟨rfl, hb⟩; have hb3 := bmore bb1 hb (Nat.le_refl _)))
      all_goals
        have HN := Lib.hid (bmore HB.out hb3 (Nat.le_refl _))
        clear hb3 hb bb1 HSS a0 a1 b0 b1 C
        rcases q with _ | _
        · simp only [Bool.not_false]
          have HF := Lib.hid (show r = false by
            rw [HR.out]
            exact seen_no hk1 (by rw [← HJ.out]; exact HA.out) HBb.out HQ.out.symm)
          go_wp2_with fail
          go_ret
          exact ⟨by rw [HF.out]; rfl, HN.out⟩
        · simp only [Bool.not_true]
          have HF := Lib.hid (HSn.out.next hk1 (by rw [← HJ.out]; exact HA.out) HBb.out HQ.out.symm)
          go_wp2_with fail
          go_roundw
          case rel => exact ⟨k + 1, by omega, by omega, by go_num, HN.out, HF⟩
          case measure => simp [intOf]; omega
    · go_wp2_with fail
      go_ret
      exact ⟨by rw [HR.out, HSn.out.all (by have := HL.out; omega)]; rfl, HB.out⟩
end Go.Proofs.Yteenodmkpdcbaaa.TP
