/-
  The document's own MayMessage (towncrierref12). Conditions: as MgIs and MgFit say.
-/
import Derived.Test.YteebeiaokfenmaaGreatK11
namespace Go.Proofs.YteebeiaokfenmaaGreat.CP
open Go.RowKit
open CM (Mg Cm)
set_option linter.unusedVariables false
set_option linter.unusedSimpArgs false
set_option maxRecDepth 100000

theorem in_quiet (n a b : Int) (W : World) (v : Bool) (hv : decide (a ≤ n ∧ n < b) = v) (nq : Nat) : Calls Tryz.prog 77 #[.int .i64 n, .int .i64 a, .int .i64 b] (W.drewN nq) fun e w' => e = .returned (.bool v) ∧ ∃ m, w' = W.drewN m :=
  (In_any n a b (W.drewN nq)).mono fun e w' ⟨h1, h2⟩ => ⟨by rw [h1, hv], nq, h2⟩
set_option maxHeartbeats 8000000 in
theorem mayMessage_any (m : Mg) (v : Value) (w : World) (h : MgIs w v m) (hf : MgFit m) :
    Calls Tryz.prog 50 #[v] w (BoolIs (decide (CM.mgOk m)) w) := by
  obtain ⟨A, c, rfl, r1, r1c, r1m⟩ := h
  obtain ⟨mi, mg, mt, mk, mb⟩ := m
  obtain ⟨_, _, f1, f2⟩ := hf
  simp only at r1 r1c f1 f2
  unfold maxLen at r1m f1 f2
  have hiff : CM.mgOk ⟨mi, mg, mt, mk, mb⟩ ↔ (CM.idOk mi ∧ mg ≠ [] ∧ CM.riseG (-1) mg = true ∧ (0 ≤ mt ∧ mt < 4) ∧ mk.size ≤ 16 ∧ mb.size ≤ 64) := Iff.rfl
  have hno : ¬ (CM.idOk mi ∧ mg ≠ [] ∧ CM.riseG (-1) mg = true ∧ (0 ≤ mt ∧ mt < 4) ∧ mk.size ≤ 16 ∧ mb.size ≤ 64) → false = decide (CM.mgOk ⟨mi, mg, mt, mk, mb⟩) := fun h => by
    rw [decide_eq_false (fun e => h (hiff.1 e))]
  have hyes : (CM.idOk mi ∧ mg ≠ [] ∧ CM.riseG (-1) mg = true ∧ (0 ≤ mt ∧ mt < 4) ∧ mk.size ≤ 16 ∧ mb.size ≤ 64) → true = decide (CM.mgOk ⟨mi, mg, mt, mk, mb⟩) := fun h => by
    rw [decide_eq_true (hiff.2 h)]
  have HNO := Lib.hid hno
  have HYES := Lib.hid hyes
  clear hno hyes hiff
  generalize decide (CM.mgOk ⟨mi, mg, mt, mk, mb⟩) = r at HNO HYES ⊢
  show Calls _ _ #[.agg #[.int .i64 mi, .slice A mg.length c, .int .i64 mt, .string mk, .string mb]] _ _
  have hb0 : Below w.heap.size w (w.alloc (.cells #[.int .i64 mi, .slice A mg.length c, .int .i64 mt, .string mk, .string mb] 33)) := (Below.refl _ _).alloc (Nat.le_refl _) _
  have HX := Lib.hid (Box.new w 33 #[.int .i64 mi, .slice A mg.length c, .int .i64 mt, .string mk, .string mb])
  have HR := Lib.hid (r1.below hb0)
  have HB := Lib.hid hb0
  clear r1 hb0
  go_enter Tryz.func50, Tryz.ntmps50
  go_upto_region 1 with (fail)
  generalize w.alloc (.cells #[.int .i64 mi, .slice A mg.length c, .int .i64 mt, .string mk, .string mb] 33) = w1 at HX HR HB ⊢
  generalize w.heap.size = g0 at HX ⊢
  obtain ⟨x0, x1, x2, x3, x4⟩ := box_mg HX.out
  obtain ⟨rg, hrg⟩ : ∃ rg, rg = CM.riseG (-1) mg := ⟨_, rfl⟩
  rw [← hrg] at HNO HYES
  have HS := Lib.hid (show CM.riseG (-1) (mg.drop 0) = rg from hrg.symm)
  clear hrg
  go_wp2_with fail
  clear x0 x1 x2 x3 x4
  have G1 := Lib.hid HX.out.lt
  go_loopw [3] (fun i wr => ∃ (k : Nat) (p : Int), k ≤ mg.length ∧ i = .int .i64 k ∧ Hid (Below w1.heap.size w1 wr) ∧ Hid (CM.riseG p (mg.drop k) = rg) ∧ Hid (k = 0 ∧ p = -1 ∨ 0 < k ∧ -1 ≤ p ∧ mg[k - 1]? = some p)) (fun i _ => mg.length - (intOf i).toNat)
  case atStart => exact ⟨0, -1, by omega, rfl, Lib.hid (Below.refl _ _), HS, Lib.hid (.inl ⟨rfl, rfl⟩)⟩
  case round =>
    clear HS
    obtain ⟨k, p, hk, rfl, HW, HQ, HP⟩ := hrel
    obtain ⟨x0, x1, x2, x3, x4⟩ := box_mg (HX.out.below HW.out G1.out)
    have HRW := Lib.hid (HR.out.below HW.out)
    replace HB := Lib.hid (HB.out.trans (HW.out.mono HB.out.size))
    by_cases hlt : k < mg.length
    · obtain ⟨ad, u, rfl, _, hu, hcell⟩ := HRW.out.at_ hlt
      rw [ic_get mg k hlt] at hu
      injection hu with hu
      subst hu
      have hd := HQ.out
      rw [List.drop_eq_getElem_cons hlt] at hd
      have hzg : mg[k + 1 - 1]? = some mg[k] := by rw [Nat.add_sub_cancel]; exact List.getElem?_eq_getElem hlt
      obtain ⟨z, hz⟩ : ∃ z, z = mg[k] := ⟨_, rfl⟩
      rw [← hz] at hcell hd hzg
      clear hz HQ
      have HZG := Lib.hid hzg; clear hzg
      have hk0 : (0 : Int) ≤ (k : Int) := by omega
      have hkn : (k : Int) < (mg.length : Int) := by omega
      by_cases hin : 0 ≤ z ∧ z < 4
      · have C := Lib.hid (in_quiet z 0 4 wr true (by simp; exact hin))
        have HIN := Lib.hid hin; clear hin
        rcases HP.out with ⟨hk1, hp⟩ | ⟨hk1, hp, hpz⟩
        · have HD := Lib.hid ((rise_up (by have := HIN.out; omega) HIN.out.2).symm.trans hd)
          have hq1 : decide ((0 : Int) < (k : Int)) = false := by simp; omega
          have hq2 : decide (0 < k) = false := by simp; omega
          clear HP hk1 hp hd
          go_wp2_with fail
          go_quiet ((go_at_call 77; with_reducible exact C.out _))
          go_wp2_with fail
          go_roundw
          case rel => exact ⟨k + 1, z, by omega, by go_num, Lib.hid (below_drewN HW.out _), HD, Lib.hid (.inr ⟨by omega, by have := HIN.out; omega, HZG.out⟩)⟩
          case measure => simp [intOf]; omega
        · have hkz1 : k - 1 < mg.length := by omega
          obtain ⟨ad2, u2, hA2, _, hu2, hcell2⟩ := HRW.out.at_ hkz1
          injection hA2 with hA2
          subst hA2
          have hu3 : u2 = .int .i64 p := by
            have : (ic mg)[k - 1]? = some (.int .i64 p) := by unfold ic; rw [List.getElem?_map, hpz]; rfl
            rw [this] at hu2
            injection hu2 with hu2
            exact hu2.symm
          subst hu3
          clear hu2 hkz1 hpz HP
          have hq1 : decide (0 < k) = true := by simp; omega
          have hq2 : decide ((0 : Int) < (k : Int)) = true := by simp; omega
          have s1 : IntKind.i64.wrap ((k : Int) - 1) = (k : Int) - 1 := IntWalk.i64_in _ ⟨by omega, by omega⟩
          have s2 : (0 : Int) ≤ (k : Int) - 1 := by omega
          have s3 : ((k : Int) - 1).toNat = k - 1 := by omega
          have s4 : (k : Int) - 1 < (mg.length : Int) := by omega
          by_cases hpl : p < z
          · have HD := Lib.hid ((rise_up hpl HIN.out.2).symm.trans hd)
            have b2 : decide (z ≤ p) = false := by simp; omega
            clear hd
            go_wp2_with fail
            go_quiet ((go_at_call 77; with_reducible exact C.out _))
            clear s1 s3
            go_wp2_with fail
            go_roundw
            case rel => exact ⟨k + 1, z, by omega, by go_num, Lib.hid (below_drewN HW.out _), HD, Lib.hid (.inr ⟨by omega, by have := HIN.out; omega, HZG.out⟩)⟩
            case measure => simp [intOf]; omega
          · have HD := Lib.hid ((rise_le (by omega)).symm.trans hd)
            have b2 : decide (z ≤ p) = true := by simp; omega
            clear hd
            go_wp2_with fail
            go_quiet ((go_at_call 77; with_reducible exact C.out _))
            clear s1 s3
            go_wp2_with fail
            go_ret
            exact bool_ret (HNO.out (fun h => by have := h.2.2.1; rw [← HD.out] at this; cases this)) (below_drewN HB.out _)
      · have C := Lib.hid (in_quiet z 0 4 wr false (by simpa using hin))
        have HD := Lib.hid ((rise_no hin (by rcases HP.out with ⟨_, h⟩ | ⟨_, h, _⟩ <;> omega)).symm.trans hd)
        clear hd hin HP
        go_wp2_with fail
        go_quiet ((go_at_call 77; with_reducible exact C.out _))
        go_wp2_with fail
        go_ret
        exact bool_ret (HNO.out (fun h => by have := h.2.2.1; rw [← HD.out] at this; cases this)) (below_drewN HB.out _)
    · have hrg : rg = true := by
        have := HQ.out
        rw [List.drop_of_length_le (by omega)] at this
        rw [← this]; rfl
      subst hrg
      clear HQ HP
      have CI := Lib.hid (Id_any mi)
      have CT := Lib.hid (In_any mt 0 4)
      by_cases g1 : mg = []
      · have HF := Lib.hid (HNO.out (fun h => h.2.1 g1))
        have b1 : mg.length = 0 := by rw [g1]; rfl
        have b2 : (0 : Int) < (mg.length : Int) → False := fun h => by omega
        clear g1 HNO HYES
        go_wp2_with fail
        go_ret
        exact bool_ret HF.out HB.out
      have b1 : (0 : Int) < (mg.length : Int) := by have := List.length_pos_iff.2 g1; omega
      go_wp2_with fail
      refine (CI.out _).mono ?_
      rintro e w2 ⟨rfl, rfl⟩
      by_cases g2 : CM.idOk mi
      rotate_left
      · have HF := Lib.hid (HNO.out (fun h => g2 h.1))
        rw [decide_eq_false g2]
        clear g2 HNO HYES
        go_wp2_with fail
        go_ret
        exact bool_ret HF.out HB.out
      rw [decide_eq_true g2]
      go_wp2_with fail
      refine (CT.out _).mono ?_
      rintro e w2 ⟨rfl, rfl⟩
      by_cases g3 : 0 ≤ mt ∧ mt < 4
      rotate_left
      · have HF := Lib.hid (HNO.out (fun h => g3 h.2.2.2.1))
        rw [decide_eq_false g3]
        clear g3 HNO HYES
        go_wp2_with fail
        go_ret
        exact bool_ret HF.out HB.out
      rw [decide_eq_true g3]
      by_cases g4 : mk.size ≤ 16
      rotate_left
      · have HF := Lib.hid (HNO.out (fun h => g4 h.2.2.2.2.1))
        have b4 : decide ((mk.size : Int) ≤ 16) = false := by simp; omega
        clear HNO HYES
        go_wp2_with fail
        go_ret
        exact bool_ret HF.out HB.out
      have b4 : decide ((mk.size : Int) ≤ 16) = true := by simp; omega
      by_cases g5 : mb.size ≤ 64
      rotate_left
      · have HF := Lib.hid (HNO.out (fun h => g5 h.2.2.2.2.2))
        have b5 : decide ((mb.size : Int) ≤ 64) = false := by simp; omega
        clear HNO HYES
        go_wp2_with fail
        go_ret
        exact bool_ret HF.out HB.out
      have b5 : decide ((mb.size : Int) ≤ 64) = true := by simp; omega
      have HF := Lib.hid (HYES.out ⟨g2, g1, by simp, g3, g4, g5⟩)
      clear HNO HYES
      go_wp2_with fail
      go_ret
      exact bool_ret HF.out HB.out
end Go.Proofs.YteebeiaokfenmaaGreat.CP
