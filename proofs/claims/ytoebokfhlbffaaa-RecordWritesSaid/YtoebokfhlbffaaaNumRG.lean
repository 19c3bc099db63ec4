/-
  What the document's own Get and GetText (towncrierref01) do: for whatever bytes they answer what the plain functions dec and getText say. Conditions: the slice reads as bytes.
-/
import Derived.Test.YtoebokfhlbffaaaNumR
namespace Go.Proofs.Ytoebokfhlbffaaa
open Go.RowKit
set_option linter.unusedVariables false

set_option maxRecDepth 100000 in
set_option maxHeartbeats 1000000 in
theorem refGet_any (A : Option Addr) (n c : Nat) (l : List UInt8) (w : World) (hr : Rd w A n (bc l)) (hm : n ≤ maxLen) :
    Calls Try.prog 35 #[.slice A n c] w fun e w' => e = .returned (getRes (NM.dec l)) ∧ w = w' := by
  unfold maxLen at hm
  have hl : l.length = n := by have := hr.1; rwa [bc_length] at this
  have HL := Lib.hid hl; clear hl
  go_enter Try.func35, Try.ntmps35
  go_wp2
  go_loop [5, 6, 7] (fun nv uv sv => ∃ k acc U : Nat, k ≤ n ∧ k ≤ 6 ∧ sv = .int .i64 k ∧ nv = .int .i64 acc ∧ uv = .int .i64 U ∧ U = 128 ^ k ∧ acc < 128 ^ k ∧ NM.lift acc k (NM.decR (6 - k) (l.drop k)) = NM.decR 6 l) (fun _ _ s => 6 - (intOf s).toNat)
  case atStart => exact ⟨0, 0, 1, by omega, by omega, rfl, rfl, rfl, rfl, by simp, by rw [NM.lift_zero]; rfl⟩
  case round =>
    obtain ⟨k, acc, U, hk, hk6, rfl, rfl, rfl, hU, hacc, hrel⟩ := hrel
    have HR := Lib.hid hrel; clear hrel
    by_cases hlt : k < n
    · by_cases hlt6 : k < 6
      · obtain ⟨ad, u, rfl, _, hu, hcell⟩ := hr.at_ hlt
        have hkl : k < l.length := by have := HL.out; omega
        rw [bc_get l k hkl] at hu
        injection hu with hu
        subst hu
        obtain ⟨p, hp⟩ : ∃ p, p = l[k].toNat := ⟨_, rfl⟩
        have hp256 : p < 256 := by rw [hp]; exact UInt8.toNat_lt _
        rw [← hp] at hcell
        have HP := Lib.hid hp; clear hp
        obtain ⟨x, hx⟩ : ∃ x, x = p % 128 := ⟨_, rfl⟩
        have hx128 : x < 128 := by omega
        obtain ⟨y, hy⟩ : ∃ y, y = 128 ^ k * x := ⟨_, rfl⟩
        obtain ⟨z, hz⟩ : ∃ z, z = acc + 128 ^ k * x := ⟨_, rfl⟩
        have hzs : z < 4398046511104 := by rw [hz]; exact NM.acc_small acc k x hacc hx128 hlt6
        have hzy : z = acc + y := by rw [hz, hy]
        have hUb : U ≤ 34359738368 := by
          rw [hU]
          have : (128 : Nat) ^ k ≤ 128 ^ 5 := Nat.pow_le_pow_right (by omega) (by omega)
          omega
        have hxi : (p : Int) % 128 = (x : Int) := by omega
        have hb2 : wrap64 ((p : Int) % 128 * (U : Int)) = (y : Int) := by
          rw [hxi, hU, hy]
          exact NB.mul_wrap x k hx128 hlt6
        have hyb : y < 4398046511104 := Nat.lt_of_le_of_lt (by rw [hzy]; exact Nat.le_add_left _ _) hzs
        have haccb : acc < 4398046511104 := Nat.lt_of_le_of_lt (by rw [hzy]; exact Nat.le_add_right _ _) hzs
        have hsum : (acc : Int) + (y : Int) = (z : Int) := by rw [hzy]; exact (Int.natCast_add _ _).symm
        have hzl : z < 128 ^ (k + 1) := by rw [hz]; exact NM.acc_lt acc k x hacc hx128
        have hU2 : U * 128 = 128 ^ (k + 1) := by rw [hU, Nat.pow_succ]
        have HX := Lib.hid hx; clear hx
        have HXI := Lib.hid hxi; clear hxi
        have HY := Lib.hid hy; clear hy
        have HZ := Lib.hid hz; clear hz hzy
        have HZL := Lib.hid hzl; clear hzl hacc
        have HU2 := Lib.hid hU2; clear hU2
        have HU := Lib.hid hU; clear hU
        by_cases h128 : 128 ≤ p
        · go_wp2_with fail
          go_round
          case rel =>
            refine ⟨k + 1, z, U * 128, by omega, by omega, by go_num, by go_num, by go_num, HU2.out, HZL.out, ?_⟩
            have e := NM.step_more acc k l _ hkl hlt6 HR.out (by have := HP.out; omega)
            rw [← HP.out, ← HX.out, ← HZ.out] at e
            exact e
          case measure => simp [intOf]; omega
        · have hfin := NM.step_last acc k l hkl hlt6 HR.out (by have := HP.out; omega)
          rw [← HP.out, show p = x by have := HX.out; omega, ← HZ.out] at hfin
          have HFin := Lib.hid hfin; clear hfin
          have h128' : p < 128 := by omega
          by_cases hz0 : 0 < k ∧ p = 0
          · obtain ⟨hk0, hp0⟩ := hz0
            have hp0' : ((p : Int) == 0) = true := by simp [hp0]
            have HX0 : x = 0 := by have := HX.out; omega
            have HXH := Lib.hid HX0; clear HX0
            have HP0 := Lib.hid hp0; clear hp0
            go_wp2_with fail
            go_ret3
            refine ⟨?_, rfl⟩
            rw [HFin.out, if_pos (Or.inl ⟨hk0, HXH.out⟩)]; rfl
          · have hsplit : k = 0 ∨ (0 < k ∧ ¬ p = 0) := by omega
            have hxk : ¬ (0 < k ∧ x = 0) := by have := HX.out; omega
            have HXK := Lib.hid hxk; clear hxk hz0
            by_cases hbig : 1099511627776 < z
            · rcases hsplit with hk00 | ⟨hk0, hp0⟩
              · have hk0 : k ≤ 0 := by omega
                clear hk00
                go_wp2_with (go_at_call 38; refine (refIn_no _ _ (by omega)).mono ?_; rintro e w' ⟨rfl, rfl⟩)
                go_ret3
                refine ⟨?_, rfl⟩
                rw [HFin.out, if_pos (Or.inr hbig)]; rfl
              · have hp0' : ((p : Int) == 0) = false := by simp [hp0]
                go_wp2_with (go_at_call 38; refine (refIn_no _ _ (by omega)).mono ?_; rintro e w' ⟨rfl, rfl⟩)
                go_ret3
                refine ⟨?_, rfl⟩
                rw [HFin.out, if_pos (Or.inr hbig)]; rfl
            · rcases hsplit with hk00 | ⟨hk0, hp0⟩
              · have hk0 : k ≤ 0 := by omega
                clear hk00
                go_wp2_with (go_at_call 38; refine (refIn_yes _ _ (by omega)).mono ?_; rintro e w' ⟨rfl, rfl⟩)
                go_ret3
                refine ⟨?_, rfl⟩
                rw [HFin.out, if_neg (by have := HXK.out; omega)]; rfl
              · have hp0' : ((p : Int) == 0) = false := by simp [hp0]
                go_wp2_with (go_at_call 38; refine (refIn_yes _ _ (by omega)).mono ?_; rintro e w' ⟨rfl, rfl⟩)
                go_ret3
                refine ⟨?_, rfl⟩
                rw [HFin.out, if_neg (by have := HXK.out; omega)]; rfl
      · have hfin := NM.step_end acc k l (by omega) hk6 HR.out
        have HFin := Lib.hid hfin; clear hfin hU hacc
        go_wp2
        go_ret3
        refine ⟨?_, rfl⟩
        rw [HFin.out]; rfl
    · have hfin := NM.step_end acc k l (by have := HL.out; omega) hk6 HR.out
      have HFin := Lib.hid hfin; clear hfin hU hacc
      go_wp2
      go_ret3
      refine ⟨?_, rfl⟩
      rw [HFin.out]; rfl
end Go.Proofs.Ytoebokfhlbffaaa
