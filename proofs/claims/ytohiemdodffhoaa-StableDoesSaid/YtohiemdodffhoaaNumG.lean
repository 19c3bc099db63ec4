/-
  What num.Get does: for whatever bytes it answers what the plain function dec says, and writes nothing. Conditions: the slice reads as bytes.
-/
import Derived.Test.YtohiemdodffhoaaRows
import Derived.Test.YtohiemdodffhoaaMem
import Derived.Test.YtohiemdodffhoaaNumMath
import Derived.Test.YtohiemdodffhoaaNumBits
import Derived.Outline
namespace Go.Proofs.Ytohiemdodffhoaa
open Go.RowKit
set_option linter.unusedVariables false
set_option maxRecDepth 100000

def getRes : Option (Nat × Nat) → Value
  | none => .tuple #[.int .i64 0, .int .i64 0, .int .i64 8]
  | some (n, k) => .tuple #[.int .i64 n, .int .i64 k, .int .i64 0]

set_option maxHeartbeats 1000000 in
theorem get_any (A : Option Addr) (n c : Nat) (l : List UInt8) (w : World) (hr : Rd w A n (bc l)) (hm : n ≤ maxLen) :
    Calls Try.prog 87 #[.slice A n c] w fun e w' => e = .returned (getRes (NM.dec l)) ∧ w = w' := by
  unfold maxLen at hm
  have hl : l.length = n := by have := hr.1; rwa [bc_length] at this
  have HL := Lib.hid hl; clear hl
  go_enter Try.func87, Try.ntmps87
  go_wp2
  go_loop [2, 3] (fun nv sv => ∃ k acc : Nat, k ≤ n ∧ k ≤ 6 ∧ sv = .int .i64 k ∧ nv = .int .i64 acc ∧ acc < 128 ^ k ∧ NM.lift acc k (NM.decR (6 - k) (l.drop k)) = NM.decR 6 l) (fun _ s => 6 - (intOf s).toNat)
  case atStart => exact ⟨0, 0, by omega, by omega, rfl, rfl, by simp, by rw [NM.lift_zero]; rfl⟩
  case round =>
    obtain ⟨k, acc, hk, hk6, rfl, rfl, hacc, hrel⟩ := hrel
    have HR := Lib.hid hrel; clear hrel
    by_cases hlt : k < n
    · by_cases hlt6 : k < 6
      · obtain ⟨ad, u, rfl, _, hu, hcell⟩ := hr.at_ hlt
        have hkl : k < l.length := by have := HL.out; omega
        rw [bc_get l k hkl] at hu
        injection hu with hu
        subst hu
        obtain ⟨p, hp⟩ : ∃ p, p = l[k].toNat := ⟨_, rfl⟩
        have hp256 : p < 256 := by rw [hp]; exact UInt8.toNat_lt _
        rw [← hp] at hcell
        have HP := Lib.hid hp; clear hp
        obtain ⟨x, hx⟩ : ∃ x, x = p % 128 := ⟨_, rfl⟩
        have hx128 : x < 128 := by omega
        obtain ⟨y, hy⟩ : ∃ y, y = 128 ^ k * x := ⟨_, rfl⟩
        obtain ⟨z, hz⟩ : ∃ z, z = acc + 128 ^ k * x := ⟨_, rfl⟩
        have hzs : z < 4398046511104 := by rw [hz]; exact NM.acc_small acc k x hacc hx128 hlt6
        have hb1 : bits .and .i64 (p : Int) 127 = (x : Int) := by rw [NB.and127 p (by omega), hx]
        have hb2 : wrap64 ((x : Int) * 2 ^ (7 * k)) = (y : Int) := by rw [NB.shl_wrap x k hx128 hlt6, hy]
        have hb3 : bits .or .i64 (acc : Int) (y : Int) = (z : Int) := by rw [hy, NB.or_add acc x k hacc hx128 hlt6, hz]
        have hb4 := NB.neq128 p hp256
        have hzl : z < 128 ^ (k + 1) := by rw [hz]; exact NM.acc_lt acc k x hacc hx128
        have HX := Lib.hid hx; clear hx
        have HY := Lib.hid hy; clear hy
        have HZ := Lib.hid hz; clear hz
        have HZL := Lib.hid hzl; clear hzl hacc
        by_cases h128 : 128 ≤ p
        · have hb5 : (bits .and .i64 (p : Int) 128 != 0) = true := by rw [hb4]; simpa using h128
          clear hb4
          go_wp2
          go_round
          case rel =>
            refine ⟨k + 1, z, by omega, by omega, by go_num, rfl, HZL.out, ?_⟩
            have e := NM.step_more acc k l _ hkl hlt6 HR.out (by have := HP.out; omega)
            rw [← HP.out, ← HX.out, ← HZ.out] at e
            exact e
          case measure => simp [intOf]; omega
        · have hb5 : (bits .and .i64 (p : Int) 128 != 0) = false := by rw [hb4]; simpa using h128
          clear hb4
          have hfin := NM.step_last acc k l hkl hlt6 HR.out (by have := HP.out; omega)
          rw [← HP.out, show p = x by have := HX.out; omega, ← HZ.out] at hfin
          have HFin := Lib.hid hfin; clear hfin
          by_cases hbig : 1099511627776 < z
          · go_wp2
            go_ret3
            refine ⟨?_, rfl⟩
            rw [HFin.out, if_pos (Or.inr hbig)]; rfl
          · have hbig' : z ≤ 1099511627776 := by omega
            by_cases hp0 : p = 0
            · have hp0' : ((p : Int) == 0) = true := by simp [hp0]
              have HX0 : x = 0 := by have := HX.out; omega
              have HXH := Lib.hid HX0; clear HX0
              have HP0 := Lib.hid hp0; clear hp0
              by_cases hk0 : 0 < k
              · go_wp2
                all_goals go_ret3
                all_goals refine ⟨?_, rfl⟩
                all_goals (rw [HFin.out, if_pos (Or.inl ⟨hk0, HXH.out⟩)]; rfl)
              · go_wp2
                all_goals go_ret3
                all_goals refine ⟨?_, rfl⟩
                all_goals (rw [HFin.out, if_neg (by omega)]; rfl)
            · have hp0' : ((p : Int) == 0) = false := by simp [hp0]
              have HXH : x ≠ 0 := by have := HX.out; omega
              go_wp2
              all_goals go_ret3
              all_goals refine ⟨?_, rfl⟩
              all_goals (rw [HFin.out, if_neg (by omega)]; rfl)
      · have hfin := NM.step_end acc k l (by omega) hk6 HR.out
        have HFin := Lib.hid hfin; clear hfin
        go_wp2
        go_ret3
        refine ⟨?_, rfl⟩
        rw [HFin.out]; rfl
    · have hfin := NM.step_end acc k l (by have := HL.out; omega) hk6 HR.out
      have HFin := Lib.hid hfin; clear hfin
      go_wp2
      go_ret3
      refine ⟨?_, rfl⟩
      rw [HFin.out]; rfl
end Go.Proofs.Ytohiemdodffhoaa
