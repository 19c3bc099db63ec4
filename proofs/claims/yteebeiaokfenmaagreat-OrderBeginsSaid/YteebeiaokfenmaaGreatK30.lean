/-
  What the document's own functions of layer 1 (towncrierref01) do: In. Conditions: as each theorem says.
  What the document's own Get and GetText (towncrierref01) do: for whatever bytes they answer what the plain functions dec and getText say. Conditions: the slice reads as bytes.
  What the document's own GetText (towncrierref01) does. Conditions: the slice reads as bytes.
  The document's own SameInts (towncrierref01) of two lists of the same ints. Conditions: the slices read as ints.
  What the document's own GetInts (towncrierref01) does. Conditions: the slice reads as bytes.
-/
import Derived.Test.YteebeiaokfenmaaGreatK18
import Derived.Test.YteebeiaokfenmaaGreatProg
import Derived.Test.YteebeiaokfenmaaGreatK01
import Derived.Deep.QuietTactic
import Derived.BigQuiet
namespace Go.Proofs.YteebeiaokfenmaaGreat
open Go.RowKit
set_option linter.unusedVariables false
set_option maxRecDepth 100000

theorem refIn_yes (n : Int) (w : World) (h : 0 ≤ n ∧ n ≤ 1099511627776) :
    Calls Tryz.prog 167 #[.int .i64 n] w fun e w' => e = .returned (.bool true) ∧ w = w' := by
  obtain ⟨h1, h2⟩ := h
  go_enter Tryz.func167, Tryz.ntmps167
  go_wp2
  go_ret
  exact ⟨rfl, rfl⟩
theorem refIn_no (n : Int) (w : World) (h : ¬ (0 ≤ n ∧ n ≤ 1099511627776)) :
    Calls Tryz.prog 167 #[.int .i64 n] w fun e w' => e = .returned (.bool false) ∧ w = w' := by
  by_cases h1 : 0 ≤ n
  · have h2 : decide (n ≤ 1099511627776) = false := by simp; omega
    clear h
    go_enter Tryz.func167, Tryz.ntmps167
    go_wp2
    go_ret
    exact ⟨rfl, rfl⟩
  · have h2 : n < 0 := by omega
    clear h h1
    go_enter Tryz.func167, Tryz.ntmps167
    go_wp2
    go_ret
    exact ⟨rfl, rfl⟩
end Go.Proofs.YteebeiaokfenmaaGreat

namespace Go.Proofs.YteebeiaokfenmaaGreat
open Go.RowKit
set_option linter.unusedVariables false
set_option maxRecDepth 100000

set_option maxRecDepth 100000 in
set_option maxHeartbeats 1000000 in
theorem refGet_any (A : Option Addr) (n c : Nat) (l : List UInt8) (w : World) (hr : Rd w A n (bc l)) (hm : n ≤ maxLen) :
    Calls Tryz.prog 158 #[.slice A n c] w fun e w' => e = .returned (getRes (NM.dec l)) ∧ w = w' := by
  unfold maxLen at hm
  have hl : l.length = n := by have := hr.1; rwa [bc_length] at this
  have HL := Lib.hid hl; clear hl
  go_enter Tryz.func158, Tryz.ntmps158
  go_wp2
  go_loop [5, 6, 7] (fun nv uv sv => ∃ k acc U : Nat, k ≤ n ∧ k ≤ 6 ∧ sv = .int .i64 k ∧ nv = .int .i64 acc ∧ uv = .int .i64 U ∧ U = 128 ^ k ∧ acc < 128 ^ k ∧ NM.lift acc k (NM.decR (6 - k) (l.drop k)) = NM.decR 6 l) (fun _ _ s => 6 - (intOf s).toNat)
  case atStart => exact ⟨0, 0, 1, by omega, by omega, rfl, rfl, rfl, rfl, by simp, by rw [NM.lift_zero]; rfl⟩
  case round =>
    obtain ⟨k, acc, U, hk, hk6, rfl, rfl, rfl, hU, hacc, hrel⟩ := hrel
    have HR := Lib.hid hrel; clear hrel
    by_cases hlt : k < n
    · by_cases hlt6 : k < 6
      · obtain ⟨ad, u, rfl, _, hu, hcell⟩ := hr.at_ hlt
        have hkl : k < l.length := by have := HL.out; omega
        rw [bc_get l k hkl] at hu
        injection hu with hu
        subst hu
        obtain ⟨p, hp⟩ : ∃ p, p = l[k].toNat := ⟨_, rfl⟩
        have hp256 : p < 256 := by rw [hp]; exact UInt8.toNat_lt _
        rw [← hp] at hcell
        have HP := Lib.hid hp; clear hp
        obtain ⟨x, hx⟩ : ∃ x, x = p % 128 := ⟨_, rfl⟩
        have hx128 : x < 128 := by omega
        obtain ⟨y, hy⟩ : ∃ y, y = 128 ^ k * x := ⟨_, rfl⟩
        obtain ⟨z, hz⟩ : ∃ z, z = acc + 128 ^ k * x := ⟨_, rfl⟩
        have hzs : z < 4398046511104 := by rw [hz]; exact NM.acc_small acc k x hacc hx128 hlt6
        have hzy : z = acc + y := by rw [hz, hy]
        have hUb : U ≤ 34359738368 := by
          rw [hU]
          have : (128 : Nat) ^ k ≤ 128 ^ 5 := Nat.pow_le_pow_right (by omega) (by omega)
          omega
        have hxi : (p : Int) % 128 = (x : Int) := by omega
        have hb2 : wrap64 ((p : Int) % 128 * (U : Int)) = (y : Int) := by
          rw [hxi, hU, hy]
          exact NB.mul_wrap x k hx128 hlt6
        have hyb : y < 4398046511104 := Nat.lt_of_le_of_lt (by rw [hzy]; exact Nat.le_add_left _ _) hzs
        have haccb : acc < 4398046511104 := Nat.lt_of_le_of_lt (by rw [hzy]; exact Nat.le_add_right _ _) hzs
        have hsum : (acc : Int) + (y : Int) = (z : Int) := by rw [hzy]; exact (Int.natCast_add _ _).symm
        have hzl : z < 128 ^ (k + 1) := by rw [hz]; exact NM.acc_lt acc k x hacc hx128
        have hU2 : U * 128 = 128 ^ (k + 1) := by rw [hU, Nat.pow_succ]
        have HX := Lib.hid hx; clear hx
        have HXI := Lib.hid hxi; clear hxi
        have HY := Lib.hid hy; clear hy
        have HZ := Lib.hid hz; clear hz hzy
        have HZL := Lib.hid hzl; clear hzl hacc
        have HU2 := Lib.hid hU2; clear hU2
        have HU := Lib.hid hU; clear hU
        by_cases h128 : 128 ≤ p
        · go_wp2_with fail
          go_round
          case rel =>
            refine ⟨k + 1, z, U * 128, by omega, by omega, by go_num, by go_num, by go_num, HU2.out, HZL.out, ?_⟩
            have e := NM.step_more acc k l _ hkl hlt6 HR.out (by have := HP.out; omega)
            rw [← HP.out, ← HX.out, ← HZ.out] at e
            exact e
          case measure => simp [intOf]; omega
        · have hfin := NM.step_last acc k l hkl hlt6 HR.out (by have := HP.out; omega)
          rw [← HP.out, show p = x by have := HX.out; omega, ← HZ.out] at hfin
          have HFin := Lib.hid hfin; clear hfin
          have h128' : p < 128 := by omega
          by_cases hz0 : 0 < k ∧ p = 0
          · obtain ⟨hk0, hp0⟩ := hz0
            have hp0' : ((p : Int) == 0) = true := by simp [hp0]
            have HX0 : x = 0 := by have := HX.out; omega
            have HXH := Lib.hid HX0; clear HX0
            have HP0 := Lib.hid hp0; clear hp0
            go_wp2_with fail
            go_ret3
            refine ⟨?_, rfl⟩
            rw [HFin.out, if_pos (Or.inl ⟨hk0, HXH.out⟩)]; rfl
          · have hsplit : k = 0 ∨ (0 < k ∧ ¬ p = 0) := by omega
            have hxk : ¬ (0 < k ∧ x = 0) := by have := HX.out; omega
            have HXK := Lib.hid hxk; clear hxk hz0
            by_cases hbig : 1099511627776 < z
            · rcases hsplit with hk00 | ⟨hk0, hp0⟩
              · have hk0 : k ≤ 0 := by omega
                clear hk00
                go_wp2_with (go_at_call 167; refine (refIn_no _ _ (by omega)).mono ?_; rintro e w' ⟨rfl, rfl⟩)
                go_ret3
                refine ⟨?_, rfl⟩
                rw [HFin.out, if_pos (Or.inr hbig)]; rfl
              · have hp0' : ((p : Int) == 0) = false := by simp [hp0]
                go_wp2_with (go_at_call 167; refine (refIn_no _ _ (by omega)).mono ?_; rintro e w' ⟨rfl, rfl⟩)
                go_ret3
                refine ⟨?_, rfl⟩
                rw [HFin.out, if_pos (Or.inr hbig)]; rfl
            · rcases hsplit with hk00 | ⟨hk0, hp0⟩
              · have hk0 : k ≤ 0 := by omega
                clear hk00
                go_wp2_with (go_at_call 167; refine (refIn_yes _ _ (by omega)).mono ?_; rintro e w' ⟨rfl, rfl⟩)
                go_ret3
                refine ⟨?_, rfl⟩
                rw [HFin.out, if_neg (by have := HXK.out; omega)]; rfl
              · have hp0' : ((p : Int) == 0) = false := by simp [hp0]
                go_wp2_with (go_at_call 167; refine (refIn_yes _ _ (by omega)).mono ?_; rintro e w' ⟨rfl, rfl⟩)
                go_ret3
                refine ⟨?_, rfl⟩
                rw [HFin.out, if_neg (by have := HXK.out; omega)]; rfl
      · have hfin := NM.step_end acc k l (by omega) hk6 HR.out
        have HFin := Lib.hid hfin; clear hfin hU hacc
        go_wp2
        go_ret3
        refine ⟨?_, rfl⟩
        rw [HFin.out]; rfl
    · have hfin := NM.step_end acc k l (by have := HL.out; omega) hk6 HR.out
      have HFin := Lib.hid hfin; clear hfin hU hacc
      go_wp2
      go_ret3
      refine ⟨?_, rfl⟩
      rw [HFin.out]; rfl
end Go.Proofs.YteebeiaokfenmaaGreat

namespace Go.Proofs.YteebeiaokfenmaaGreat
open Go.RowKit
set_option linter.unusedVariables false
set_option maxRecDepth 100000

set_option maxHeartbeats 1000000 in
theorem refGetText_any (A : Option Addr) (n c : Nat) (l : List UInt8) (w : World) (hr : Rd w A n (bc l)) (hnc : n ≤ c) (hm : c ≤ maxLen) :
    Calls Tryz.prog 160 #[.slice A n c] w fun e w' => e = .returned (textRes (NM.getText l)) ∧ w = w' := by
  have hg := refGet_any A n c l w hr (Nat.le_trans hnc hm)
  unfold maxLen at hm
  have hl : l.length = n := by have := hr.1; rwa [bc_length] at this
  have HL := Lib.hid hl; clear hl
  rcases hd : NM.dec l with _ | ⟨x, k⟩
  · rw [hd] at hg
    have hfin : NM.getText l = none := by unfold NM.getText; rw [hd]
    have HF := Lib.hid hfin; clear hfin hd
    have HG := Lib.hid hg; clear hg
    go_enter Tryz.func160, Tryz.ntmps160
    go_wp2_with (go_at_call 158; refine (HG.out).mono ?_; rintro e w' ⟨rfl, rfl⟩; unfold getRes)
    go_ret3
    rw [HF.out]
    exact ⟨rfl, rfl⟩
  · have hb := NM.dec_bound l x k hd
    rw [hd] at hg
    obtain ⟨hx, hk1, hkl, hk6, _⟩ := hb
    rw [HL.out] at hkl
    have hfin : NM.getText l = if x ≤ 4096 ∧ x ≤ n - k then some ((l.drop k).take x, k + x) else none := by unfold NM.getText; rw [hd]; simp only [HL.out]
    have HF := Lib.hid hfin; clear hfin hd
    have HG := Lib.hid hg; clear hg
    by_cases h1 : x ≤ 4096
    · by_cases h2 : x ≤ n - k
      · have hkx : k + x ≤ n := by omega
        have hc1 : ∀ cap, (convert 120 9 (.slice (Option.map (fun x => x.add k) A) x cap)).run Tryz.prog w = .ok (.string ⟨((l.drop k).take x).toArray⟩) w := fun cap =>
          run_string_of w _ _ 5 _ _ cap ((l.drop k).take x) Tryz.underlying120 Tryz.underlying5 Tryz.underlying9 (by rw [← bc_take, ← bc_drop]; exact hr.mid hkx)
        obtain ⟨t, ht⟩ : ∃ t, t = (l.drop k).take x := ⟨_, rfl⟩
        rw [← ht] at hc1
        have HT := Lib.hid ht; clear ht
        have HR := Lib.hid hr; clear hr
        by_cases hck : c = k
        · obtain rfl : x = 0 := by omega
          have hc2 : ∀ cap, (convert 120 9 (.slice A 0 cap)).run Tryz.prog w = .ok (.string ⟨t.toArray⟩) w := fun cap =>
            run_string_of w _ _ 5 _ _ cap t Tryz.underlying120 Tryz.underlying5 Tryz.underlying9 (by rw [HT.out]; simpa [bc] using Rd.nil)
          subst hck
          go_enter Tryz.func160, Tryz.ntmps160
          go_wp2_with (go_at_call 158; refine (HG.out).mono ?_; rintro e w' ⟨rfl, rfl⟩; unfold getRes)
          go_ret3
          rw [HF.out, if_pos (by omega), HT.out]
          exact ⟨rfl, rfl⟩
        · go_enter Tryz.func160, Tryz.ntmps160
          go_wp2_with (go_at_call 158; refine (HG.out).mono ?_; rintro e w' ⟨rfl, rfl⟩; unfold getRes)
          go_ret3
          rw [HF.out, if_pos (by omega), HT.out]
          exact ⟨rfl, rfl⟩
      · have h2' : (n : Int) - k < x := by omega
        go_enter Tryz.func160, Tryz.ntmps160
        go_wp2_with (go_at_call 158; refine (HG.out).mono ?_; rintro e w' ⟨rfl, rfl⟩; unfold getRes)
        go_ret3
        rw [HF.out, if_neg (by omega)]
        exact ⟨rfl, rfl⟩
    · go_enter Tryz.func160, Tryz.ntmps160
      go_wp2_with (go_at_call 158; refine (HG.out).mono ?_; rintro e w' ⟨rfl, rfl⟩; unfold getRes)
      go_ret3
      rw [HF.out, if_neg (by omega)]
      exact ⟨rfl, rfl⟩
end Go.Proofs.YteebeiaokfenmaaGreat

namespace Go.Proofs.YteebeiaokfenmaaGreat
open Go.RowKit
set_option linter.unusedVariables false
set_option maxRecDepth 100000

set_option maxHeartbeats 1000000 in
theorem same_ints (A B : Option Addr) (n ca cb : Nat) (zs : List Int) (w : World) (h1 : Rd w A n (ic zs)) (h2 : Rd w B n (ic zs)) (hm : n ≤ 9223372036854775807) :
    Calls Tryz.prog 76 #[.slice A n ca, .slice B n cb] w fun e w' => e = .returned (.bool true) ∧ ∃ q, w' = w.drewN q := by
  have hl : zs.length = n := by have := h1.1; rwa [ic_length] at this
  have HL := Lib.hid hl; clear hl
  have hne : ((n : Int) != (n : Int)) = false := by simp
  go_enter Tryz.func76, Tryz.ntmps76
  go_wp2
  go_loopw [5] (fun i wr => ∃ k q : Nat, k ≤ n ∧ i = .int .i64 k ∧ wr = w.drewN q) (fun i _ => n - (intOf i).toNat)
  case atStart => exact ⟨0, 0, by omega, rfl, rfl⟩
  case round =>
    obtain ⟨k, q, hk, rfl, rfl⟩ := hrel
    by_cases hlt : k < n
    · obtain ⟨ad1, u1, rfl, _, hu1, hcell1⟩ := h1.at_ hlt
      obtain ⟨ad2, u2, rfl, _, hu2, hcell2⟩ := h2.at_ hlt
      have hkz : k < zs.length := by have := HL.out; omega
      rw [ic_get zs k hkz] at hu1 hu2
      injection hu1 with hu1
      injection hu2 with hu2
      subst hu1
      subst hu2
      obtain ⟨z, hz⟩ : ∃ z, z = zs[k] := ⟨_, rfl⟩
      rw [← hz] at hcell1 hcell2
      have HZ := Lib.hid hz; clear hz
      have hk0 : (0 : Int) ≤ (k : Int) := by omega
      have hkn : (k : Int) < (n : Int) := by omega
      have hbz : (z != z) = false := by simp
      go_wp2_with fail
      go_quiet (fail)
      go_wp2_with fail
      go_roundw
      case rel => exact ⟨k + 1, q + nq, by omega, by go_num, by simp⟩
      case measure => simp [intOf]; omega
    · go_wp2
      go_ret
      exact ⟨rfl, q, rfl⟩
end Go.Proofs.YteebeiaokfenmaaGreat

namespace Go.Proofs.YteebeiaokfenmaaGreat
open Go.RowKit
set_option linter.unusedVariables false
set_option maxRecDepth 100000

theorem refGetInts_arg (A : Option Addr) (n c : Nat) (most : Int) (w : World) (hb : ¬ (0 ≤ most ∧ most ≤ 4096)) :
    Calls Tryz.prog 159 #[.slice A n c, .int .i64 most] w fun e w' => e = .returned (.tuple #[.slice none 0 0, .int .i64 0, .int .i64 2]) ∧ w = w' := by
  by_cases h1 : most < 0
  · clear hb
    go_enter Tryz.func159, Tryz.ntmps159
    go_wp2
    go_ret3
    exact ⟨rfl, rfl⟩
  · have h2 : 4096 < most := by omega
    have h3 : 0 ≤ most := by omega
    clear hb h1
    go_enter Tryz.func159, Tryz.ntmps159
    go_wp2
    go_ret3
    exact ⟨rfl, rfl⟩

set_option maxHeartbeats 2000000 in
theorem refGetInts_any (A : Option Addr) (n c most : Nat) (l : List UInt8) (w : World) (hr : Rd w A n (bc l)) (hnc : n ≤ c) (hm : c ≤ maxLen) (hmost : most ≤ 4096) :
    Calls Tryz.prog 159 #[.slice A n c, .int .i64 most] w (GetIntsPost w (NM.getInts l most)) := by
  obtain ⟨i0, hi, hz0, hz1, hz2⟩ := info_parts info_int
  have hg := refGet_any A n c l w hr (Nat.le_trans hnc hm)
  have hm2 : c ≤ 9223372036854775807 := by unfold maxLen at hm; omega
  have hl : l.length = n := by have := hr.1; rwa [bc_length] at this
  have HL := Lib.hid hl; clear hl
  have HM := Lib.hid hm; clear hm
  rcases hd : NM.dec l with _ | ⟨x, k⟩
  · rw [hd] at hg
    have hfin : NM.getInts l most = none := by unfold NM.getInts; rw [hd]
    have HF := Lib.hid hfin; clear hfin hd
    have HG := Lib.hid hg; clear hg
    go_enter Tryz.func159, Tryz.ntmps159
    go_wp2_with (go_at_call 158; refine (HG.out).mono ?_; rintro e w' ⟨rfl, rfl⟩; unfold getRes)
    go_ret3
    exact ⟨Below.refl _ _, .inl ⟨HF.out, rfl⟩⟩
  · have hb := NM.dec_bound l x k hd
    rw [hd] at hg
    obtain ⟨hx, hk1, hkl, hk6, hdrop⟩ := hb
    clear hdrop
    rw [HL.out] at hkl
    have HG := Lib.hid hg; clear hg
    by_cases h1 : x ≤ most
    · have hfin := NM.getInts_of l most x k hd h1
      obtain ⟨o, ho⟩ : ∃ o, o = NM.getInts l most := ⟨_, rfl⟩
      have hstart : GetIntsRel w l o x n 0 k (.slice none 0 0) w := ⟨[], rfl, by omega, hkl, by rw [ho, hfin]; rfl, World.ownsRow_nil _ _ _ _, Below.refl _ _⟩
      rw [← ho]
      clear hfin hd ho
      have HS := Lib.hid hstart; clear hstart
      have t1 : decide ((4096 : Int) < (most : Int)) = false := by simp; omega
      have t2 : decide ((most : Int) < (x : Int)) = false := by simp; omega
      have t3 : decide (most < x) = false := by simp; omega
      go_enter Tryz.func159, Tryz.ntmps159
      go_wp2_with (go_at_call 158; refine (HG.out).mono ?_; rintro e w' ⟨rfl, rfl⟩; unfold getRes)
      go_loopw [8, 10, 11] (fun s u t wr => ∃ i j : Nat, i ≤ x ∧ j ≤ n ∧ s = .int .i64 j ∧ t = .int .i64 i ∧ GetIntsRel w l o x n i j u wr) (fun _ _ t _ => x - (intOf t).toNat)
      case atStart => exact ⟨0, k, by omega, hkl, rfl, rfl, HS.out⟩
      case round =>
        clear HS HG
        obtain ⟨i, j, hix, hjn, rfl, rfl, hrel⟩ := hrel
        have hbel : Below w.heap.size w wr := by obtain ⟨pre, _, _, _, _, _, h⟩ := hrel; exact h
        have hr2 := hr.below hbel
        by_cases hlt : i < x
        · have hjl : ∃ ys, ys = l.drop j := ⟨_, rfl⟩
          obtain ⟨ys, hys⟩ := hjl
          rcases hd2 : NM.dec (l.drop j) with _ | ⟨y, q⟩
          · have hfin : o = none := by
              obtain ⟨pre, h1, h2, h3, h4, h5, h6⟩ := hrel
              rw [← h4, show x - i = (x - (i + 1)) + 1 by omega, NM.liftB_none _ _ _ _ hd2]
            have HF := Lib.hid hfin; clear hfin hrel
            have HB := Lib.hid hbel; clear hbel
            by_cases hcj : c = j
            · have hg2 : Calls Tryz.prog 158 #[.slice A 0 0] wr fun e w' => e = .returned (getRes none) ∧ wr = w' := by
                have := refGet_any A 0 0 [] wr Rd.nil (by omega)
                exact this
              subst hcj
              obtain rfl : n = c := by omega
              have HG2 := Lib.hid hg2; clear hg2 hr2 hd2 hys
              have HR := Lib.hid hr; clear hr
              go_wp2_with (go_at_call 158; refine (HG2.out).mono ?_; rintro e w' ⟨rfl, rfl⟩; unfold getRes)
              go_ret3
              exact ⟨HB.out, .inl ⟨HF.out, rfl⟩⟩
            · have hg2 := refGet_any (A.map (fun x => x.add j)) (n - j) (c - j) (l.drop j) wr (by rw [← bc_drop]; exact hr2.cutm hjn) (by have := HM.out; omega)
              rw [hd2] at hg2
              have HG2 := Lib.hid hg2; clear hg2 hr2 hd2 hys
              have HR := Lib.hid hr; clear hr
              go_wp2_with (go_at_call 158; refine (HG2.out).mono ?_; rintro e w' ⟨rfl, rfl⟩; unfold getRes)
              go_ret3
              exact ⟨HB.out, .inl ⟨HF.out, rfl⟩⟩
          · have hbd := NM.dec_bound _ y q hd2
            rw [List.length_drop, HL.out] at hbd
            obtain ⟨hy, hq1, hqn, hq6, hqd⟩ := hbd
            clear hqd hys
            have hcj : c ≠ j := by omega
            have hg2 := refGet_any (A.map (fun x => x.add j)) (n - j) (c - j) (l.drop j) wr (by rw [← bc_drop]; exact hr2.cutm hjn) (by have := HM.out; omega)
            rw [hd2] at hg2
            obtain ⟨pre, hrel⟩ := hrel
            have hown0 : wr.ownsRow w.heap.size 3 1 u10 i (ic (intsOf pre)) := hrel.2.2.2.2.1
            have hbs := hbel.size
            have HG2 := Lib.hid hg2; clear hg2 hr2
            have HR := Lib.hid hr; clear hr
            have HD := Lib.hid hd2; clear hd2
            have HRel := Lib.hid hrel; clear hrel
            go_wp2_with (first
              | (go_at_call 158; refine (HG2.out).mono ?_; rintro e w' ⟨rfl, rfl⟩; unfold getRes)
              | (at_builtin; refine wpList_append_rd _ rfl _ _ 31 rfl w.heap.size 3 i0 (.int .i64 0) 8 Tryz.underlying31 hi hz0 hz1 hz2 rfl _ _ _ rfl (hown0.alloc _) (some ⟨wr.heap.size, 0, none⟩) 1 1 [.int .i64 (y : Int)] rfl (rd_new _ _ _) (by intro u hu; simp at hu; subst hu; rfl) (by unfold maxLen; omega) (by omega) (by simp; omega) ?_; intro v2 w2 hown2 hg2 hob2))
            have hnext := getIntsRel_next HRel.out HL.out hlt HD.out hown2 hg2
            clear hown2 hg2 hob2
            go_roundw
            case rel => exact ⟨i + 1, j + q, by omega, by omega, by go_num, by go_num, hnext⟩
            case measure => simp [intOf]; omega
        · obtain ⟨pre, g1, g2, g3, h4, h5, h6⟩ := hrel
          obtain rfl : i = x := by omega
          rw [Nat.sub_self, NM.liftB_end] at h4
          have HF := Lib.hid h4; clear h4
          have H1 := Lib.hid g1; clear g1
          go_wp2
          go_ret3
          refine ⟨h6, .inr ⟨pre, j, _, HF.out.symm, rfl, ?_⟩⟩
          rw [H1.out]
          exact h5
    · have hfin : NM.getInts l most = none := by unfold NM.getInts; rw [hd]; simp only [if_neg h1]
      have HF := Lib.hid hfin; clear hfin hd
      go_enter Tryz.func159, Tryz.ntmps159
      go_wp2_with (go_at_call 158; refine (HG.out).mono ?_; rintro e w' ⟨rfl, rfl⟩; unfold getRes)
      go_ret3
      exact ⟨Below.refl _ _, .inl ⟨HF.out, rfl⟩⟩
end Go.Proofs.YteebeiaokfenmaaGreat
