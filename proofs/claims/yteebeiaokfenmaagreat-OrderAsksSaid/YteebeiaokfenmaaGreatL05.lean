/- Contracts of functions, L05: each as its theorem says. -/
import Derived.Lib.Strings
import Derived.Lib.Slices
import Derived.Lib.Small
import Derived.Test.YteebeiaokfenmaaGreatL04
import Derived.SliceStrings
set_option linter.unusedVariables false
set_option linter.unusedSimpArgs false
set_option maxRecDepth 100000
set_option maxHeartbeats 16000000
namespace Go.Proofs.YteebeiaokfenmaaGreat
section
open Go.RowKit
theorem rHas_any (A : Option Addr) (n c : Nat) (zs : List Int) (x : Int) (w : World) (hr : Rd w A n (ic zs)) (hm : n ≤ 9223372036854775807) :
  Calls Tryz.prog 117 #[.slice A n c, .int .i64 x] w fun e w' => e = .returned (.bool (QM.has zs x)) ∧ w = w' := by
 have hl : zs.length = n := by have := hr.1; rwa [ic_length] at this
 obtain ⟨r, hrr⟩ : ∃ r, r = QM.has zs x := ⟨_, rfl⟩
 have hst : QM.has (zs.drop 0) x = r := hrr.symm
 rw [← hrr]
 have HL := h! hl; clear hl
 have HS := h! hst; clear hst hrr
 go_enter Tryz.func117, Tryz.ntmps117
 go_wp2
 go_loop [5] (fun i => ∃ k : Nat, k ≤ n ∧ i = .int .i64 k ∧ Hid (QM.has (zs.drop k) x = r)) (fun i => n - (intOf i).toNat)
 case atStart => exact ⟨0, by omega, rfl, HS⟩
 case round =>
  clear HS
  obtain ⟨k, hk, rfl, HR⟩ := hrel
  by_cases hlt : k < n
  ·have hkz : k < zs.length := by have := HL.out; omega
   obtain ⟨ad, u, rfl, _, hu, hcell⟩ := hr.at_ hlt
   rw [ic_get zs k hkz] at hu
   injection hu with hu
   subst hu
   have hd := HR.out
   rw [List.drop_eq_getElem_cons hkz] at hd
   obtain ⟨z, hz⟩ : ∃ z, z = zs[k] := ⟨_, rfl⟩
   rw [← hz] at hcell hd
   clear hz HR
   by_cases h1 : x = z
   ·have hd' : true = r := by rw [← hd]; simp [QM.has, h1]
    clear hd
    have HD := h! hd'; clear hd'
    subst h1
    have h2 : (x == x) = true := by simp
    go_wp2
    go_ret
    exact ⟨ret_eq HD.out, rfl⟩
   ·have hd' : QM.has (zs.drop (k + 1)) x = r := by
     rw [← hd]
     unfold QM.has
     simp [h1]
    clear hd
    have HD := h! hd'; clear hd'
    have h2 : (z == x) = false := by simpa using fun h => h1 h.symm
    clear h1
    go_wp2
    go_round
    case rel => exact ⟨k + 1, by omega, by go_num, HD⟩
    case measure => simp [intOf]; omega
  ·have hd := HR.out
   rw [List.drop_of_length_le (by have := HL.out; omega)] at hd
   have hd' : false = r := by rw [← hd]; simp [QM.has]
   clear hd
   have HD := h! hd'; clear hd'
   go_wp2
   go_ret
   exact ⟨ret_eq HD.out, rfl⟩
def MayPost (b : Bool) (w : World) (e : Ending) (w' : World) : Prop := e = .returned (.bool b) ∧ ∃ q, w' = w.drewN q
theorem rMay_any (A : Option Addr) (n c : Nat) (zs : List Int) (w : World) (hr : Rd w A n (ic zs)) (hm : n ≤ 9223372036854775807) :
  Calls Tryz.prog 161 #[.slice A n c] w (MayPost (QM.may zs) w) := by
 have hl : zs.length = n := by have := hr.1; rwa [ic_length] at this
 obtain ⟨r, hrr⟩ : ∃ r, r = QM.rise (-1) zs := ⟨_, rfl⟩
 have hmay : QM.may zs = (decide (1 ≤ n) && (decide (n ≤ 6) && r)) := by unfold QM.may; rw [hl, hrr]
 have hst : QM.rise (-1) (zs.drop 0) = r := hrr.symm
 generalize QM.may zs = o at hmay
 have HO := h! hmay; clear hmay
 have HL := h! hl; clear hl
 have HS := h! hst; clear hst hrr
 go_enter Tryz.func161, Tryz.ntmps161
 go_wp2
 go_loopw [3] (fun i wr => ∃ (k q : Nat) (p : Int), k ≤ n ∧ i = .int .i64 k ∧ wr = w.drewN q ∧ Hid (QM.rise p (zs.drop k) = r) ∧ Hid (k = 0 ∧ p = -1 ∨ 0 < k ∧ -1 ≤ p ∧ zs[k - 1]? = some p)) (fun i _ => n - (intOf i).toNat)
 case atStart => exact ⟨0, 0, -1, by omega, rfl, rfl, HS, h! (.inl ⟨rfl, rfl⟩)⟩
 case round =>
  clear HS
  obtain ⟨k, q, p, hk, rfl, rfl, HR, HP⟩ := hrel
  by_cases hlt : k < n
  ·have hkz : k < zs.length := by have := HL.out; omega
   obtain ⟨ad, u, rfl, _, hu, hcell⟩ := hr.at_ hlt
   rw [ic_get zs k hkz] at hu
   injection hu with hu
   subst hu
   have hd := HR.out
   rw [List.drop_eq_getElem_cons hkz] at hd
   have hzg : zs[k + 1 - 1]? = some zs[k] := by rw [Nat.add_sub_cancel]; exact List.getElem?_eq_getElem hkz
   obtain ⟨z, hz⟩ : ∃ z, z = zs[k] := ⟨_, rfl⟩
   rw [← hz] at hcell hd hzg
   clear hz HR
   simp only [QM.rise] at hd
   have HG := h! hzg; clear hzg
   by_cases h0 : z < 0
   ·have hd' : false = r := by
     rw [← hd]
     have : ¬ p < z := by
      rcases HP.out with ⟨_, rfl⟩ | ⟨_, h, _⟩ <;> omega
     simp [this]
    have ho : false = o := by have := HO.out; rw [← hd'] at this; simpa using this.symm
    clear hd hd'
    have HD := h! ho; clear ho
    have b0 : decide (z < 0) = true := by simp; omega
    go_wp2_with fail
    go_quiet (fail)
    go_wp2
    go_ret
    exact ⟨ret_eq HD.out, _, World.drewN_drewN _ _ _⟩
   ·by_cases h6 : 6 ≤ z
    ·have hd' : false = r := by
      rw [← hd]
      have : ¬ z < 6 := by omega
      simp [this]
     have ho : false = o := by have := HO.out; rw [← hd'] at this; simpa using this.symm
     clear hd hd'
     have HD := h! ho; clear ho
     have b0 : decide (z < 0) = false := by simp; omega
     have b1 : decide (6 ≤ z) = true := by simp; omega
     clear h0 h6
     go_wp2_with fail
     go_quiet (fail)
     go_wp2
     go_ret
     exact ⟨ret_eq HD.out, _, World.drewN_drewN _ _ _⟩
    ·have h0' : 0 ≤ z := by omega
     have h6' : z < 6 := by omega
     have b0 : decide (z < 0) = false := by simp; omega
     have b1 : decide (6 ≤ z) = false := by simp; omega
     clear h0 h6
     rcases HP.out with ⟨hk0, hp⟩ | ⟨hk0, hp, hpz⟩
     ·have hd' : QM.rise z (zs.drop (k + 1)) = r := by
       rw [← hd]
       have : p < z := by omega
       simp [this, h6']
      clear hd HP hp
      have HD := h! hd'; clear hd'
      have hq1 : decide (0 < k) = false := by simp; omega
      have hq2 : decide ((0 : Int) < (k : Int)) = false := by simp; omega
      clear hk0
      go_wp2_with fail
      go_quiet (fail)
      go_wp2
      go_roundw
      case rel => exact ⟨k + 1, q + nq, z, by omega, by go_num, rfl, HD, h! (.inr ⟨by omega, by omega, HG.out⟩)⟩
      case measure => simp [intOf]; omega
     ·have hkz1 : k - 1 < n := by omega
      obtain ⟨ad2, u2, hA2, _, hu2, hcell2⟩ := hr.at_ hkz1
      injection hA2 with hA2
      subst hA2
      have hu3 : u2 = .int .i64 p := by
       have : (ic zs)[k - 1]? = some (.int .i64 p) := by unfold ic; rw [List.getElem?_map, hpz]; rfl
       rw [this] at hu2
       injection hu2 with hu2
       exact hu2.symm
      subst hu3
      clear hu2 hkz1
      have hq1 : decide (0 < k) = true := by simp; omega
      have hq2 : decide ((0 : Int) < (k : Int)) = true := by simp; omega
      have s1 : IntKind.i64.wrap ((k : Int) - 1) = (k : Int) - 1 := IntWalk.i64_in _ ⟨by omega, by omega⟩
      have s2 : (0 : Int) ≤ (k : Int) - 1 := by omega
      have s3 : ((k : Int) - 1).toNat = k - 1 := by omega
      have s4 : (k : Int) - 1 < (n : Int) := by omega
      by_cases hpl : p < z
      ·have hd' : QM.rise z (zs.drop (k + 1)) = r := by
        rw [← hd]
        simp [hpl, h6']
       have b2 : decide (z ≤ p) = false := by simp; omega
       clear hd HP hpz
       have HD := h! hd'; clear hd'
       go_wp2_with fail
       go_quiet (fail)
       clear s1 s3
       go_wp2
       go_roundw
       case rel => exact ⟨k + 1, q + nq, z, by omega, by go_num, rfl, HD, h! (.inr ⟨by omega, by omega, HG.out⟩)⟩
       case measure => simp [intOf]; omega
      ·have hd' : false = r := by
        rw [← hd]
        simp [hpl]
       have ho : false = o := by have := HO.out; rw [← hd'] at this; simpa using this.symm
       have b2 : decide (z ≤ p) = true := by simp; omega
       clear hd hd' HP hpz
       have HD := h! ho; clear ho
       go_wp2_with fail
       go_quiet (fail)
       clear s1 s3
       go_wp2
       go_ret
       exact ⟨ret_eq HD.out, _, World.drewN_drewN _ _ _⟩
  ·have hd := HR.out
   rw [List.drop_of_length_le (by have := HL.out; omega)] at hd
   have ho : (decide (1 ≤ n) && decide (n ≤ 6)) = o := by have := HO.out; rw [← hd] at this; rw [this]; simp [QM.rise]
   have HD := h! ho; clear ho hd
   by_cases h1 : 1 ≤ n
   ·by_cases h6 : n ≤ 6
    ·have ht : true = o := by rw [← HD.out]; simp [h1, h6]
     clear HD
     have HD := h! ht; clear ht
     go_wp2
     go_ret
     exact ⟨ret_eq (by rw [← HD.out]; simp; omega), _, rfl⟩
    ·have ht : false = o := by rw [← HD.out]; simp [h6]
     clear HD
     have HD := h! ht; clear ht
     go_wp2
     go_ret
     exact ⟨ret_eq (by rw [← HD.out]; simp; omega), _, rfl⟩
   ·have ht : false = o := by rw [← HD.out]; simp [h1]
    clear HD
    have HD := h! ht; clear ht
    go_wp2
    go_ret
    exact ⟨ret_eq HD.out, _, rfl⟩
theorem rise_any (A : Option Addr) (n c : Nat) (zs : List Int) (w : World) (hr : Rd w A n (ic zs)) (hm : n ≤ 9223372036854775807) :
  Calls Tryz.prog 140 #[.slice A n c] w fun e w' => e = .returned (.bool (QM.rise (-1) zs)) ∧ w = w' := by
 obtain ⟨r, hrr⟩ : ∃ r, r = QM.rise (-1) zs := ⟨_, rfl⟩
 rw [← hrr]
 have hl : zs.length = n := by have := hr.1; rwa [ic_length] at this
 have HL := h! hl; clear hl
 have hst : QM.rise (-1) (zs.drop 0) = r := by rw [hrr]; rfl
 clear hrr
 have HS := h! hst; clear hst
 go_enter Tryz.func140, Tryz.ntmps140
 go_wp2
 go_loop [3, 8] (fun a i => ∃ (k : Nat) (p : Int), k ≤ n ∧ i = .int .i64 k ∧ a = .int .i64 p ∧ -1 ≤ p ∧ Hid (QM.rise p (zs.drop k) = r)) (fun _ i => n - (intOf i).toNat)
 case atStart => exact ⟨0, -1, by omega, rfl, rfl, by omega, HS⟩
 case round =>
  clear HS
  obtain ⟨k, p, hk, rfl, rfl, hp, HR⟩ := hrel
  by_cases hlt : k < n
  ·have hkz : k < zs.length := by have := HL.out; omega
   obtain ⟨ad, u, rfl, _, hu, hcell⟩ := hr.at_ hlt
   rw [ic_get zs k hkz] at hu
   injection hu with hu
   subst hu
   have hd := HR.out
   rw [List.drop_eq_getElem_cons hkz] at hd
   obtain ⟨z, hz⟩ : ∃ z, z = zs[k] := ⟨_, rfl⟩
   rw [← hz] at hcell hd
   clear hz HR
   simp only [QM.rise] at hd
   by_cases h1 : p < z
   ·by_cases h2 : z < 6
    ·have hd' : QM.rise z (zs.drop (k + 1)) = r := by rw [← hd]; simp [h1, h2]
     clear hd
     have HD := h! hd'; clear hd'
     go_wp2
     go_round
     case rel => exact ⟨k + 1, z, by omega, by go_num, rfl, by omega, HD⟩
     case measure => simp [intOf]; omega
    ·have hd' : false = r := by rw [← hd]; simp [h2]
     clear hd
     have HD := h! hd'; clear hd'
     go_wp2
     go_ret
     exact ⟨ret_eq HD.out, rfl⟩
   ·have hd' : false = r := by rw [← hd]; simp [h1]
    clear hd
    have HD := h! hd'; clear hd'
    go_wp2
    go_ret
    exact ⟨ret_eq HD.out, rfl⟩
  ·have hd : true = r := by have := HR.out; rw [List.drop_of_length_le (by have := HL.out; omega)] at this; simpa [QM.rise] using this
   have HD := h! hd; clear hd
   go_wp2
   go_ret
   exact ⟨ret_eq HD.out, rfl⟩
theorem qcheck_any (A : Option Addr) (n c : Nat) (zs : List Int) (y : Int) (w : World) (hr : Rd w A n (ic zs)) (hm : n ≤ 9223372036854775807) (hy : QM.ChkIs zs y) :
  Calls Tryz.prog 112 #[.slice A n c] w fun e w' => e = .returned (.int .i64 y) ∧ w = w' := by
 have hl : zs.length = n := by have := hr.1; rwa [ic_length] at this
 have h := rise_any A n c zs w hr hm
 rcases hy with ⟨h6, rfl⟩ | ⟨h6, hf, rfl⟩ | ⟨ht, rfl⟩
 ·rw [hl] at h6
  clear h hl
  go_enter Tryz.func112, Tryz.ntmps112
  go_wp2
  go_ret
  exact ⟨rfl, rfl⟩
 ·rw [hl] at h6
  by_cases h0 : n = 0
  ·subst h0
   clear h hl hf h6
   go_enter Tryz.func112, Tryz.ntmps112
   go_wp2
   go_ret
   exact ⟨rfl, rfl⟩
  ·have hz : QM.rise (-1) zs = false := by
    unfold QM.may at hf
    rw [hl] at hf
    have h1 : decide (1 ≤ n) = true := by simp; omega
    have h2 : decide (n ≤ 6) = true := by simp; omega
    rw [h1, h2] at hf
    simpa using hf
   rw [hz] at h
   have H := h! h
   clear h hl hf hz
   have h1 : 0 < n := by omega
   clear h0
   go_enter Tryz.func112, Tryz.ntmps112
   go_wp2_with fail
   refine H.out.mono ?_
   rintro e w1 ⟨rfl, rfl⟩
   go_wp2
   go_ret
   exact ⟨rfl, rfl⟩
 ·obtain ⟨h1, h2, h3⟩ := QM.may_len ht
  rw [hl] at h1 h2
  rw [h3] at h
  have H := h! h
  clear h hl ht h3
  go_enter Tryz.func112, Tryz.ntmps112
  go_wp2_with fail
  refine H.out.mono ?_
  rintro e w1 ⟨rfl, rfl⟩
  go_wp2
  go_ret
  exact ⟨rfl, rfl⟩
def IdxYes (w : World) (e : Ending) (w' : World) : Prop := ∃ y : Int, 0 ≤ y ∧ e = .returned (.int .i64 y) ∧ w = w'
theorem index_yes (A : Option Addr) (n c : Nat) (zs : List Int) (x : Int) (w : World) (hr : Rd w A n (ic zs)) (hm : n ≤ 9223372036854775807) (hx : QM.has zs x = true) :
  Calls Tryz.prog 155 #[.slice A n c, .int .i64 x] w (IdxYes w) := by
 have hl : zs.length = n := by have := hr.1; rwa [ic_length] at this
 have hst : QM.has (zs.drop 0) x = true := hx
 have HL := h! hl; clear hl
 have HS := h! hst; clear hst hx
 go_enter Tryz.func155, Tryz.ntmps155
 go_wp2
 go_loop [8] (fun i => ∃ k : Nat, k ≤ n ∧ i = .int .i64 k ∧ Hid (QM.has (zs.drop k) x = true)) (fun i => n - (intOf i).toNat)
 case atStart => exact ⟨0, by omega, rfl, HS⟩
 case round =>
  clear HS
  obtain ⟨k, hk, rfl, HR⟩ := hrel
  by_cases hlt : k < n
  ·have hkz : k < zs.length := by have := HL.out; omega
   obtain ⟨ad, u, rfl, _, hu, hcell⟩ := hr.at_ hlt
   rw [ic_get zs k hkz] at hu
   injection hu with hu
   subst hu
   have hd := HR.out
   rw [List.drop_eq_getElem_cons hkz] at hd
   obtain ⟨z, hz⟩ : ∃ z, z = zs[k] := ⟨_, rfl⟩
   rw [← hz] at hcell hd
   clear hz HR
   by_cases h1 : x = z
   ·subst h1
    clear hd
    go_wp2
    go_ret
    exact ⟨_, by omega, rfl, rfl⟩
   ·have hd' : QM.has (zs.drop (k + 1)) x = true := by
     unfold QM.has at hd ⊢
     simpa [h1] using hd
    clear hd
    have HD := h! hd'; clear hd'
    have h2 : (x == z) = false := by simpa using h1
    clear h1
    go_wp2
    go_round
    case rel => exact ⟨k + 1, by omega, by go_num, HD⟩
    case measure => simp [intOf]; omega
  ·have := HR.out
   rw [List.drop_of_length_le (by have := HL.out; omega)] at this
   simp [QM.has] at this
theorem index_no (A : Option Addr) (n c : Nat) (zs : List Int) (x : Int) (w : World) (hr : Rd w A n (ic zs)) (hm : n ≤ 9223372036854775807) (hx : QM.has zs x = false) :
  Calls Tryz.prog 155 #[.slice A n c, .int .i64 x] w fun e w' => e = .returned (.int .i64 (-1)) ∧ w = w' := by
 have hl : zs.length = n := by have := hr.1; rwa [ic_length] at this
 have HL := h! hl; clear hl
 have HS := h! hx; clear hx
 go_enter Tryz.func155, Tryz.ntmps155
 go_wp2
 go_loop [8] (fun i => ∃ k : Nat, k ≤ n ∧ i = .int .i64 k) (fun i => n - (intOf i).toNat)
 case atStart => exact ⟨0, by omega, rfl⟩
 case round =>
  obtain ⟨k, hk, rfl⟩ := hrel
  by_cases hlt : k < n
  ·have hkz : k < zs.length := by have := HL.out; omega
   obtain ⟨ad, u, rfl, _, hu, hcell⟩ := hr.at_ hlt
   rw [ic_get zs k hkz] at hu
   injection hu with hu
   subst hu
   have h1 : ¬ x = zs[k] := by
    intro h
    have := HS.out
    unfold QM.has at this
    rw [h] at this
    simp at this
   obtain ⟨z, hz⟩ : ∃ z, z = zs[k] := ⟨_, rfl⟩
   rw [← hz] at hcell h1
   clear hz
   have h2 : (x == z) = false := by simpa using h1
   clear h1
   go_wp2
   go_round
   case rel => exact ⟨k + 1, by omega, by go_num⟩
   case measure => simp [intOf]; omega
  ·go_wp2
   go_ret
   exact ⟨rfl, rfl⟩
theorem contains_any (A : Option Addr) (n c : Nat) (zs : List Int) (x : Int) (w : World) (hr : Rd w A n (ic zs)) (hm : n ≤ 9223372036854775807) :
  Calls Tryz.prog 136 #[.slice A n c, .int .i64 x] w fun e w' => e = .returned (.bool (QM.has zs x)) ∧ w = w' := by
 rcases hx : QM.has zs x with _ | _
 ·have HX := h! hx; clear hx
  go_enter Tryz.func136, Tryz.ntmps136
  go_wp2_with fail
  refine (index_no A n c zs x _ hr hm HX.out).mono ?_
  rintro e w1 ⟨rfl, rfl⟩
  go_wp2
  go_ret
  exact ⟨rfl, rfl⟩
 ·have HX := h! hx; clear hx
  go_enter Tryz.func136, Tryz.ntmps136
  go_wp2_with fail
  refine (index_yes A n c zs x _ hr hm HX.out).mono ?_
  rintro e w1 ⟨y, hy, rfl, rfl⟩
  go_wp2
  go_ret
  exact ⟨rfl, rfl⟩
end
namespace CP
open Go.RowKit
theorem drewN_below (w : World) (q : Nat) : Below w.heap.size w (w.drewN q) := below_drewN (Below.refl _ _) q
theorem drop_step {x y : List Int} {k : Nat} {u v : Int} (hx : x.drop k = u :: x.drop (k + 1)) (hy : y.drop k = v :: y.drop (k + 1)) (huv : u = v) : decide (x.drop (k + 1) = y.drop (k + 1)) = decide (x.drop k = y.drop k) := by
 rw [hx, hy, huv]; simp
theorem same_ints_any (A B : Option Addr) (ca cb : Nat) (x y : List Int) (w : World) (h1 : Rd w A x.length (ic x)) (h2 : Rd w B y.length (ic y)) (hm : x.length ≤ maxLen) (hm2 : y.length ≤ maxLen) :
  Calls Tryz.prog 76 #[.slice A x.length ca, .slice B y.length cb] w (BoolIs (decide (x = y)) w) := by
 unfold maxLen at hm hm2
 have hst : decide (x.drop 0 = y.drop 0) = decide (x = y) := rfl
 obtain ⟨n, hn⟩ : ∃ n, n = x.length := ⟨_, rfl⟩
 obtain ⟨m, hme⟩ : ∃ m, m = y.length := ⟨_, rfl⟩
 have hne0 : n ≠ m → decide (x = y) = false := fun h => by simpa using fun e => h (by rw [hn, hme, e])
 rw [← hn] at h1 hm ⊢
 rw [← hme] at h2 hm2 ⊢
 generalize decide (x = y) = r at hst hne0 ⊢
 have HN := h! hn; clear hn
 have HM := h! hme; clear hme
 have HS := h! hst; clear hst
 by_cases hnm : n = m
 rotate_left
 ·have HR := h! (hne0 hnm)
  have hb : ((n : Int) != (m : Int)) = true := by simpa using fun h : (n : Int) = m => hnm (by omega)
  clear hne0 hnm
  go_enter Tryz.func76, Tryz.ntmps76
  go_wp2
  go_ret
  exact bool_ret HR.out.symm (Below.refl _ _)
 subst hnm
 clear hne0
 have hne : ((n : Int) != (n : Int)) = false := by simp
 go_enter Tryz.func76, Tryz.ntmps76
 go_wp2
 go_loopw [5] (fun i wr => ∃ k q : Nat, k ≤ n ∧ i = .int .i64 k ∧ wr = w.drewN q ∧ Hid (decide (x.drop k = y.drop k) = r)) (fun i _ => n - (intOf i).toNat)
 case atStart => exact ⟨0, 0, by omega, rfl, rfl, HS⟩
 case round =>
  clear HS
  obtain ⟨k, q, hk, rfl, rfl, HR⟩ := hrel
  by_cases hlt : k < n
  ·obtain ⟨ad1, u1, rfl, _, hu1, hcell1⟩ := h1.at_ hlt
   obtain ⟨ad2, u2, rfl, _, hu2, hcell2⟩ := h2.at_ hlt
   have hkz : k < x.length := by have := HN.out; omega
   have hkz2 : k < y.length := by have := HM.out; omega
   have hx := List.drop_eq_getElem_cons hkz
   have hy := List.drop_eq_getElem_cons hkz2
   rw [ic_get x k hkz] at hu1
   rw [ic_get y k hkz2] at hu2
   injection hu1 with hu1
   injection hu2 with hu2
   subst hu1
   subst hu2
   generalize x[k] = u at hcell1 hx
   generalize y[k] = v at hcell2 hy
   have hk0 : (0 : Int) ≤ (k : Int) := by omega
   have hkn : (k : Int) < (n : Int) := by omega
   by_cases huv : u = v
   ·have HT := h! ((drop_step hx hy huv).trans HR.out)
    have hbz : (u != v) = false := by simp [huv]
    clear hx hy huv hkz hkz2
    go_wp2_with fail
    go_quiet (fail)
    go_wp2_with fail
    go_roundw
    case rel => exact ⟨k + 1, q + nq, by omega, by go_num, by simp, HT⟩
    case measure => simp [intOf]; omega
   ·have HT : Hid (false = r) := h! (by rw [← HR.out, hx, hy]; simp [huv])
    have hbz : (u != v) = true := by simpa using huv
    clear hx hy huv hkz hkz2
    go_wp2_with fail
    go_quiet (fail)
    go_wp2_with fail
    go_ret
    exact bool_ret HT.out (by rw [World.drewN_drewN]; exact drewN_below _ _)
  ·have HT : Hid (true = r) := h! (by
    have h1 : x.length ≤ k := by have := HN.out; omega
    have h2 : y.length ≤ k := by have := HM.out; omega
    rw [← HR.out, List.drop_of_length_le h1, List.drop_of_length_le h2]; simp)
   go_wp2
   go_ret
   exact bool_ret HT.out (drewN_below _ _)
end CP
namespace CP
open Go.RowKit
open CM (Mg Cm)
section
variable {am : Mg} {aid atm atp awh an : Int} {ams : List Int}
theorem may_iff1 : CM.may ⟨1, am, aid, atm, ams, atp, awh, an⟩ ↔ ((CM.mgOk am) ∧ (aid = 0) ∧ (atm = 0) ∧ (ams = []) ∧ (atp = 0) ∧ (awh = 0) ∧ (an = 0)) := by
 unfold CM.may CM.zero
 simp
 try grind
theorem may_iff2 : CM.may ⟨2, am, aid, atm, ams, atp, awh, an⟩ ↔ ((am = CM.mz) ∧ (CM.idOk aid) ∧ (1 ≤ atm ∧ atm < 1073741825) ∧ (ams = []) ∧ (atp = 0) ∧ (awh = 0) ∧ (an = 0)) := by
 unfold CM.may CM.zero
 simp
 try grind
theorem may_iff3 : CM.may ⟨3, am, aid, atm, ams, atp, awh, an⟩ ↔ ((am = CM.mz) ∧ (aid = 0) ∧ (atm = 0) ∧ (QM.may ams = true) ∧ (atp = 0) ∧ (awh = 0) ∧ (an = 0)) := by
 unfold CM.may CM.zero
 simp
 try grind
theorem may_iff4 : CM.may ⟨4, am, aid, atm, ams, atp, awh, an⟩ ↔ ((am = CM.mz) ∧ (CM.idOk aid) ∧ (atm = 0) ∧ (ams = []) ∧ (0 ≤ atp ∧ atp < 4) ∧ (0 ≤ an ∧ an < 1073741825) ∧ (0 ≤ awh ∧ awh < 8)) := by
 unfold CM.may CM.zero
 simp
 try grind
theorem may_iff5 : CM.may ⟨5, am, aid, atm, ams, atp, awh, an⟩ ↔ ((am = CM.mz) ∧ (CM.idOk aid) ∧ (atm = 0) ∧ (ams = []) ∧ (0 ≤ atp ∧ atp < 4) ∧ (0 ≤ an ∧ an < 1073741825) ∧ (awh = 0)) := by
 unfold CM.may CM.zero
 simp
 try grind
theorem may_iff6 : CM.may ⟨6, am, aid, atm, ams, atp, awh, an⟩ ↔ ((am = CM.mz) ∧ (CM.idOk aid) ∧ (atm = 0) ∧ (ams = []) ∧ (0 ≤ atp ∧ atp < 4) ∧ (0 ≤ an ∧ an < 1073741825) ∧ (awh = 0)) := by
 unfold CM.may CM.zero
 simp
 try grind
theorem may_other {k : Int} (h : k ≠ 0 ∧ k ≠ 1 ∧ k ≠ 2 ∧ k ≠ 3 ∧ k ≠ 4 ∧ k ≠ 5 ∧ k ≠ 6) : ¬ CM.may ⟨k, am, aid, atm, ams, atp, awh, an⟩ := by
 unfold CM.may CM.zero
 simp
 try grind
theorem may_iff0 : CM.may ⟨0, am, aid, atm, ams, atp, awh, an⟩ ↔ ⟨0, am, aid, atm, ams, atp, awh, an⟩ = CM.zero := by
 unfold CM.may CM.zero
 simp
end
def NumIs (y : Int) (w : World) (e : Ending) (w' : World) : Prop := e = .returned (.int .i64 y) ∧ Below w.heap.size w w'
def WrIs (x : Cm) (w : World) (e : Ending) (w' : World) : Prop := e = .returned (.tuple #[.string (if CM.may x then ⟨(CM.wr x).toArray⟩ else .empty), .int .i64 (if CM.may x then 0 else 120)]) ∧ Below w.heap.size w w'
end CP
namespace CP
open CM (Mg Cm)
open NM RM
def gl (most : Nat) (l : List UInt8) : List Nat × List UInt8 :=
 match getInts l most with
 | some (xs, z) => (xs, l.drop z)
 | none => ([], l)
def gx (l : List UInt8) : List UInt8 × List UInt8 :=
 match getText l with
 | some (s, z) => (s, l.drop z)
 | none => ([], l)
theorem gt_nm {l r : List UInt8} {n : Nat} (h : CM.nm l = some (n, r)) : gt l = (n, r) := by
 unfold CM.nm num at h
 unfold gt
 rcases hd : dec l with _ | ⟨x, z⟩
 ·rw [hd] at h; simp at h
 ·rw [hd] at h
  simp only at h
  split at h
  ·simpa using h
  ·cases h
theorem gl_lst {l r : List UInt8} {most : Nat} {xs : List Nat} (h : CM.lst most l = some (xs, r)) : gl most l = (xs, r) := by
 unfold CM.lst at h
 unfold gl
 rcases hd : getInts l most with _ | ⟨x, z⟩
 ·rw [hd] at h; simp at h
 ·rw [hd] at h
  simpa using h
theorem gx_tx {l r s : List UInt8} (h : CM.tx l = some (s, r)) : gx l = (s, r) := by
 unfold CM.tx txt at h
 unfold gx
 rcases hd : getText l with _ | ⟨x, z⟩
 ·rw [hd] at h; simp at h
 ·rw [hd] at h
  simp only at h
  split at h
  ·simpa using h
  ·cases h
theorem gx_le (l : List UInt8) : (gx l).1.length ≤ 4096 := by
 unfold gx
 rcases hd : getText l with _ | ⟨s, z⟩
 ·simp
 ·exact (text_getText l s z hd).1
def m1 (l : List UInt8) := gt l
def m2 (l : List UInt8) := gl 4 (m1 l).2
def m3 (l : List UInt8) := gt (m2 l).2
def m4 (l : List UInt8) := gx (m3 l).2
def m5 (l : List UInt8) := gx (m4 l).2
def frM (l : List UInt8) : Mg := ⟨(m1 l).1, CM.zs (m2 l).1, (m3 l).1, ⟨(m4 l).1.toArray⟩, ⟨(m5 l).1.toArray⟩⟩
def h2 (l : List UInt8) := gt (gt l).2
def h3 (l : List UInt8) := gt (h2 l).2
def h4 (l : List UInt8) := gt (h3 l).2
def frB (k : Nat) (l : List UInt8) : Cm :=
 if k = 1 then ⟨1, frM l, 0, 0, [], 0, 0, 0⟩
 else if k = 2 then ⟨2, CM.mz, (gt l).1, (h2 l).1, [], 0, 0, 0⟩
 else if k = 3 then ⟨3, CM.mz, 0, 0, CM.zs (gl 6 l).1, 0, 0, 0⟩
 else if k = 4 then ⟨4, CM.mz, (gt l).1, 0, [], (h2 l).1, (h3 l).1, (h4 l).1⟩
 else if k = 5 ∨ k = 6 then ⟨k, CM.mz, (gt l).1, 0, [], (h2 l).1, 0, (h3 l).1⟩
 else ⟨k, CM.mz, 0, 0, [], 0, 0, 0⟩
def fr (l : List UInt8) : Cm := frB (fk l) (f1 l)
theorem fr_parse {l t : List UInt8} {c : Cm} (h : CM.parse l = some (c, t)) : fr l = c := by
 unfold CM.parse at h
 obtain ⟨⟨k, r⟩, hk, h2⟩ := Option.bind_eq_some_iff.1 h
 clear h
 have h := h2
 clear h2
 have hg := gt_nm hk
 have hk0 : k ≤ 1099511627776 := (CM.enc_nm hk).1
 simp only at h
 have hk6 : k ≤ 6 := by
  by_cases h6 : k ≤ 6
  ·exact h6
  ·rw [if_neg (by omega), if_neg (by omega), if_neg (by omega), if_neg (by omega), if_neg (by omega), if_neg (by omega)] at h
   cases h
 have e1 : fk l = k := by unfold fk; rw [hg]; simp only; omega
 have e2 : f1 l = r := by unfold f1; rw [hg]
 unfold fr
 rw [e1, e2]
 clear e1 e2 hg hk
 unfold frB
 by_cases k0 : k = 0
 ·rw [if_pos k0] at h
  simp only [Option.some.injEq, Prod.mk.injEq] at h
  obtain ⟨rfl, rfl⟩ := h
  subst k0
  rfl
 rw [if_neg k0] at h
 by_cases k1 : k = 1
 ·rw [if_pos k1] at h
  rw [if_pos k1]
  unfold CM.q1 at h
  obtain ⟨⟨a, r1⟩, e1, h⟩ := Option.bind_eq_some_iff.1 h
  obtain ⟨⟨g, r2⟩, e2, h⟩ := Option.bind_eq_some_iff.1 h
  obtain ⟨⟨p, r3⟩, e3, h⟩ := Option.bind_eq_some_iff.1 h
  obtain ⟨⟨s, r4⟩, e4, h⟩ := Option.bind_eq_some_iff.1 h
  obtain ⟨⟨b, r5⟩, e5, h⟩ := Option.bind_eq_some_iff.1 h
  simp only [Option.some.injEq, Prod.mk.injEq] at h e1 e2 e3 e4 e5
  obtain ⟨rfl, rfl⟩ := h
  have d1 : m1 r = (a, r1) := gt_nm e1
  have d2 : m2 r = (g, r2) := by unfold m2; rw [d1]; exact gl_lst e2
  have d3 : m3 r = (p, r3) := by unfold m3; rw [d2]; exact gt_nm e3
  have d4 : m4 r = (s, r4) := by unfold m4; rw [d3]; exact gx_tx e4
  have d5 : m5 r = (b, r5) := by unfold m5; rw [d4]; exact gx_tx e5
  unfold frM
  rw [d1, d2, d3, d4, d5]
 rw [if_neg k1] at h
 rw [if_neg k1]
 by_cases k2 : k = 2
 ·rw [if_pos k2] at h
  rw [if_pos k2]
  unfold CM.q2 at h
  obtain ⟨⟨a, r1⟩, e1, h⟩ := Option.bind_eq_some_iff.1 h
  obtain ⟨⟨b, r2⟩, e2, h⟩ := Option.bind_eq_some_iff.1 h
  simp only [Option.some.injEq, Prod.mk.injEq] at h e1 e2
  obtain ⟨rfl, rfl⟩ := h
  have d1 := gt_nm e1
  have d2 : h2 r = (b, r2) := by unfold h2; rw [d1]; exact gt_nm e2
  rw [d1, d2]
 rw [if_neg k2] at h
 rw [if_neg k2]
 by_cases k3 : k = 3
 ·rw [if_pos k3] at h
  rw [if_pos k3]
  unfold CM.q3 at h
  obtain ⟨⟨a, r1⟩, e1, h⟩ := Option.bind_eq_some_iff.1 h
  simp only [Option.some.injEq, Prod.mk.injEq] at h e1
  obtain ⟨rfl, rfl⟩ := h
  rw [gl_lst e1]
 rw [if_neg k3] at h
 rw [if_neg k3]
 by_cases k4 : k = 4
 ·rw [if_pos k4] at h
  rw [if_pos k4]
  unfold CM.q4 at h
  obtain ⟨⟨a, r1⟩, e1, h⟩ := Option.bind_eq_some_iff.1 h
  obtain ⟨⟨b, r2⟩, e2, h⟩ := Option.bind_eq_some_iff.1 h
  obtain ⟨⟨w, r3⟩, e3, h⟩ := Option.bind_eq_some_iff.1 h
  obtain ⟨⟨n, r4⟩, e4, h⟩ := Option.bind_eq_some_iff.1 h
  simp only [Option.some.injEq, Prod.mk.injEq] at h e1 e2 e3 e4
  obtain ⟨rfl, rfl⟩ := h
  have d1 := gt_nm e1
  have d2 : h2 r = (b, r2) := by unfold h2; rw [d1]; exact gt_nm e2
  have d3 : h3 r = (w, r3) := by unfold h3; rw [d2]; exact gt_nm e3
  have d4 : h4 r = (n, r4) := by unfold h4; rw [d3]; exact gt_nm e4
  rw [d1, d2, d3, d4]
 rw [if_neg k4] at h
 rw [if_neg k4]
 by_cases k5 : k = 5 ∨ k = 6
 ·rw [if_pos k5] at h
  rw [if_pos k5]
  unfold CM.q5 at h
  obtain ⟨⟨a, r1⟩, e1, h⟩ := Option.bind_eq_some_iff.1 h
  obtain ⟨⟨b, r2⟩, e2, h⟩ := Option.bind_eq_some_iff.1 h
  obtain ⟨⟨n, r3⟩, e3, h⟩ := Option.bind_eq_some_iff.1 h
  simp only [Option.some.injEq, Prod.mk.injEq] at h e1 e2 e3
  obtain ⟨rfl, rfl⟩ := h
  have d1 := gt_nm e1
  have d2 : h2 r = (b, r2) := by unfold h2; rw [d1]; exact gt_nm e2
  have d3 : h3 r = (n, r3) := by unfold h3; rw [d2]; exact gt_nm e3
  rw [d1, d2, d3]
 ·rw [if_neg k5] at h; cases h
theorem fr_wr {c : Cm} (h : CM.may c) : fr (CM.wr c) = c := by
 have := CM.parse_wr h []
 rw [List.append_nil] at this
 exact fr_parse this
theorem in_gt (l : List UInt8) : i64In ((gt l).1 : Int) := by have := gt_le l; unfold i64In; omega
theorem in_zero : i64In 0 := by unfold i64In; omega
theorem size_gx (l : List UInt8) : (⟨(gx l).1.toArray⟩ : ByteArray).size ≤ maxLen := by
 have := gx_le l
 show (gx l).1.toArray.size ≤ _
 unfold maxLen
 simp
 omega
theorem fit_mz : MgFit CM.mz := ⟨in_zero, in_zero, Nat.zero_le _, Nat.zero_le _⟩
theorem fr_fit (l : List UInt8) : CmFit (fr l) := by
 have hk := fk_le l
 unfold fr
 generalize f1 l = r
 generalize fk l = k at hk
 unfold frB
 split
 ·exact ⟨(by constructor <;> simp), ⟨in_gt _, in_gt _, size_gx _, size_gx _⟩, in_zero, in_zero, in_zero, in_zero, in_zero⟩
 split
 ·exact ⟨(by constructor <;> simp), fit_mz, in_gt _, in_gt _, in_zero, in_zero, in_zero⟩
 split
 ·exact ⟨(by constructor <;> simp), fit_mz, in_zero, in_zero, in_zero, in_zero, in_zero⟩
 split
 ·exact ⟨(by constructor <;> simp), fit_mz, in_gt _, in_zero, in_gt _, in_gt _, in_gt _⟩
 split
 ·exact ⟨⟨by show (0 : Int) ≤ (k : Int); omega, by show (k : Int) ≤ 255; omega⟩, fit_mz, in_gt _, in_zero, in_gt _, in_zero, in_gt _⟩
 ·exact ⟨⟨by show (0 : Int) ≤ (k : Int); omega, by show (k : Int) ≤ 255; omega⟩, fit_mz, in_zero, in_zero, in_zero, in_zero, in_zero⟩
theorem readIs_long {l : List UInt8} (h : 1024 < l.length) : CM.ReadIs l CM.zero 3 := .inr (.inl ⟨rfl, rfl, h⟩)
theorem readIs_fr {s t : ByteArray} {e : Int} (hs : s.size ≤ 1024) (h : t = (if CM.may (fr (bsz s)) then ⟨(CM.wr (fr (bsz s))).toArray⟩ else .empty) ∧ e = if CM.may (fr (bsz s)) then 0 else 120) :
  (e = 0 ∧ t = s ∧ CM.ReadIs (bsz s) (fr (bsz s)) 0) ∨ (¬ (e = 0 ∧ t = s) ∧ CM.ReadIs (bsz s) CM.zero 8) := by
 by_cases hc : e = 0 ∧ t = s
 ·obtain ⟨rfl, rfl⟩ := hc
  refine .inl ⟨rfl, rfl, ?_⟩
  by_cases hm : CM.may (fr (bsz t))
  ·rw [if_pos hm] at h
   exact .inl ⟨rfl, hm, by conv => rhs; rw [h.1, bsz_mk]⟩
  ·rw [if_neg hm, if_neg hm] at h; exact absurd h.2 (by decide)
 ·refine .inr ⟨hc, .inr (.inr ⟨rfl, rfl, by rw [bsz_len]; exact hs, fun q hq e2 => hc ?_⟩)⟩
  have hf := fr_wr hq
  rw [e2] at hf
  rw [hf, if_pos hq, if_pos hq] at h
  exact ⟨h.2, by rw [h.1, e2, mk_bsz]⟩
end CP
namespace CP
open Go.RowKit Go.Joins Go.ChangeShapes Go.WideShapes Go.Deep
open CM (Mg Cm)
def MgArg (w : World) (v : Value) (x : Mg) : Prop := MgIs w v x ∧ MgFit x
section
variable {H : Type} {enc : TypeId × Value → H} {w : World} {spare : Nat → Bool} {held : Bool} {base : Nat}
theorem row_cells {fuel : Nat} {v : Value} {x : DataW H × List MemPlace} (h : DataW.trod enc Tryz.prog w base spare held fuel 31 [v] = some x) :
  ∃ A c l, v = .slice A l.length c ∧ RowIs w A c l := by
 rcases open_ints Tryz.underlying31 Tryz.underlying3 (by kernel_rfl) h with ⟨hcs, _⟩ | ⟨a, len, cap, zs, hcs, hbl, hl, hm, hz, hx, hcell, hwz⟩
 ·simp at hcs
  exact ⟨none, 0, [], hcs, RowIs.none w⟩
 ·simp at hcs
  have hlz : len ≤ zs.length := by rw [hz]; split <;> omega
  have hlt : (zs.take len).length = len := by rw [List.length_take]; omega
  refine ⟨some a, cap, zs.take len, by rw [hlt]; exact hcs, ⟨by rw [ic_length], fun hn => ⟨a, rfl, ?_, fun j u hu => ?_⟩⟩, by rw [hlt]; exact hl, hm⟩
  ·rw [hlt] at hn
   have := cell_block (hcell 0 (by omega))
   rwa [block_of_add] at this
  ·unfold ic at hu
   rw [List.getElem?_map, List.getElem?_take] at hu
   split at hu
   ·rename_i hj
    have hjz : j < zs.length := by omega
    rw [hcell j hjz]
    rw [List.getElem?_eq_getElem hjz] at hu
    simp at hu
    rw [← hu]
    simp [hjz]
   ·simp at hu
theorem mg_cells {fuel : Nat} {cs : List Value} {x : DataW H × List MemPlace} (h : DataW.trod enc Tryz.prog w base spare held fuel 33 cs = some x) :
  ∃ A c m, cs = (mcells A c m).toList ∧ RowIs w A c m.gs ∧ MgFit m := by
 obtain ⟨hlen, n, hf⟩ := cells_read Tryz.underlying33 (by kernel_rfl) h
 have hl : cs.length = 5 := hlen.trans (by kernel_rfl)
 match cs, hl with
 | [c0, c1, c2, c3, c4], _ =>
  obtain ⟨y0, t0⟩ := hf 0 _ c0 rfl rfl
  obtain ⟨y1, t1⟩ := hf 1 _ c1 rfl rfl
  obtain ⟨y2, t2⟩ := hf 2 _ c2 rfl rfl
  obtain ⟨y3, t3⟩ := hf 3 _ c3 rfl rfl
  obtain ⟨y4, t4⟩ := hf 4 _ c4 rfl rfl
  obtain ⟨a, e0, _, w0⟩ := DataW.trod_int Tryz.underlying3 t0
  obtain ⟨A, c, l, e1, hr⟩ := row_cells t1
  obtain ⟨b, e2, _, w2⟩ := DataW.trod_int Tryz.underlying3 t2
  obtain ⟨s, e3, _, w3⟩ := DataW.trod_string Tryz.underlying9 t3
  obtain ⟨t, e4, _, w4⟩ := DataW.trod_string Tryz.underlying9 t4
  simp at e0 e2 e3 e4
  subst e0 e1 e2 e3 e4
  exact ⟨A, c, ⟨a, l, b, s, t⟩, rfl, hr, range_i64 w0, range_i64 w2, w3, w4⟩
theorem open_mg {r : Reach} {b0 : Nat} {v : Value} {d : DataW H} {p : List MemPlace} (hv : Value.okWide Tryz.prog w r b0 33 v) (h : DataW.Trod enc Tryz.prog w base spare held 33 v d p) : ∃ q, MgArg w v q := by
 obtain ⟨cs, rfl, hsz⟩ := okWide_struct Tryz.underlying33 hv
 obtain ⟨l⟩ := cs
 obtain ⟨fuel, hf⟩ := h
 obtain ⟨A, c, m, e, hr, hm⟩ := mg_cells hf
 refine ⟨m, ⟨A, c, ?_, hr⟩, hm⟩
 simp [Value.cells] at e
 rw [e]
end
end CP
end Go.Proofs.YteebeiaokfenmaaGreat
