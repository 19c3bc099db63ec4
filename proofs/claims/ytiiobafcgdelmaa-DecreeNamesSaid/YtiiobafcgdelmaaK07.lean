/-
  What package quorum answers of lists that read as ints: rise, set, Has, Check. Conditions: the slices read as ints.
  What package quorum answers of lists that read as ints: Need, Most, CheckGroup. Conditions: the slices read as ints.
-/
import Derived.Test.YtiiobafcgdelmaaProg
import Derived.Test.YtiiobafcgdelmaaK02
import Derived.Test.YtiiobafcgdelmaaK01
import Derived.Lib.Hide
import Derived.Lib.Strings
import Derived.Lib.Slices
import Derived.Lib.Small
import Derived.Lib.Walk
import Derived.Lib.BitFns
import Derived.WalkKit
import Derived.IntWalk
import Derived.Laws.BitsLemmas
import Derived.Deep.QuietTactic
import Derived.BigQuiet
import Derived.Below
namespace Go.Proofs.Ytiiobafcgdelmaa
open Go.RowKit
set_option linter.unusedVariables false

theorem u8_or : ∀ x y : Fin 64, bits .or .u8 ((x.val : Nat) : Int) ((y.val : Nat) : Int) = ((x.val ||| y.val : Nat) : Int) := by decide +kernel
theorem u8_and : ∀ x y : Fin 64, bits .and .u8 ((x.val : Nat) : Int) ((y.val : Nat) : Int) = ((x.val &&& y.val : Nat) : Int) := by decide +kernel
theorem u8_not : ∀ x y : Fin 64, bits .andNot .u8 ((x.val : Nat) : Int) ((y.val : Nat) : Int) = ((x.val &&& (63 ^^^ y.val) : Nat) : Int) := by decide +kernel

theorem u8_add (s : Nat) (z : Int) (hs : s < 64) (h0 : 0 ≤ z) (h1 : z < 6) : bits .or .u8 (s : Int) ((2 : Int) ^ z.toNat % 256) = ((s ||| 2 ^ z.toNat : Nat) : Int) := by
  have h6 : z.toNat < 6 := by omega
  have hp : 2 ^ z.toNat < 64 := QM.two_lt h6
  rw [show ((2 : Int) ^ z.toNat) = ((2 ^ z.toNat : Nat) : Int) by push_cast; rfl]
  generalize 2 ^ z.toNat = q at hp ⊢
  have e : ((q : Nat) : Int) % 256 = (q : Int) := by omega
  rw [e]
  exact u8_or ⟨s, hs⟩ ⟨q, hp⟩
theorem u8_nots (x y : Nat) (hx : x < 64) (hy : y < 64) : bits .andNot .u8 (x : Int) (y : Int) = ((x &&& (63 ^^^ y) : Nat) : Int) := u8_not ⟨x, hx⟩ ⟨y, hy⟩
theorem u8_ands (x y : Nat) (hx : x < 64) (hy : y < 64) : bits .and .u8 (x : Int) (y : Int) = ((x &&& y : Nat) : Int) := u8_and ⟨x, hx⟩ ⟨y, hy⟩
theorem info_qi : (Try.prog.info? 3).map (fun i => (i.zero, i.size, i.bytes)) = some (some (.int .i64 0), 1, 8) := by kernel_rfl
/-- an index that was found -/
def IdxYes (w : World) (e : Ending) (w' : World) : Prop := ∃ y : Int, 0 ≤ y ∧ e = .returned (.int .i64 y) ∧ w = w'
theorem ret_int {k : IntKind} {a b : Int} (h : a = b) : Ending.returned (.int k a) = .returned (.int k b) := by rw [h]
theorem ret_eq {a b : Bool} (h : a = b) : Ending.returned (.bool a) = .returned (.bool b) := by rw [h]
theorem ret_u8 {a b : Nat} (h : a = b) : Ending.returned (.int .u8 (a : Int)) = .returned (.int .u8 (b : Int)) := by rw [h]
theorem val_u8 {a b : Int} (h : a = b) : Value.int .u8 a = .int .u8 b := by rw [h]

set_option maxHeartbeats 1000000 in
theorem rise_any (A : Option Addr) (n c : Nat) (zs : List Int) (w : World) (hr : Rd w A n (ic zs)) (hm : n ≤ 9223372036854775807) :
    Calls Try.prog 26 #[.slice A n c] w fun e w' => e = .returned (.bool (QM.rise (-1) zs)) ∧ w = w' := by
  obtain ⟨r, hrr⟩ : ∃ r, r = QM.rise (-1) zs := ⟨_, rfl⟩
  rw [← hrr]
  have hl : zs.length = n := by have := hr.1; rwa [ic_length] at this
  have HL := Lib.hid hl; clear hl
  have hst : QM.rise (-1) (zs.drop 0) = r := by rw [hrr]; rfl
  clear hrr
  have HS := Lib.hid hst; clear hst
  go_enter Try.func26, Try.ntmps26
  go_wp2
  go_loop [3, 8] (fun a i => ∃ (k : Nat) (p : Int), k ≤ n ∧ i = .int .i64 k ∧ a = .int .i64 p ∧ -1 ≤ p ∧ Hid (QM.rise p (zs.drop k) = r)) (fun _ i => n - (intOf i).toNat)
  case atStart => exact ⟨0, -1, by omega, rfl, rfl, by omega, HS⟩
  case round =>
    clear HS
    obtain ⟨k, p, hk, rfl, rfl, hp, HR⟩ := hrel
    by_cases hlt : k < n
    · have hkz : k < zs.length := by have := HL.out; omega
      obtain ⟨ad, u, rfl, _, hu, hcell⟩ := hr.at_ hlt
      rw [ic_get zs k hkz] at hu
      injection hu with hu
      subst hu
      have hd := HR.out
      rw [List.drop_eq_getElem_cons hkz] at hd
      obtain ⟨z, hz⟩ : ∃ z, z = zs[k] := ⟨_, rfl⟩
      rw [← hz] at hcell hd
      clear hz HR
      simp only [QM.rise] at hd
      by_cases h1 : p < z
      · by_cases h2 : z < 6
        · have hd' : QM.rise z (zs.drop (k + 1)) = r := by rw [← hd]; simp [h1, h2]
          clear hd
          have HD := Lib.hid hd'; clear hd'
          go_wp2
          go_round
          case rel => exact ⟨k + 1, z, by omega, by go_num, rfl, by omega, HD⟩
          case measure => simp [intOf]; omega
        · have hd' : false = r := by rw [← hd]; simp [h2]
          clear hd
          have HD := Lib.hid hd'; clear hd'
          go_wp2
          go_ret
          exact ⟨ret_eq HD.out, rfl⟩
      · have hd' : false = r := by rw [← hd]; simp [h1]
        clear hd
        have HD := Lib.hid hd'; clear hd'
        go_wp2
        go_ret
        exact ⟨ret_eq HD.out, rfl⟩
    · have hd : true = r := by have := HR.out; rw [List.drop_of_length_le (by have := HL.out; omega)] at this; simpa [QM.rise] using this
      have HD := Lib.hid hd; clear hd
      go_wp2
      go_ret
      exact ⟨ret_eq HD.out, rfl⟩

set_option maxHeartbeats 1000000 in
theorem set_any (A : Option Addr) (n c : Nat) (zs : List Int) (w : World) (hr : Rd w A n (ic zs)) (hm : n ≤ 9223372036854775807) :
    Calls Try.prog 91 #[.slice A n c] w fun e w' => e = .returned (.int .u8 (QM.set zs : Int)) ∧ w = w' := by
  have hl : zs.length = n := by have := hr.1; rwa [ic_length] at this
  have HL := Lib.hid hl; clear hl
  go_enter Try.func91, Try.ntmps91
  go_wp2
  go_loop [2, 7] (fun a i => ∃ (k s : Nat), k ≤ n ∧ i = .int .i64 k ∧ a = .int .u8 s ∧ s < 64 ∧ Hid (s = QM.setF 0 (zs.take k))) (fun _ i => n - (intOf i).toNat)
  case atStart => exact ⟨0, 0, by omega, rfl, rfl, by omega, Lib.hid rfl⟩
  case round =>
    obtain ⟨k, s, hk, rfl, rfl, hs, HR⟩ := hrel
    by_cases hlt : k < n
    · have hkz : k < zs.length := by have := HL.out; omega
      obtain ⟨ad, u, rfl, _, hu, hcell⟩ := hr.at_ hlt
      rw [ic_get zs k hkz] at hu
      injection hu with hu
      subst hu
      have hd : QM.add s zs[k] = QM.setF 0 (zs.take (k + 1)) := by
        rw [List.take_succ_eq_append_getElem hkz, QM.setF_snoc, ← HR.out]
      obtain ⟨z, hz⟩ : ∃ z, z = zs[k] := ⟨_, rfl⟩
      rw [← hz] at hcell hd
      clear hz HR
      by_cases h1 : 0 ≤ z ∧ z < 6
      · have hd' : s ||| 2 ^ z.toNat = QM.setF 0 (zs.take (k + 1)) := by rw [← hd]; unfold QM.add; rw [if_pos h1]
        clear hd
        have HD := Lib.hid hd'; clear hd'
        obtain ⟨h1, h2⟩ := h1
        go_wp2
        go_round
        case rel => exact ⟨k + 1, s ||| 2 ^ z.toNat, by omega, by go_num, val_u8 (u8_add s z hs h1 h2), Nat.or_lt_two_pow (n := 6) hs (QM.two_lt (by omega)), HD⟩
        case measure => simp [intOf]; omega
      · have hd' : s = QM.setF 0 (zs.take (k + 1)) := by rw [← hd]; unfold QM.add; rw [if_neg h1]
        clear hd
        have HD := Lib.hid hd'; clear hd'
        rcases (show z < 0 ∨ (0 ≤ z ∧ 6 ≤ z) by omega) with h2 | ⟨h2, h3⟩
        all_goals
          clear h1
          go_wp2
          go_round
          case rel => exact ⟨k + 1, s, by omega, by go_num, rfl, hs, HD⟩
          case measure => simp [intOf]; omega
    · obtain rfl : k = n := by omega
      have hd : s = QM.set zs := by have := HR.out; rw [List.take_of_length_le (by have := HL.out; omega)] at this; exact this
      have HD := Lib.hid hd; clear hd
      go_wp2
      go_ret
      exact ⟨ret_u8 HD.out, rfl⟩

set_option maxHeartbeats 1000000 in
theorem index_yes (A : Option Addr) (n c : Nat) (zs : List Int) (x : Int) (w : World) (hr : Rd w A n (ic zs)) (hm : n ≤ 9223372036854775807) (hx : QM.has zs x = true) :
    Calls Try.prog 68 #[.slice A n c, .int .i64 x] w (IdxYes w) := by
  have hl : zs.length = n := by have := hr.1; rwa [ic_length] at this
  have hst : QM.has (zs.drop 0) x = true := hx
  have HL := Lib.hid hl; clear hl
  have HS := Lib.hid hst; clear hst hx
  go_enter Try.func68, Try.ntmps68
  go_wp2
  go_loop [8] (fun i => ∃ k : Nat, k ≤ n ∧ i = .int .i64 k ∧ Hid (QM.has (zs.drop k) x = true)) (fun i => n - (intOf i).toNat)
  case atStart => exact ⟨0, by omega, rfl, HS⟩
  case round =>
    clear HS
    obtain ⟨k, hk, rfl, HR⟩ := hrel
    by_cases hlt : k < n
    · have hkz : k < zs.length := by have := HL.out; omega
      obtain ⟨ad, u, rfl, _, hu, hcell⟩ := hr.at_ hlt
      rw [ic_get zs k hkz] at hu
      injection hu with hu
      subst hu
      have hd := HR.out
      rw [List.drop_eq_getElem_cons hkz] at hd
      obtain ⟨z, hz⟩ : ∃ z, z = zs[k] := ⟨_, rfl⟩
      rw [← hz] at hcell hd
      clear hz HR
      by_cases h1 : x = z
      · subst h1
        clear hd
        go_wp2
        go_ret
        exact ⟨_, by omega, rfl, rfl⟩
      · have hd' : QM.has (zs.drop (k + 1)) x = true := by
          unfold QM.has at hd ⊢
          simpa [h1] using hd
        clear hd
        have HD := Lib.hid hd'; clear hd'
        have h2 : (x == z) = false := by simpa using h1
        clear h1
        go_wp2
        go_round
        case rel => exact ⟨k + 1, by omega, by go_num, HD⟩
        case measure => simp [intOf]; omega
    · have := HR.out
      rw [List.drop_of_length_le (by have := HL.out; omega)] at this
      simp [QM.has] at this

set_option maxHeartbeats 1000000 in
theorem index_no (A : Option Addr) (n c : Nat) (zs : List Int) (x : Int) (w : World) (hr : Rd w A n (ic zs)) (hm : n ≤ 9223372036854775807) (hx : QM.has zs x = false) :
    Calls Try.prog 68 #[.slice A n c, .int .i64 x] w fun e w' => e = .returned (.int .i64 (-1)) ∧ w = w' := by
  have hl : zs.length = n := by have := hr.1; rwa [ic_length] at this
  have HL := Lib.hid hl; clear hl
  have HS := Lib.hid hx; clear hx
  go_enter Try.func68, Try.ntmps68
  go_wp2
  go_loop [8] (fun i => ∃ k : Nat, k ≤ n ∧ i = .int .i64 k) (fun i => n - (intOf i).toNat)
  case atStart => exact ⟨0, by omega, rfl⟩
  case round =>
    obtain ⟨k, hk, rfl⟩ := hrel
    by_cases hlt : k < n
    · have hkz : k < zs.length := by have := HL.out; omega
      obtain ⟨ad, u, rfl, _, hu, hcell⟩ := hr.at_ hlt
      rw [ic_get zs k hkz] at hu
      injection hu with hu
      subst hu
      have h1 : ¬ x = zs[k] := by
        intro h
        have := HS.out
        unfold QM.has at this
        rw [h] at this
        simp at this
      obtain ⟨z, hz⟩ : ∃ z, z = zs[k] := ⟨_, rfl⟩
      rw [← hz] at hcell h1
      clear hz
      have h2 : (x == z) = false := by simpa using h1
      clear h1
      go_wp2
      go_round
      case rel => exact ⟨k + 1, by omega, by go_num⟩
      case measure => simp [intOf]; omega
    · go_wp2
      go_ret
      exact ⟨rfl, rfl⟩
theorem contains_any (A : Option Addr) (n c : Nat) (zs : List Int) (x : Int) (w : World) (hr : Rd w A n (ic zs)) (hm : n ≤ 9223372036854775807) :
    Calls Try.prog 61 #[.slice A n c, .int .i64 x] w fun e w' => e = .returned (.bool (QM.has zs x)) ∧ w = w' := by
  rcases hx : QM.has zs x with _ | _
  · have HX := Lib.hid hx; clear hx
    go_enter Try.func61, Try.ntmps61
    go_wp2_with fail
    refine (index_no A n c zs x _ hr hm HX.out).mono ?_
    rintro e w1 ⟨rfl, rfl⟩
    go_wp2
    go_ret
    exact ⟨rfl, rfl⟩
  · have HX := Lib.hid hx; clear hx
    go_enter Try.func61, Try.ntmps61
    go_wp2_with fail
    refine (index_yes A n c zs x _ hr hm HX.out).mono ?_
    rintro e w1 ⟨y, hy, rfl, rfl⟩
    go_wp2
    go_ret
    exact ⟨rfl, rfl⟩
theorem has_any (A : Option Addr) (n c : Nat) (zs : List Int) (x : Int) (w : World) (hr : Rd w A n (ic zs)) (hm : n ≤ 9223372036854775807) :
    Calls Try.prog 44 #[.slice A n c, .int .i64 x] w fun e w' => e = .returned (.bool (QM.has zs x)) ∧ w = w' := by
  obtain ⟨b, hb⟩ : ∃ b, b = QM.has zs x := ⟨_, rfl⟩
  have h := contains_any A n c zs x w hr hm
  rw [← hb] at h ⊢
  clear hb
  have H := Lib.hid h; clear h
  go_enter Try.func44, Try.ntmps44
  go_wp2_with fail
  refine H.out.mono ?_
  rintro e w1 ⟨rfl, rfl⟩
  go_wp2
  go_ret
  exact ⟨rfl, rfl⟩
theorem ones_int (x : Int) (w : World) (h0 : 0 ≤ x) (h1 : x ≤ 255) : Calls Try.prog 94 #[.int .u8 x] w fun e w' => e = .returned (.int .i64 (Lib.onesCount x.toNat)) ∧ w = w' := by
  go_enter Try.func94, Try.ntmps94
  go_wp2
  go_ret
  refine ⟨ret_int ?_, rfl⟩
  have e := Lib.pop8_eq ⟨x.toNat, by omega⟩
  have l := Lib.onesCount_le8 ⟨x.toNat, by omega⟩
  simp only [Int.toNat_of_nonneg h0] at e
  rw [e]
  simp only at l
  exact IntWalk.wrap64_in _ ⟨by omega, by omega⟩
theorem ones_any (x : Nat) (w : World) (hx : x < 64) : Calls Try.prog 94 #[.int .u8 (x : Int)] w fun e w' => e = .returned (.int .i64 (Lib.onesCount x : Int)) ∧ w = w' := ones_int (x : Int) w (by omega) (by omega)
theorem qcheck_any (A : Option Addr) (n c : Nat) (zs : List Int) (y : Int) (w : World) (hr : Rd w A n (ic zs)) (hm : n ≤ 9223372036854775807) (hy : QM.ChkIs zs y) :
    Calls Try.prog 16 #[.slice A n c] w fun e w' => e = .returned (.int .i64 y) ∧ w = w' := by
  have hl : zs.length = n := by have := hr.1; rwa [ic_length] at this
  have h := rise_any A n c zs w hr hm
  rcases hy with ⟨h6, rfl⟩ | ⟨h6, hf, rfl⟩ | ⟨ht, rfl⟩
  · rw [hl] at h6
    clear h hl
    go_enter Try.func16, Try.ntmps16
    go_wp2
    go_ret
    exact ⟨rfl, rfl⟩
  · rw [hl] at h6
    by_cases h0 : n = 0
    · subst h0
      clear h hl hf h6
      go_enter Try.func16, Try.ntmps16
      go_wp2
      go_ret
      exact ⟨rfl, rfl⟩
    · have hz : QM.rise (-1) zs = false := by
        unfold QM.may at hf
        rw [hl] at hf
        have h1 : decide (1 ≤ n) = true := by simp; omega
        have h2 : decide (n ≤ 6) = true := by simp; omega
        rw [h1, h2] at hf
        simpa using hf
      rw [hz] at h
      have H := Lib.hid h
      clear h hl hf hz
      have h1 : 0 < n := by omega
      clear h0
      go_enter Try.func16, Try.ntmps16
      go_wp2_with fail
      refine H.out.mono ?_
      rintro e w1 ⟨rfl, rfl⟩
      go_wp2
      go_ret
      exact ⟨rfl, rfl⟩
  · obtain ⟨h1, h2, h3⟩ := QM.may_len ht
    rw [hl] at h1 h2
    rw [h3] at h
    have H := Lib.hid h
    clear h hl ht h3
    go_enter Try.func16, Try.ntmps16
    go_wp2_with fail
    refine H.out.mono ?_
    rintro e w1 ⟨rfl, rfl⟩
    go_wp2
    go_ret
    exact ⟨rfl, rfl⟩
end Go.Proofs.Ytiiobafcgdelmaa

namespace Go.Proofs.Ytiiobafcgdelmaa
open Go.RowKit
set_option linter.unusedVariables false

theorem need_any (A : Option Addr) (n c : Nat) (zs : List Int) (x y : Int) (w : World) (hr : Rd w A n (ic zs)) (hm : n ≤ 9223372036854775807) (hy : QM.NeedIs zs x y) :
    Calls Try.prog 93 #[.slice A n c] w fun e w' => e = .returned (.tuple #[.int .i64 x, .int .i64 y]) ∧ w = w' := by
  have hl : zs.length = n := by have := hr.1; rwa [ic_length] at this
  obtain ⟨hc, h⟩ := hy
  have HC := Lib.hid hc; clear hc
  rw [hl] at h
  clear hl
  rcases h with ⟨rfl, rfl⟩ | ⟨h0, rfl⟩
  · go_enter Try.func93, Try.ntmps93
    go_wp2_with fail
    refine (qcheck_any A n c zs _ _ hr hm HC.out).mono ?_
    rintro e w1 ⟨rfl, rfl⟩
    go_wp2
    go_ret2
    exact ⟨rfl, rfl⟩
  · have h1 : (y != 0) = true := by simpa using h0
    go_enter Try.func93, Try.ntmps93
    go_wp2_with fail
    refine (qcheck_any A n c zs _ _ hr hm HC.out).mono ?_
    rintro e w1 ⟨rfl, rfl⟩
    go_wp2
    go_ret2
    exact ⟨rfl, rfl⟩
theorem ret_bi {a b : Bool} {y : Int} (h : a = b) : Ending.returned (.tuple #[.bool a, .int .i64 y]) = .returned (.tuple #[.bool b, .int .i64 y]) := by rw [h]

set_option maxHeartbeats 1000000 in
theorem most_any (A : Option Addr) (n c : Nat) (zs : List Int) (B : Option Addr) (m d : Nat) (ys : List Int) (b : Bool) (y : Int) (w : World) (hr : Rd w A n (ic zs)) (hm : n ≤ 9223372036854775807)
    (hr2 : Rd w B m (ic ys)) (hm2 : m ≤ 9223372036854775807) (hy : QM.MostIs zs ys b y) :
    Calls Try.prog 89 #[.slice A n c, .slice B m d] w fun e w' => e = .returned (.tuple #[.bool b, .int .i64 y]) ∧ w = w' := by
  have hl : zs.length = n := by have := hr.1; rwa [ic_length] at this
  have hl2 : ys.length = m := by have := hr2.1; rwa [ic_length] at this
  rcases hy with ⟨hc, h0, rfl⟩ | ⟨hc, h1, rfl, rfl⟩ | ⟨hc, h1, hb, rfl⟩
  · have hn : QM.NeedIs zs 0 y := ⟨hc, .inr ⟨h0, rfl⟩⟩
    have HN := Lib.hid hn
    have hne : (y != 0) = true := by simpa using h0
    clear hn hc h0 hl hl2
    go_enter Try.func89, Try.ntmps89
    go_wp2_with fail
    refine (need_any A n c zs 0 y _ hr hm HN.out).mono ?_
    rintro e w1 ⟨rfl, rfl⟩
    go_wp2
    go_ret2
    exact ⟨rfl, rfl⟩
  · have hn : QM.NeedIs zs _ 0 := ⟨hc, .inl ⟨rfl, rfl⟩⟩
    generalize hx : (zs.length : Int) / 2 + 1 = x at hn
    have HN := Lib.hid hn
    rw [hl2] at h1
    clear hn hc hl hl2 hx
    go_enter Try.func89, Try.ntmps89
    go_wp2_with fail
    refine (need_any A n c zs x 0 _ hr hm HN.out).mono ?_
    rintro e w1 ⟨rfl, rfl⟩
    go_wp2
    go_ret2
    exact ⟨rfl, rfl⟩
  · have hn : QM.NeedIs zs _ 0 := ⟨hc, .inl ⟨rfl, rfl⟩⟩
    have hmay : QM.may zs = true := by
      rcases QM.chkIs_cases hc with ⟨_, h⟩ | ⟨_, h⟩
      · exact h
      · omega
    obtain ⟨_, h6, hrise⟩ := QM.may_len hmay
    have hones := QM.ones_cnt (n := ys) hrise
    have hb' : decide ((zs.length : Int) / 2 + 1 ≤ (Lib.onesCount (QM.set zs &&& QM.set ys) : Int)) = b := by
      rw [hb, hones, Bool.eq_iff_iff]
      simp
      omega
    generalize hx : (zs.length : Int) / 2 + 1 = x at hn hb'
    rw [hl2] at h1
    have hs1 := QM.set_lt zs
    have hs2 := QM.set_lt ys
    have c1 := set_any A n c zs w hr hm
    have c2 := set_any B m d ys w hr2 hm2
    generalize QM.set zs = s at hs1 hb' c1
    generalize QM.set ys = t at hs2 hb' c2
    have hand := u8_ands s t hs1 hs2
    have hlt : s &&& t < 64 := Nat.lt_of_le_of_lt Nat.and_le_left hs1
    have c3 := ones_any (s &&& t) w hlt
    generalize Lib.onesCount (s &&& t) = q at hb' c3
    rw [← hand] at c3
    have HN := Lib.hid hn
    have HB := Lib.hid hb'
    have C1 := Lib.hid c1
    have C2 := Lib.hid c2
    have C3 := Lib.hid c3
    clear hn hc hl hl2 hx hb' hb hones hmay h6 hrise hs1 hs2 c1 c2 c3 hand hlt
    go_enter Try.func89, Try.ntmps89
    go_wp2_with fail
    refine (need_any A n c zs x 0 _ hr hm HN.out).mono ?_
    rintro e w1 ⟨rfl, rfl⟩
    go_wp2_with fail
    refine C1.out.mono ?_
    rintro e w1 ⟨rfl, rfl⟩
    go_wp2_with fail
    refine C2.out.mono ?_
    rintro e w1 ⟨rfl, rfl⟩
    go_wp2_with fail
    refine C3.out.mono ?_
    rintro e w1 ⟨rfl, rfl⟩
    go_wp2
    go_ret2
    exact ⟨ret_bi HB.out, rfl⟩

theorem set_quiet (A : Option Addr) (n c : Nat) (zs : List Int) (W : World) (q : Nat) (hr : Rd W A n (ic zs)) (hm : n ≤ 9223372036854775807) :
    Calls Try.prog 91 #[.slice A n c] (W.drewN q) fun e w' => e = .returned (.int .u8 (QM.set zs : Int)) ∧ ∃ m, w' = W.drewN m :=
  (set_any A n c zs (W.drewN q) (hr.drewN q) hm).mono fun _ _ ⟨a, b⟩ => ⟨a, q, b.symm⟩

set_option maxHeartbeats 1000000 in
theorem checkGroup_any (A : Option Addr) (n c : Nat) (rs : List Int) (B : Option Addr) (m d : Nat) (ms : List Int) (y : Int) (w : World) (hr : Rd w A n (ic rs)) (hm : n ≤ 9223372036854775807)
    (hr2 : Rd w B m (ic ms)) (hm2 : m ≤ 9223372036854775807) (hy : QM.GrpIs rs ms y) :
    Calls Try.prog 87 #[.agg #[.slice A n c, .slice B m d]] w fun e w' => e = .returned (.int .i64 y) ∧ Below w.heap.size w w' := by
  rcases hy with ⟨hc, h0⟩ | ⟨hc, hc2, h0⟩ | ⟨hc, hc2, hb⟩
  · have HC := Lib.hid hc
    have hne : (y != 0) = true := by simpa using h0
    clear hc h0
    go_enter Try.func87, Try.ntmps87
    go_wp2_with fail
    refine (qcheck_any A n c rs y _ (hr.alloc _) hm HC.out).mono ?_
    rintro e w1 ⟨rfl, rfl⟩
    go_wp2
    go_ret
    exact ⟨rfl, (Below.refl _ _).alloc (Nat.le_refl _) _⟩
  · have HC := Lib.hid hc
    have HC2 := Lib.hid hc2
    have hne : (y != 0) = true := by simpa using h0
    clear hc hc2 h0
    go_enter Try.func87, Try.ntmps87
    go_wp2_with fail
    refine (qcheck_any A n c rs 0 _ (hr.alloc _) hm HC.out).mono ?_
    rintro e w1 ⟨rfl, rfl⟩
    go_wp2_with fail
    refine (qcheck_any B m d ms y _ (hr2.alloc _) hm2 HC2.out).mono ?_
    rintro e w1 ⟨rfl, rfl⟩
    go_wp2
    go_ret
    exact ⟨rfl, (Below.refl _ _).alloc (Nat.le_refl _) _⟩
  · have hmay : QM.may ms = true := by
      rcases QM.chkIs_cases hc2 with ⟨_, h⟩ | ⟨_, h⟩
      · exact h
      · omega
    obtain ⟨_, h6, hrise⟩ := QM.may_len hmay
    have hw := QM.within_bits (r := rs) hrise
    have hs1 := QM.set_lt ms
    have hs2 := QM.set_lt rs
    have hnot := u8_nots _ _ hs1 hs2
    have HC := Lib.hid hc
    have HC2 := Lib.hid hc2
    have c1 := fun W q (h : Rd W B m (ic ms)) => set_quiet B m d ms W q h hm2
    have c2 := fun W q (h : Rd W A n (ic rs)) => set_quiet A n c rs W q h hm
    generalize QM.set ms = s at hw hnot hs1 c1
    generalize QM.set rs = t at hw hnot hs2 c2
    have C1 := Lib.hid c1
    have C2 := Lib.hid c2
    rcases hin : QM.within ms rs with _ | _
    · have hne : (bits .andNot .u8 (s : Int) (t : Int) != 0) = true := by
        rw [hnot]
        have : s &&& (63 ^^^ t) ≠ 0 := fun e => by rw [hw.1 e] at hin; cases hin
        simp
        omega
      rw [hin] at hb
      obtain rfl : y = 60 := by simpa using hb
      clear hc hc2 hmay h6 hrise hw hnot c1 c2 hin hb
      go_enter Try.func87, Try.ntmps87
      go_wp2_with fail
      refine (qcheck_any A n c rs 0 _ (hr.alloc _) hm HC.out).mono ?_
      rintro e w1 ⟨rfl, rfl⟩
      go_wp2_with fail
      refine (qcheck_any B m d ms 0 _ (hr2.alloc _) hm2 HC2.out).mono ?_
      rintro e w1 ⟨rfl, rfl⟩
      go_wp2_with fail
      go_quiet ((first | (go_at_call 91; with_reducible exact C1.out _ _ (hr2.alloc _)) | (go_at_call 91; with_reducible exact C2.out _ _ (hr.alloc _))))
      go_wp2
      go_ret
      exact ⟨rfl, below_drewN ((Below.refl _ _).alloc (Nat.le_refl _) _) _⟩
    · have hne : (bits .andNot .u8 (s : Int) (t : Int) != 0) = false := by
        rw [hnot, hw.2 hin]
        simp
      rw [hin] at hb
      obtain rfl : y = 0 := by simpa using hb
      clear hc hc2 hmay h6 hrise hw hnot c1 c2 hin hb
      go_enter Try.func87, Try.ntmps87
      go_wp2_with fail
      refine (qcheck_any A n c rs 0 _ (hr.alloc _) hm HC.out).mono ?_
      rintro e w1 ⟨rfl, rfl⟩
      go_wp2_with fail
      refine (qcheck_any B m d ms 0 _ (hr2.alloc _) hm2 HC2.out).mono ?_
      rintro e w1 ⟨rfl, rfl⟩
      go_wp2_with fail
      go_quiet ((first | (go_at_call 91; with_reducible exact C1.out _ _ (hr2.alloc _)) | (go_at_call 91; with_reducible exact C2.out _ _ (hr.alloc _))))
      go_wp2
      go_ret
      exact ⟨rfl, below_drewN ((Below.refl _ _).alloc (Nat.le_refl _) _) _⟩
end Go.Proofs.Ytiiobafcgdelmaa
