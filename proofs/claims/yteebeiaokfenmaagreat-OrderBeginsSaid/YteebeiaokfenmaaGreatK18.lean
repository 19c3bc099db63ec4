/-
  Masks and shifts on ints that are not negative. No program.
  What num.appendNumber does: a number's bytes behind a slice. Conditions: as each theorem says.
  What num.Get does: for whatever bytes it answers what the plain function dec says, and writes nothing. Conditions: the slice reads as bytes.
  What num.Text and num.GetText do, for every text and whatever bytes. Conditions: the slice reads as bytes.
  What num.Text and num.GetText answer, in one form each (an error and what stands beside it), and at literals. Conditions: as each theorem says.
  What num.mayBeWritten and num.Put do. Conditions: as each theorem says.
  What num.Ints and num.GetInts do, for every list and whatever bytes. Conditions: the slices read as numbers, as bytes.
  What num.GetInts does, for whatever bytes and bound. Conditions: the slice reads as bytes.
  What num.Put, num.Ints, num.Get and num.GetInts answer, in one form each, and at literals. Conditions: as each theorem says.
-/
import Derived.WalkKit
import Derived.Laws.BitsLemmas
import Derived.IntWalk
import Derived.Test.YteebeiaokfenmaaGreatRows
import Derived.Test.YteebeiaokfenmaaGreatK01
import Derived.Outline
import Derived.Deep.QuietTactic
import Derived.BigQuiet
import Derived.Deep.DeepCutAuto
namespace Go.Proofs.YteebeiaokfenmaaGreat.NB

theorem wraps63 (n : Int) (h₀ : 0 ≤ n) (h₁ : n < 2 ^ 63) : IntKind.i64.wrap n = n := by rw [IntKind.wrap_i64]; omega

theorem and127 (m : Nat) (h : m < 9223372036854775808) : bits .and .i64 (m : Int) 127 = ((m % 128 : Nat) : Int) := by
  have e := bits_mask .i64 63 (by decide) wraps63 7 (by decide) (m : Int) (by omega) (by omega)
  have e1 : ((2 : Int) ^ 7 - 1) = 127 := by decide
  have e2 : ((2 : Int) ^ 7) = 128 := by decide
  rw [e1, e2] at e
  rw [e]; omega
theorem or128 (x : Nat) (h : x < 128) : bits .or .i64 (x : Int) 128 = ((x + 128 : Nat) : Int) := by
  have e := (bits_nat .i64 63 (by decide) wraps63 x 128 (by omega) (by decide)).2
  rw [show ((128 : Nat) : Int) = 128 from rfl] at e
  rw [e]
  congr 1
  have := Nat.two_pow_add_eq_or_of_lt (i := 7) (b := x) (by omega) 1
  rw [Nat.or_comm]
  simp only [Nat.reducePow, Nat.mul_one] at this
  omega
theorem and128 (x : Nat) (h : x < 256) : bits .and .i64 (x : Int) 128 = if x < 128 then 0 else 128 := by
  have e := (bits_nat .i64 63 (by decide) wraps63 x 128 (by omega) (by decide)).1
  rw [show ((128 : Nat) : Int) = 128 from rfl] at e
  rw [e]
  have h2 : ∀ y : Fin 256, ((y.val &&& 128 : Nat) : Int) = if y.val < 128 then 0 else 128 := by decide +kernel
  exact h2 ⟨x, h⟩
/-- lower bits, and higher ones -/
theorem or_add (a b k : Nat) (ha : a < 128 ^ k) (hb : b < 128) (hk : k < 6) : bits .or .i64 (a : Int) ((128 ^ k * b : Nat) : Int) = ((a + 128 ^ k * b : Nat) : Int) := by
  have hp : 128 ^ k = 2 ^ (7 * k) := by rw [Nat.pow_mul]
  have hle : (128 : Nat) ^ k ≤ 128 ^ 5 := Nat.pow_le_pow_right (by omega) (by omega)
  have hm : 128 ^ k * b < 9223372036854775808 := by
    have : 128 ^ k * b ≤ 128 ^ 5 * 127 := Nat.mul_le_mul hle (by omega)
    omega
  have e := (bits_nat .i64 63 (by decide) wraps63 a (128 ^ k * b) (by omega) (by omega)).2
  rw [e]
  congr 1
  rw [hp] at ha ⊢
  rw [Nat.or_comm, ← Nat.two_pow_add_eq_or_of_lt ha]
  omega
theorem shl_wrap (x k : Nat) (hx : x < 128) (hk : k < 6) : RowKit.wrap64 ((x : Int) * 2 ^ (7 * k)) = ((128 ^ k * x : Nat) : Int) := by
  have hp : (128 : Nat) ^ k = 2 ^ (7 * k) := by rw [Nat.pow_mul]
  have hle : (128 : Nat) ^ k ≤ 128 ^ 5 := Nat.pow_le_pow_right (by omega) (by omega)
  have hm : 128 ^ k * x < 9223372036854775808 := by
    have : 128 ^ k * x ≤ 128 ^ 5 * 127 := Nat.mul_le_mul hle (by omega)
    omega
  have e : ((x : Int) * 2 ^ (7 * k)) = ((128 ^ k * x : Nat) : Int) := by
    rw [hp]; push_cast; exact Int.mul_comm _ _
  rw [e, IntWalk.wrap64_in _ ⟨by omega, by omega⟩]
theorem mul_wrap (x k : Nat) (hx : x < 128) (hk : k < 6) : RowKit.wrap64 ((x : Int) * ((128 ^ k : Nat) : Int)) = ((128 ^ k * x : Nat) : Int) := by
  have hle : (128 : Nat) ^ k ≤ 128 ^ 5 := Nat.pow_le_pow_right (by omega) (by omega)
  have hm : 128 ^ k * x < 9223372036854775808 := by
    have : 128 ^ k * x ≤ 128 ^ 5 * 127 := Nat.mul_le_mul hle (by omega)
    omega
  generalize 128 ^ k = U at hm
  have e : ((x : Int) * (U : Int)) = ((U * x : Nat) : Int) := by push_cast; exact Int.mul_comm _ _
  rw [e, IntWalk.wrap64_in _ ⟨by omega, by omega⟩]
theorem neq128 (p : Nat) (h : p < 256) : (bits .and .i64 (p : Int) 128 != 0) = decide (128 ≤ p) := by
  rw [and128 p h]
  by_cases hp : p < 128
  · rw [if_pos hp]; simp; omega
  · rw [if_neg hp]; simp; omega
end Go.Proofs.YteebeiaokfenmaaGreat.NB

namespace Go.Proofs.YteebeiaokfenmaaGreat
open Go.RowKit
set_option linter.unusedVariables false
set_option maxRecDepth 100000

theorem info_u8 : (Tryz.prog.info? 5).map (fun i => (i.zero, i.size, i.bytes)) = some (some (.int .u8 0), 1, 1) := by kernel_rfl
theorem info_int : (Tryz.prog.info? 3).map (fun i => (i.zero, i.size, i.bytes)) = some (some (.int .i64 0), 1, 8) := by kernel_rfl

set_option maxHeartbeats 400000 in
theorem appendNumber_any (base : Nat) (v : Value) (len : Nat) (xs : List Value) (n : Nat) (w : World) (hn : n ≤ 1099511627776) (hlen : len ≤ 1000000) (hown : w.ownsRow base 5 1 v len xs) (hbase : base ≤ w.heap.size) :
    Calls Tryz.prog 94 #[v, .int .i64 n] w fun e w' => ∃ v', e = .returned v' ∧ w'.ownsRow base 5 1 v' (len + (NM.enc n).length) (xs ++ bc (NM.enc n)) ∧ w.grownBy w' v.ownBlock ∧
      (v'.ownBlock = v.ownBlock ∨ ∀ g, v'.ownBlock = some g → w.heap.size ≤ g) := by
  obtain ⟨i0, hi, hz0, hz1, hz2⟩ := info_parts info_u8
  go_enter Tryz.func94, Tryz.ntmps94
  go_wp2
  go_loopw [0, 1] (fun u i wr => ∃ (f m : Nat) (pre : List UInt8), i = .int .i64 m ∧ f + pre.length = 5 ∧ m < 128 ^ (f + 1) ∧ m ≤ n ∧ pre ++ NM.encF f m = NM.enc n ∧ wr.ownsRow base 5 1 u (len + pre.length) (xs ++ bc pre) ∧
      w.grownBy wr v.ownBlock ∧ (u.ownBlock = v.ownBlock ∨ ∀ g, u.ownBlock = some g → w.heap.size ≤ g)) (fun _ i _ => (intOf i).toNat)
  case atStart => exact ⟨5, n, [], rfl, rfl, by omega, Nat.le_refl _, rfl, by simpa [bc] using hown, World.grownBy.refl _ _, .inl rfl⟩
  case round =>
    obtain ⟨f, m, pre, rfl, hf, hm, hmn, hpre, hown1, hg, hob⟩ := hrel
    have hml : m < 9223372036854775808 := by omega
    have hbsz : base ≤ wr.heap.size := Nat.le_trans hbase hg.size
    by_cases hlt : 127 < m
    · have hf1 : 0 < f := by
        rcases Nat.eq_zero_or_pos f with h0 | h0
        · subst h0; simp at hm; omega
        · exact h0
      obtain ⟨f, rfl⟩ : ∃ g, f = g + 1 := ⟨f - 1, by omega⟩
      have hm2 : m / 128 < 128 ^ (f + 1) := by rw [Nat.pow_succ] at hm; omega
      have hpre2 : (pre ++ [UInt8.ofNat (m % 128 + 128)]) ++ NM.encF f (m / 128) = NM.enc n := by
        rw [← hpre, NM.encF, if_neg (by omega)]; simp
      have hb1 := NB.and127 m hml
      have hb2 := NB.or128 (m % 128) (by omega)
      obtain ⟨y, hy⟩ : ∃ y, y = m % 128 + 128 := ⟨_, rfl⟩
      obtain ⟨x, hx⟩ : ∃ x, x = m % 128 := ⟨_, rfl⟩
      rw [← hx] at hb1 hb2
      rw [← hx] at hy
      rw [← hy] at hb2
      have hb3 : (y : Int) % 256 = y := by omega
      have hby : (UInt8.ofNat y).toNat = y := NM.toNat_ofNat y (by omega)
      have HM := Lib.hid hm2; clear hm2
      have HP := Lib.hid hpre2; clear hpre2 hpre
      have HX := Lib.hid hx; clear hx
      have HY := Lib.hid hy; clear hy
      have HB := Lib.hid hby; clear hby
      have HF := Lib.hid hf; clear hf hm
      have HO := Lib.hid hob; clear hob
      go_wp2_with (at_builtin; refine wpList_append_rd _ rfl _ _ 120 rfl base 5 i0 (.int .u8 0) 1 Tryz.underlying120 hi hz0 hz1 hz2 rfl _ _ _ rfl (hown1.alloc _) (some ⟨wr.heap.size, 0, none⟩) 1 1 [.int .u8 (y : Int)] rfl (rd_new _ _ _) (by intro u hu; simp at hu; subst hu; rfl) (by have := HF.out; unfold maxLen; omega) (by have := HF.out; omega) (by simp; omega) ?_; intro v2 w2 hown2 hg2 hob2)
      have hgA := grown_more (grown_alloc hg _) hg2 HO.out
      have hobA := ob_more HO.out hob2 (by have := hg.size; simp; omega)
      clear hg2 hob2
      go_roundw
      case rel =>
        refine ⟨f, m / 128, pre ++ [UInt8.ofNat y], ?_, by have := HF.out; simp; omega, HM.out, by omega, by rw [HY.out, HX.out]; exact HP.out, own_snoc hown2 HB.out, hgA, hobA⟩
        go_num
      case measure => simp [intOf]; omega
    · go_wp2_with (at_builtin; refine wpList_append_rd _ rfl _ _ 120 rfl base 5 i0 (.int .u8 0) 1 Tryz.underlying120 hi hz0 hz1 hz2 rfl _ _ _ rfl (hown1.alloc _) (some ⟨wr.heap.size, 0, none⟩) 1 1 [.int .u8 (m : Int)] rfl (rd_new _ _ _) (by intro u hu; simp at hu; subst hu; rfl) (by unfold maxLen; omega) (by omega) (by simp; omega) ?_; intro v2 w2 hown2 hg2 hob2)
      have hgA := grown_more (grown_alloc hg _) hg2 hob
      have hobA := ob_more hob hob2 (by have := hg.size; simp; omega)
      go_ret
      have hme : NM.enc n = pre ++ [UInt8.ofNat m] := by
        rw [← hpre]
        cases f with
        | zero => rfl
        | succ f => rw [NM.encF, if_pos (by omega)]
      refine ⟨v2, rfl, ?_, hgA, hobA⟩
      rw [hme]
      exact own_snoc hown2 (NM.toNat_ofNat m (by omega))

end Go.Proofs.YteebeiaokfenmaaGreat

namespace Go.Proofs.YteebeiaokfenmaaGreat
open Go.RowKit
set_option linter.unusedVariables false
set_option maxRecDepth 100000

def getRes : Option (Nat × Nat) → Value
  | none => .tuple #[.int .i64 0, .int .i64 0, .int .i64 8]
  | some (n, k) => .tuple #[.int .i64 n, .int .i64 k, .int .i64 0]

set_option maxHeartbeats 1000000 in
theorem get_any (A : Option Addr) (n c : Nat) (l : List UInt8) (w : World) (hr : Rd w A n (bc l)) (hm : n ≤ maxLen) :
    Calls Tryz.prog 124 #[.slice A n c] w fun e w' => e = .returned (getRes (NM.dec l)) ∧ w = w' := by
  unfold maxLen at hm
  have hl : l.length = n := by have := hr.1; rwa [bc_length] at this
  have HL := Lib.hid hl; clear hl
  go_enter Tryz.func124, Tryz.ntmps124
  go_wp2
  go_loop [2, 3] (fun nv sv => ∃ k acc : Nat, k ≤ n ∧ k ≤ 6 ∧ sv = .int .i64 k ∧ nv = .int .i64 acc ∧ acc < 128 ^ k ∧ NM.lift acc k (NM.decR (6 - k) (l.drop k)) = NM.decR 6 l) (fun _ s => 6 - (intOf s).toNat)
  case atStart => exact ⟨0, 0, by omega, by omega, rfl, rfl, by simp, by rw [NM.lift_zero]; rfl⟩
  case round =>
    obtain ⟨k, acc, hk, hk6, rfl, rfl, hacc, hrel⟩ := hrel
    have HR := Lib.hid hrel; clear hrel
    by_cases hlt : k < n
    · by_cases hlt6 : k < 6
      · obtain ⟨ad, u, rfl, _, hu, hcell⟩ := hr.at_ hlt
        have hkl : k < l.length := by have := HL.out; omega
        rw [bc_get l k hkl] at hu
        injection hu with hu
        subst hu
        obtain ⟨p, hp⟩ : ∃ p, p = l[k].toNat := ⟨_, rfl⟩
        have hp256 : p < 256 := by rw [hp]; exact UInt8.toNat_lt _
        rw [← hp] at hcell
        have HP := Lib.hid hp; clear hp
        obtain ⟨x, hx⟩ : ∃ x, x = p % 128 := ⟨_, rfl⟩
        have hx128 : x < 128 := by omega
        obtain ⟨y, hy⟩ : ∃ y, y = 128 ^ k * x := ⟨_, rfl⟩
        obtain ⟨z, hz⟩ : ∃ z, z = acc + 128 ^ k * x := ⟨_, rfl⟩
        have hzs : z < 4398046511104 := by rw [hz]; exact NM.acc_small acc k x hacc hx128 hlt6
        have hb1 : bits .and .i64 (p : Int) 127 = (x : Int) := by rw [NB.and127 p (by omega), hx]
        have hb2 : wrap64 ((x : Int) * 2 ^ (7 * k)) = (y : Int) := by rw [NB.shl_wrap x k hx128 hlt6, hy]
        have hb3 : bits .or .i64 (acc : Int) (y : Int) = (z : Int) := by rw [hy, NB.or_add acc x k hacc hx128 hlt6, hz]
        have hb4 := NB.neq128 p hp256
        have hzl : z < 128 ^ (k + 1) := by rw [hz]; exact NM.acc_lt acc k x hacc hx128
        have HX := Lib.hid hx; clear hx
        have HY := Lib.hid hy; clear hy
        have HZ := Lib.hid hz; clear hz
        have HZL := Lib.hid hzl; clear hzl hacc
        by_cases h128 : 128 ≤ p
        · have hb5 : (bits .and .i64 (p : Int) 128 != 0) = true := by rw [hb4]; simpa using h128
          clear hb4
          go_wp2
          go_round
          case rel =>
            refine ⟨k + 1, z, by omega, by omega, by go_num, rfl, HZL.out, ?_⟩
            have e := NM.step_more acc k l _ hkl hlt6 HR.out (by have := HP.out; omega)
            rw [← HP.out, ← HX.out, ← HZ.out] at e
            exact e
          case measure => simp [intOf]; omega
        · have hb5 : (bits .and .i64 (p : Int) 128 != 0) = false := by rw [hb4]; simpa using h128
          clear hb4
          have hfin := NM.step_last acc k l hkl hlt6 HR.out (by have := HP.out; omega)
          rw [← HP.out, show p = x by have := HX.out; omega, ← HZ.out] at hfin
          have HFin := Lib.hid hfin; clear hfin
          by_cases hbig : 1099511627776 < z
          · go_wp2
            go_ret3
            refine ⟨?_, rfl⟩
            rw [HFin.out, if_pos (Or.inr hbig)]; rfl
          · have hbig' : z ≤ 1099511627776 := by omega
            by_cases hp0 : p = 0
            · have hp0' : ((p : Int) == 0) = true := by simp [hp0]
              have HX0 : x = 0 := by have := HX.out; omega
              have HXH := Lib.hid HX0; clear HX0
              have HP0 := Lib.hid hp0; clear hp0
              by_cases hk0 : 0 < k
              · go_wp2
                all_goals go_ret3
                all_goals refine ⟨?_, rfl⟩
                all_goals (rw [HFin.out, if_pos (Or.inl ⟨hk0, HXH.out⟩)]; rfl)
              · go_wp2
                all_goals go_ret3
                all_goals refine ⟨?_, rfl⟩
                all_goals (rw [HFin.out, if_neg (by omega)]; rfl)
            · have hp0' : ((p : Int) == 0) = false := by simp [hp0]
              have HXH : x ≠ 0 := by have := HX.out; omega
              go_wp2
              all_goals go_ret3
              all_goals refine ⟨?_, rfl⟩
              all_goals (rw [HFin.out, if_neg (by omega)]; rfl)
      · have hfin := NM.step_end acc k l (by omega) hk6 HR.out
        have HFin := Lib.hid hfin; clear hfin
        go_wp2
        go_ret3
        refine ⟨?_, rfl⟩
        rw [HFin.out]; rfl
    · have hfin := NM.step_end acc k l (by have := HL.out; omega) hk6 HR.out
      have HFin := Lib.hid hfin; clear hfin
      go_wp2
      go_ret3
      refine ⟨?_, rfl⟩
      rw [HFin.out]; rfl
end Go.Proofs.YteebeiaokfenmaaGreat

namespace Go.Proofs.YteebeiaokfenmaaGreat
open Go.RowKit
set_option linter.unusedVariables false
set_option maxRecDepth 100000

theorem text_len (s : ByteArray) : s.data.toList.length = s.size := by rw [Array.length_toList]; rfl

set_option maxHeartbeats 400000 in
theorem text_ok (s : ByteArray) (w : World) (hs : s.size ≤ 4096) :
    Calls Tryz.prog 71 #[.string s] w fun e w' => ∃ v, e = .returned (.tuple #[v, .int .i64 0]) ∧ w'.ownsRow w.heap.size 5 1 v (NM.text s.data.toList).length (bc (NM.text s.data.toList)) ∧ Below w.heap.size w w' := by
  obtain ⟨i0, hi, hz0, hz1, hz2⟩ := info_parts info_u8
  have hl := NM.enc_le s.size
  go_enter Tryz.func71, Tryz.ntmps71
  go_wp2_with (first
    | (go_at_call 94; refine (appendNumber_any w.heap.size _ 0 [] s.size _ (by omega) (by omega) (World.ownsRow_nil _ _ _ _) (Nat.le_refl _)).mono ?_; rintro e w1 ⟨v1, rfl, hown, hg, hob⟩; simp only [Nat.zero_add, List.nil_append] at hown)
    | (at_builtin; refine Lib.wpList_append_own_string _ rfl _ _ 120 9 rfl w.heap.size 5 i0 Tryz.underlying120 Tryz.underlying9 hi hz0 hz1 hz2 _ _ _ rfl hown s rfl (by unfold maxLen; omega) (by omega) hg.size ?_; intro v2 w2 hown2 hg2 _))
  go_ret2
  have hb := below_of_grown hg (by simp [Value.ownBlock])
  refine ⟨v2, rfl, ?_, ?_⟩
  · rw [bc_str, ← bc_append] at hown2
    unfold NM.text
    rw [List.length_append, text_len]
    exact hown2
  · exact hb.grown hg2 hb.size (fun k hk => by
      rcases hob with e | e
      · have hk' : v1.ownBlock = some k := hk
        rw [e] at hk'; simp [Value.ownBlock] at hk'
      · exact e k hk)
theorem text_no (s : ByteArray) (w : World) (hs : 4096 < s.size) :
    Calls Tryz.prog 71 #[.string s] w fun e w' => e = .returned (.tuple #[.slice none 0 0, .int .i64 3]) ∧ w = w' := by
  go_enter Tryz.func71, Tryz.ntmps71
  go_wp2
  go_ret2
  exact ⟨rfl, rfl⟩

def textRes : Option (List UInt8 × Nat) → Value
  | none => .tuple #[.string ⟨#[]⟩, .int .i64 0, .int .i64 8]
  | some (t, k) => .tuple #[.string ⟨t.toArray⟩, .int .i64 k, .int .i64 0]

set_option maxHeartbeats 1000000 in
theorem getText_any (A : Option Addr) (n c : Nat) (l : List UInt8) (w : World) (hr : Rd w A n (bc l)) (hnc : n ≤ c) (hm : c ≤ maxLen) :
    Calls Tryz.prog 128 #[.slice A n c] w fun e w' => e = .returned (textRes (NM.getText l)) ∧ w = w' := by
  have hg := get_any A n c l w hr (Nat.le_trans hnc hm)
  unfold maxLen at hm
  have hl : l.length = n := by have := hr.1; rwa [bc_length] at this
  have HL := Lib.hid hl; clear hl
  rcases hd : NM.dec l with _ | ⟨x, k⟩
  · rw [hd] at hg
    have hfin : NM.getText l = none := by unfold NM.getText; rw [hd]
    have HF := Lib.hid hfin; clear hfin hd
    have HG := Lib.hid hg; clear hg
    go_enter Tryz.func128, Tryz.ntmps128
    go_wp2_with (go_at_call 124; refine (HG.out).mono ?_; rintro e w' ⟨rfl, rfl⟩; unfold getRes)
    go_ret3
    rw [HF.out]
    exact ⟨rfl, rfl⟩
  · have hb := NM.dec_bound l x k hd
    rw [hd] at hg
    obtain ⟨hx, hk1, hkl, hk6, _⟩ := hb
    rw [HL.out] at hkl
    have hfin : NM.getText l = if x ≤ 4096 ∧ x ≤ n - k then some ((l.drop k).take x, k + x) else none := by unfold NM.getText; rw [hd]; simp only [HL.out]
    have HF := Lib.hid hfin; clear hfin hd
    have HG := Lib.hid hg; clear hg
    by_cases h1 : x ≤ 4096
    · by_cases h2 : x ≤ n - k
      · have hkx : k + x ≤ n := by omega
        have hc1 : ∀ cap, (convert 120 9 (.slice (Option.map (fun x => x.add k) A) x cap)).run Tryz.prog w = .ok (.string ⟨((l.drop k).take x).toArray⟩) w := fun cap =>
          run_string_of w _ _ 5 _ _ cap ((l.drop k).take x) Tryz.underlying120 Tryz.underlying5 Tryz.underlying9 (by rw [← bc_take, ← bc_drop]; exact hr.mid hkx)
        obtain ⟨t, ht⟩ : ∃ t, t = (l.drop k).take x := ⟨_, rfl⟩
        rw [← ht] at hc1
        have HT := Lib.hid ht; clear ht
        have HR := Lib.hid hr; clear hr
        by_cases hck : c = k
        · obtain rfl : x = 0 := by omega
          have hc2 : ∀ cap, (convert 120 9 (.slice A 0 cap)).run Tryz.prog w = .ok (.string ⟨t.toArray⟩) w := fun cap =>
            run_string_of w _ _ 5 _ _ cap t Tryz.underlying120 Tryz.underlying5 Tryz.underlying9 (by rw [HT.out]; simpa [bc] using Rd.nil)
          subst hck
          go_enter Tryz.func128, Tryz.ntmps128
          go_wp2_with (go_at_call 124; refine (HG.out).mono ?_; rintro e w' ⟨rfl, rfl⟩; unfold getRes)
          go_ret3
          rw [HF.out, if_pos (by omega), HT.out]
          exact ⟨rfl, rfl⟩
        · go_enter Tryz.func128, Tryz.ntmps128
          go_wp2_with (go_at_call 124; refine (HG.out).mono ?_; rintro e w' ⟨rfl, rfl⟩; unfold getRes)
          go_ret3
          rw [HF.out, if_pos (by omega), HT.out]
          exact ⟨rfl, rfl⟩
      · have h2' : (n : Int) - k < x := by omega
        go_enter Tryz.func128, Tryz.ntmps128
        go_wp2_with (go_at_call 124; refine (HG.out).mono ?_; rintro e w' ⟨rfl, rfl⟩; unfold getRes)
        go_ret3
        rw [HF.out, if_neg (by omega)]
        exact ⟨rfl, rfl⟩
    · go_enter Tryz.func128, Tryz.ntmps128
      go_wp2_with (go_at_call 124; refine (HG.out).mono ?_; rintro e w' ⟨rfl, rfl⟩; unfold getRes)
      go_ret3
      rw [HF.out, if_neg (by omega)]
      exact ⟨rfl, rfl⟩
end Go.Proofs.YteebeiaokfenmaaGreat

namespace Go.Proofs.YteebeiaokfenmaaGreat
open Go.RowKit
set_option linter.unusedVariables false
set_option maxRecDepth 100000

/-- what Text answers -/
def TextFact (w' : World) (l : List UInt8) (v : Value) (x : Int) : Prop :=
  (l.length ≤ 4096 ∧ x = 0 ∧ ∃ A c, v = .slice A (NM.text l).length c ∧ Rd w' A (NM.text l).length (bc (NM.text l)) ∧ (NM.text l).length ≤ c ∧ c ≤ maxLen) ∨ (4096 < l.length ∧ x = 3 ∧ v = .slice none 0 0)
theorem text_all (l : List UInt8) (w : World) (hl : l.length ≤ 9223372036854775807) :
    Calls Tryz.prog 71 #[.string ⟨l.toArray⟩] w fun e w' => ∃ v x, e = .returned (.tuple #[v, .int .i64 x]) ∧ TextFact w' l v x ∧ Below w.heap.size w w' := by
  by_cases h : l.length ≤ 4096
  · refine (text_ok ⟨l.toArray⟩ w h).mono ?_
    rintro e w' ⟨v, rfl, ho, hb⟩
    obtain ⟨A, c, rfl, h1, h2⟩ := own_slice ho
    exact ⟨_, 0, rfl, .inl ⟨h, rfl, A, c, rfl, Rd.of_own ho, h1, h2⟩, hb⟩
  · refine (text_no ⟨l.toArray⟩ w (by show 4096 < l.toArray.size; simp; omega)).mono ?_
    rintro e w' ⟨rfl, rfl⟩
    exact ⟨_, 3, rfl, .inr ⟨by omega, rfl, rfl⟩, Below.refl _ _⟩

/-- what GetText answers -/
def GetTextFact (l t : List UInt8) (k : Nat) (x : Int) : Prop := (x = 8 ∧ NM.getText l = none ∧ t = [] ∧ k = 0) ∨ (x = 0 ∧ NM.getText l = some (t, k))
theorem getText_all (A : Option Addr) (n c : Nat) (l : List UInt8) (w : World) (hr : Rd w A n (bc l)) (hnc : n ≤ c) (hm : c ≤ maxLen) :
    Calls Tryz.prog 128 #[.slice A n c] w fun e w' => ∃ (t : List UInt8) (k : Nat) (x : Int), e = .returned (.tuple #[.string ⟨t.toArray⟩, .int .i64 k, .int .i64 x]) ∧ GetTextFact l t k x ∧ w = w' := by
  refine (getText_any A n c l w hr hnc hm).mono ?_
  rintro e w' ⟨rfl, rfl⟩
  rcases h : NM.getText l with _ | ⟨t, k⟩
  · exact ⟨[], 0, 8, rfl, .inl ⟨rfl, h, rfl, rfl⟩, rfl⟩
  · exact ⟨t, k, 0, rfl, .inr ⟨rfl, h⟩, rfl⟩

theorem str_at {w : World} {A : Option Addr} {n : Nat} {l : List UInt8} (h : Rd w A n (bc l)) (cap : Nat) : (convert 120 9 (.slice A n cap)).run Tryz.prog w = .ok (.string ⟨l.toArray⟩) w :=
  run_string_of _ _ _ 5 _ _ cap _ Tryz.underlying120 Tryz.underlying5 Tryz.underlying9 h

theorem text_lit (l r : List UInt8) (k : Nat) (w : World) (hl : l.length ≤ 4096) (hr : NM.text l = r) (hk : r.length = k) :
    Calls Tryz.prog 71 #[.string ⟨l.toArray⟩] w fun e w' => ∃ A c, e = .returned (.tuple #[.slice A k c, .int .i64 0]) ∧ Rd w' A k (bc r) ∧ Below w.heap.size w w' := by
  subst hr
  subst hk
  refine (text_all l w (by omega)).mono ?_
  rintro e w' ⟨v, x, rfl, ⟨_, rfl, A, c, rfl, h1, _⟩ | ⟨h, _, _⟩, hb⟩
  · exact ⟨A, c, rfl, h1, hb⟩
  · omega
end Go.Proofs.YteebeiaokfenmaaGreat

namespace Go.Proofs.YteebeiaokfenmaaGreat
open Go.RowKit
set_option linter.unusedVariables false
set_option maxRecDepth 100000

theorem may_any (n : Int) (w : World) (h : 0 ≤ n ∧ n ≤ 1099511627776) :
    Calls Tryz.prog 93 #[.int .i64 n] w fun e w' => e = .returned (.bool true) ∧ w = w' := by
  obtain ⟨h1, h2⟩ := h
  go_enter Tryz.func93, Tryz.ntmps93
  go_wp2
  go_ret
  exact ⟨rfl, rfl⟩
theorem may_not (n : Int) (w : World) (h : ¬ (0 ≤ n ∧ n ≤ 1099511627776)) :
    Calls Tryz.prog 93 #[.int .i64 n] w fun e w' => e = .returned (.bool false) ∧ w = w' := by
  by_cases h1 : 0 ≤ n
  · have h2 : decide (n ≤ 1099511627776) = false := by simp; omega
    clear h
    go_enter Tryz.func93, Tryz.ntmps93
    go_wp2
    go_ret
    exact ⟨rfl, rfl⟩
  · have h2 : n < 0 := by omega
    clear h h1
    go_enter Tryz.func93, Tryz.ntmps93
    go_wp2
    go_ret
    exact ⟨rfl, rfl⟩

/-- a number that may be written: its bytes -/
theorem put_ok (n : Nat) (w : World) (hn : n ≤ 1099511627776) :
    Calls Tryz.prog 68 #[.int .i64 n] w fun e w' => ∃ v, e = .returned (.tuple #[v, .int .i64 0]) ∧ w'.ownsRow w.heap.size 5 1 v (NM.enc n).length (bc (NM.enc n)) ∧ Below w.heap.size w w' := by
  go_enter Tryz.func68, Tryz.ntmps68
  go_wp2_with (first
    | (go_at_call 93; refine (may_any _ _ ⟨by omega, by omega⟩).mono ?_; rintro e w' ⟨rfl, rfl⟩)
    | (go_at_call 94; refine (appendNumber_any w.heap.size _ 0 [] n _ hn (by omega) (World.ownsRow_nil _ _ _ _) (Nat.le_refl _)).mono ?_; rintro e w' ⟨v', rfl, hown, hg, hob⟩))
  go_ret2
  exact ⟨v', rfl, by simpa using hown, below_of_grown hg (by simp [Value.ownBlock])⟩
theorem put_no (n : Int) (w : World) (hn : ¬ (0 ≤ n ∧ n ≤ 1099511627776)) :
    Calls Tryz.prog 68 #[.int .i64 n] w fun e w' => e = .returned (.tuple #[.slice none 0 0, .int .i64 2]) ∧ w = w' := by
  go_enter Tryz.func68, Tryz.ntmps68
  go_wp2_with (go_at_call 93; refine (may_not _ _ hn).mono ?_; rintro e w' ⟨rfl, rfl⟩)
  go_ret2
  exact ⟨rfl, rfl⟩
end Go.Proofs.YteebeiaokfenmaaGreat

namespace Go.Proofs.YteebeiaokfenmaaGreat
open Go.RowKit
set_option linter.unusedVariables false
set_option maxRecDepth 100000

/-- all of them may be written -/
def okAll (zs : List Int) : Prop := ∀ z ∈ zs, 0 ≤ z ∧ z ≤ 1099511627776
def nats (zs : List Int) : List Nat := zs.map Int.toNat
theorem nats_length (zs : List Int) : (nats zs).length = zs.length := by simp [nats]
theorem nats_take (zs : List Int) (k : Nat) (h : k < zs.length) : nats (zs.take (k + 1)) = nats (zs.take k) ++ [zs[k].toNat] := by
  unfold nats
  rw [List.take_succ_eq_append_getElem h, List.map_append]; rfl
theorem okAll_take (zs : List Int) (k : Nat) (h : k < zs.length) (h1 : okAll (zs.take k)) (h2 : 0 ≤ zs[k] ∧ zs[k] ≤ 1099511627776) : okAll (zs.take (k + 1)) := by
  intro z hz
  rw [List.take_succ_eq_append_getElem h, List.mem_append] at hz
  rcases hz with hz | hz
  · exact h1 z hz
  · simp at hz; subst hz; exact h2
/-- what is said of a list that is written -/
def IntsPost (w : World) (zs : List Int) (e : Ending) (w' : World) : Prop :=
  Below w.heap.size w w' ∧ ((okAll zs ∧ ∃ v, e = .returned (.tuple #[v, .int .i64 0]) ∧ w'.ownsRow w.heap.size 5 1 v (NM.ints (nats zs)).length (bc (NM.ints (nats zs)))) ∨
    (¬ okAll zs ∧ e = .returned (.tuple #[.slice none 0 0, .int .i64 2])))

/-- the loop's word: of the first k numbers the bytes stand there -/
def IntsRel (w : World) (zs : List Int) (k : Nat) (u : Value) (wr : World) : Prop :=
  okAll (zs.take k) ∧ wr.ownsRow w.heap.size 5 1 u (NM.enc zs.length ++ NM.body (nats (zs.take k))).length (bc (NM.enc zs.length ++ NM.body (nats (zs.take k)))) ∧ Below w.heap.size w wr
theorem intsRel_next {w wr w2 : World} {zs : List Int} {k x : Nat} {u v : Value} (hk : k < zs.length) (h : IntsRel w zs k u wr) (hx : zs[k] = (x : Int)) (hx2 : x ≤ 1099511627776)
    (ho : w2.ownsRow w.heap.size 5 1 v ((NM.enc zs.length ++ NM.body (nats (zs.take k))).length + (NM.enc x).length) (bc (NM.enc zs.length ++ NM.body (nats (zs.take k))) ++ bc (NM.enc x)))
    (hg : wr.grownBy w2 u.ownBlock) : IntsRel w zs (k + 1) v w2 := by
  obtain ⟨h1, h2, h3⟩ := h
  refine ⟨okAll_take zs k hk h1 (by rw [hx]; omega), ?_, ?_⟩
  · rw [nats_take zs k hk, NM.body_snoc, hx, Int.toNat_natCast, ← List.append_assoc, bc_append (NM.enc zs.length ++ _), List.length_append (bs := NM.enc x)]
    exact ho
  · refine h3.grown hg h3.size fun g hgu => ?_
    rcases h2.2 with ⟨rfl, _⟩ | ⟨g', cap, cur, rfl, hb, _⟩
    · simp [Value.ownBlock] at hgu
    · simp [Value.ownBlock] at hgu; omega

theorem intsRel_below {w wr w2 : World} {zs : List Int} {k : Nat} {u : Value} (h : IntsRel w zs k u wr) (hb : Below wr.heap.size wr w2) : IntsRel w zs k u w2 :=
  ⟨h.1, own_below h.2.1 hb, bmore h.2.2 hb (Nat.le_refl _)⟩

set_option maxHeartbeats 1000000 in
theorem ints_any (A : Option Addr) (n c : Nat) (zs : List Int) (w : World) (hr : Rd w A n (ic zs)) (hn : n ≤ 4096) :
    Calls Tryz.prog 70 #[.slice A n c] w (IntsPost w zs) := by
  have hl : zs.length = n := by have := hr.1; rwa [ic_length] at this
  have HL := Lib.hid hl
  go_enter Tryz.func70, Tryz.ntmps70
  go_wp2_with (go_at_call 94; refine (appendNumber_any w.heap.size _ 0 [] n _ (by omega) (by omega) (World.ownsRow_nil _ _ _ _) (Nat.le_refl _)).mono ?_; rintro e w1 ⟨v1, rfl, hown, hg, hob⟩)
  have hstart : IntsRel w zs 0 v1 w1 := ⟨by intro z hz; simp at hz, by simpa [nats, NM.body, hl] using hown, below_of_grown hg (by simp [Value.ownBlock])⟩
  clear hown hg hob hl
  go_loopw [4, 15] (fun u i wr => ∃ k : Nat, k ≤ n ∧ i = .int .i64 k ∧ IntsRel w zs k u wr) (fun _ i _ => n - (intOf i).toNat)
  case atStart => exact ⟨0, by omega, rfl, hstart⟩
  case round =>
    clear hstart
    obtain ⟨k, hk, rfl, hrel⟩ := hrel
    by_cases hlt : k < n
    · have hkl : k < zs.length := by have := HL.out; omega
      obtain ⟨ad, u, rfl, _, hu, hcell⟩ := (hr.below hrel.2.2).at_ hlt
      rw [ic_get zs k hkl] at hu
      injection hu with hu
      subst hu
      obtain ⟨z, hz⟩ : ∃ z, z = zs[k] := ⟨_, rfl⟩
      rw [← hz] at hcell
      have HZ := Lib.hid hz; clear hz
      by_cases hin : 0 ≤ z ∧ z ≤ 1099511627776
      · obtain ⟨x, rfl⟩ := Int.eq_ofNat_of_zero_le hin.1
        have hx2 : x ≤ 1099511627776 := by omega
        have hle := NM.body_le (nats (zs.take k))
        rw [nats_length, List.length_take] at hle
        have hen := NM.enc_le zs.length
        have hlen : (NM.enc zs.length ++ NM.body (nats (zs.take k))).length ≤ 1000000 := by rw [List.length_append]; omega
        have HR := Lib.hid hrel; clear hrel
        clear hle hen
        have HI := Lib.hid hlen; clear hlen
        go_wp2_with (first
          | (go_at_call 93; refine (may_any _ _ hin).mono ?_; rintro e w' ⟨rfl, rfl⟩)
          | (go_at_call 94; refine (appendNumber_any w.heap.size _ _ _ x _ hx2 HI.out HR.out.2.1 HR.out.2.2.size).mono ?_; rintro e w1 ⟨v1, rfl, hown, hg, hob⟩))
        have hnext := intsRel_next hkl HR.out HZ.out.symm hx2 hown hg
        clear hown hg hob
        go_roundw
        case rel => exact ⟨k + 1, by omega, by go_num, hnext⟩
        case measure => simp [intOf]; omega
      · have hb := hrel.2.2
        have HR := Lib.hid hrel; clear hrel
        go_wp2_with (go_at_call 93; refine (may_not _ _ hin).mono ?_; rintro e w' ⟨rfl, rfl⟩)
        go_ret2
        exact ⟨hb, .inr ⟨fun h => hin (by have := h zs[k] (List.getElem_mem hkl); rw [HZ.out]; exact this), rfl⟩⟩
    · obtain ⟨h1, h2, h3⟩ := hrel
      rw [List.take_of_length_le (by have := HL.out; omega)] at h1 h2
      go_wp2
      go_ret2
      refine ⟨h3, .inl ⟨h1, _, rfl, ?_⟩⟩
      unfold NM.ints
      rw [nats_length]
      exact h2
theorem ints_many (A : Option Addr) (n c : Nat) (w : World) (hn : 4096 < n) (hm : n ≤ maxLen) :
    Calls Tryz.prog 70 #[.slice A n c] w fun e w' => e = .returned (.tuple #[.slice none 0 0, .int .i64 4]) ∧ w = w' := by
  unfold maxLen at hm
  go_enter Tryz.func70, Tryz.ntmps70
  go_wp2
  go_ret2
  exact ⟨rfl, rfl⟩
end Go.Proofs.YteebeiaokfenmaaGreat

namespace Go.Proofs.YteebeiaokfenmaaGreat
open Go.RowKit
set_option linter.unusedVariables false
set_option maxRecDepth 100000

def intsOf (xs : List Nat) : List Int := xs.map Int.ofNat
theorem intsOf_length (xs : List Nat) : (intsOf xs).length = xs.length := by simp [intsOf]
theorem intsOf_snoc (xs : List Nat) (x : Nat) : intsOf (xs ++ [x]) = intsOf xs ++ [(x : Int)] := by simp [intsOf]

/-- what is said of a list that is read -/
def GetIntsPost (w : World) (o : Option (List Nat × Nat)) (e : Ending) (w' : World) : Prop :=
  Below w.heap.size w w' ∧ ((o = none ∧ e = .returned (.tuple #[.slice none 0 0, .int .i64 0, .int .i64 8])) ∨
    ∃ xs k v, o = some (xs, k) ∧ e = .returned (.tuple #[v, .int .i64 (k : Int), .int .i64 0]) ∧ w'.ownsRow w.heap.size 3 1 v xs.length (ic (intsOf xs)))

/-- the loop's word -/
def GetIntsAt (w : World) (l : List UInt8) (o : Option (List Nat × Nat)) (m n i at_ : Nat) (u : Value) (wr : World) (pre : List Nat) : Prop :=
  pre.length = i ∧ i ≤ m ∧ at_ ≤ n ∧ NM.liftB pre at_ (NM.getBody (m - i) (l.drop at_)) = o ∧ wr.ownsRow w.heap.size 3 1 u i (ic (intsOf pre)) ∧ Below w.heap.size w wr

def GetIntsRel (w : World) (l : List UInt8) (o : Option (List Nat × Nat)) (m n i at_ : Nat) (u : Value) (wr : World) : Prop :=
  ∃ pre : List Nat, GetIntsAt w l o m n i at_ u wr pre

theorem getIntsRel_next {w wr w2 : World} {l : List UInt8} {o : Option (List Nat × Nat)} {m n i j x k : Nat} {u v : Value} {b : Value} {pre : List Nat} (h : GetIntsAt w l o m n i j u wr pre) (hl : l.length = n) (hi : i < m) (hd : NM.dec (l.drop j) = some (x, k))
    (ho : w2.ownsRow w.heap.size 3 1 v (i + 1) (ic (intsOf pre) ++ [.int .i64 (x : Int)]))
    (hg : (wr.alloc (.cells #[b] 3)).grownBy w2 u.ownBlock) : GetIntsRel w l o m n (i + 1) (j + k) v w2 := by
  obtain ⟨h1, h2, h3, h4, h5, h6⟩ := h
  have hb := NM.dec_bound _ x k hd
  rw [List.length_drop] at hb
  refine ⟨pre ++ [x], by simp [h1], by omega, by omega, ?_, ?_, ?_⟩
  · rw [← h4, show m - i = (m - (i + 1)) + 1 by omega, NM.liftB_some pre j _ _ x k hd, List.drop_drop]
  · rw [intsOf_snoc, ic_append]; exact ho
  · refine (h6.alloc h6.size _).grown hg (by have := h6.size; simp; omega) fun g hgu => ?_
    rcases h5.2 with ⟨rfl, _⟩ | ⟨g', cap, cur, rfl, hb, _⟩
    · simp [Value.ownBlock] at hgu
    · simp [Value.ownBlock] at hgu; omega

theorem getInts_arg (A : Option Addr) (n c : Nat) (most : Int) (w : World) (hb : ¬ (0 ≤ most ∧ most ≤ 4096)) :
    Calls Tryz.prog 126 #[.slice A n c, .int .i64 most] w fun e w' => e = .returned (.tuple #[.slice none 0 0, .int .i64 0, .int .i64 2]) ∧ w = w' := by
  by_cases h1 : most < 0
  · clear hb
    go_enter Tryz.func126, Tryz.ntmps126
    go_wp2
    go_ret3
    exact ⟨rfl, rfl⟩
  · have h2 : 4096 < most := by omega
    have h3 : 0 ≤ most := by omega
    clear hb h1
    go_enter Tryz.func126, Tryz.ntmps126
    go_wp2
    go_ret3
    exact ⟨rfl, rfl⟩

set_option maxHeartbeats 2000000 in
theorem getInts_any (A : Option Addr) (n c most : Nat) (l : List UInt8) (w : World) (hr : Rd w A n (bc l)) (hnc : n ≤ c) (hm : c ≤ maxLen) (hmost : most ≤ 4096) :
    Calls Tryz.prog 126 #[.slice A n c, .int .i64 most] w (GetIntsPost w (NM.getInts l most)) := by
  obtain ⟨i0, hi, hz0, hz1, hz2⟩ := info_parts info_int
  have hg := get_any A n c l w hr (Nat.le_trans hnc hm)
  have hm2 : c ≤ 9223372036854775807 := by unfold maxLen at hm; omega
  have hl : l.length = n := by have := hr.1; rwa [bc_length] at this
  have HL := Lib.hid hl; clear hl
  have HM := Lib.hid hm; clear hm
  rcases hd : NM.dec l with _ | ⟨x, k⟩
  · rw [hd] at hg
    have hfin : NM.getInts l most = none := by unfold NM.getInts; rw [hd]
    have HF := Lib.hid hfin; clear hfin hd
    have HG := Lib.hid hg; clear hg
    go_enter Tryz.func126, Tryz.ntmps126
    go_wp2_with (go_at_call 124; refine (HG.out).mono ?_; rintro e w' ⟨rfl, rfl⟩; unfold getRes)
    go_ret3
    exact ⟨Below.refl _ _, .inl ⟨HF.out, rfl⟩⟩
  · have hb := NM.dec_bound l x k hd
    rw [hd] at hg
    obtain ⟨hx, hk1, hkl, hk6, hdrop⟩ := hb
    clear hdrop
    rw [HL.out] at hkl
    have HG := Lib.hid hg; clear hg
    by_cases h1 : x ≤ most
    · have hfin := NM.getInts_of l most x k hd h1
      obtain ⟨o, ho⟩ : ∃ o, o = NM.getInts l most := ⟨_, rfl⟩
      have hstart : GetIntsRel w l o x n 0 k (.slice none 0 0) w := ⟨[], rfl, by omega, hkl, by rw [ho, hfin]; rfl, World.ownsRow_nil _ _ _ _, Below.refl _ _⟩
      rw [← ho]
      clear hfin hd ho
      have HS := Lib.hid hstart; clear hstart
      have t1 : decide ((4096 : Int) < (most : Int)) = false := by simp; omega
      have t2 : decide ((most : Int) < (x : Int)) = false := by simp; omega
      have t3 : decide (most < x) = false := by simp; omega
      go_enter Tryz.func126, Tryz.ntmps126
      go_wp2_with (go_at_call 124; refine (HG.out).mono ?_; rintro e w' ⟨rfl, rfl⟩; unfold getRes)
      go_loopw [4, 5, 31] (fun u s t wr => ∃ i j : Nat, i ≤ x ∧ j ≤ n ∧ s = .int .i64 j ∧ t = .int .i64 i ∧ GetIntsRel w l o x n i j u wr) (fun _ _ t _ => x - (intOf t).toNat)
      case atStart => exact ⟨0, k, by omega, hkl, rfl, rfl, HS.out⟩
      case round =>
        clear HS HG
        obtain ⟨i, j, hix, hjn, rfl, rfl, hrel⟩ := hrel
        have hbel : Below w.heap.size w wr := by obtain ⟨pre, _, _, _, _, _, h⟩ := hrel; exact h
        have hr2 := hr.below hbel
        by_cases hlt : i < x
        · have hjl : ∃ ys, ys = l.drop j := ⟨_, rfl⟩
          obtain ⟨ys, hys⟩ := hjl
          rcases hd2 : NM.dec (l.drop j) with _ | ⟨y, q⟩
          · have hfin : o = none := by
              obtain ⟨pre, h1, h2, h3, h4, h5, h6⟩ := hrel
              rw [← h4, show x - i = (x - (i + 1)) + 1 by omega, NM.liftB_none _ _ _ _ hd2]
            have HF := Lib.hid hfin; clear hfin hrel
            have HB := Lib.hid hbel; clear hbel
            by_cases hcj : c = j
            · have hg2 : Calls Tryz.prog 124 #[.slice A 0 0] wr fun e w' => e = .returned (getRes none) ∧ wr = w' := by
                have := get_any A 0 0 [] wr Rd.nil (by omega)
                exact this
              subst hcj
              obtain rfl : n = c := by omega
              have HG2 := Lib.hid hg2; clear hg2 hr2 hd2 hys
              have HR := Lib.hid hr; clear hr
              go_wp2_with (go_at_call 124; refine (HG2.out).mono ?_; rintro e w' ⟨rfl, rfl⟩; unfold getRes)
              go_ret3
              exact ⟨HB.out, .inl ⟨HF.out, rfl⟩⟩
            · have hg2 := get_any (A.map (fun x => x.add j)) (n - j) (c - j) (l.drop j) wr (by rw [← bc_drop]; exact hr2.cutm hjn) (by have := HM.out; omega)
              rw [hd2] at hg2
              have HG2 := Lib.hid hg2; clear hg2 hr2 hd2 hys
              have HR := Lib.hid hr; clear hr
              go_wp2_with (go_at_call 124; refine (HG2.out).mono ?_; rintro e w' ⟨rfl, rfl⟩; unfold getRes)
              go_ret3
              exact ⟨HB.out, .inl ⟨HF.out, rfl⟩⟩
          · have hbd := NM.dec_bound _ y q hd2
            rw [List.length_drop, HL.out] at hbd
            obtain ⟨hy, hq1, hqn, hq6, hqd⟩ := hbd
            clear hqd hys
            have hcj : c ≠ j := by omega
            have hg2 := get_any (A.map (fun x => x.add j)) (n - j) (c - j) (l.drop j) wr (by rw [← bc_drop]; exact hr2.cutm hjn) (by have := HM.out; omega)
            rw [hd2] at hg2
            obtain ⟨pre, hrel⟩ := hrel
            have hown0 : wr.ownsRow w.heap.size 3 1 u4 i (ic (intsOf pre)) := hrel.2.2.2.2.1
            have hbs := hbel.size
            have HG2 := Lib.hid hg2; clear hg2 hr2
            have HR := Lib.hid hr; clear hr
            have HD := Lib.hid hd2; clear hd2
            have HRel := Lib.hid hrel; clear hrel
            go_wp2_with (first
              | (go_at_call 124; refine (HG2.out).mono ?_; rintro e w' ⟨rfl, rfl⟩; unfold getRes)
              | (at_builtin; refine wpList_append_rd _ rfl _ _ 31 rfl w.heap.size 3 i0 (.int .i64 0) 8 Tryz.underlying31 hi hz0 hz1 hz2 rfl _ _ _ rfl (hown0.alloc _) (some ⟨wr.heap.size, 0, none⟩) 1 1 [.int .i64 (y : Int)] rfl (rd_new _ _ _) (by intro u hu; simp at hu; subst hu; rfl) (by unfold maxLen; omega) (by omega) (by simp; omega) ?_; intro v2 w2 hown2 hg2 hob2))
            have hnext := getIntsRel_next HRel.out HL.out hlt HD.out hown2 hg2
            clear hown2 hg2 hob2
            go_roundw
            case rel => exact ⟨i + 1, j + q, by omega, by omega, by go_num, by go_num, hnext⟩
            case measure => simp [intOf]; omega
        · obtain ⟨pre, g1, g2, g3, h4, h5, h6⟩ := hrel
          obtain rfl : i = x := by omega
          rw [Nat.sub_self, NM.liftB_end] at h4
          have HF := Lib.hid h4; clear h4
          have H1 := Lib.hid g1; clear g1
          go_wp2
          go_ret3
          refine ⟨h6, .inr ⟨pre, j, _, HF.out.symm, rfl, ?_⟩⟩
          rw [H1.out]
          exact h5
    · have hfin : NM.getInts l most = none := by unfold NM.getInts; rw [hd]; simp only [if_neg h1]
      have HF := Lib.hid hfin; clear hfin hd
      go_enter Tryz.func126, Tryz.ntmps126
      go_wp2_with (go_at_call 124; refine (HG.out).mono ?_; rintro e w' ⟨rfl, rfl⟩; unfold getRes)
      go_ret3
      exact ⟨Below.refl _ _, .inl ⟨HF.out, rfl⟩⟩
end Go.Proofs.YteebeiaokfenmaaGreat

namespace Go.Proofs.YteebeiaokfenmaaGreat
open Go.RowKit
set_option linter.unusedVariables false
set_option maxRecDepth 100000

/-- Put's answer as a slice -/
theorem put_rd (n : Nat) (l : List UInt8) (k : Nat) (w : World) (hn : n ≤ 1099511627776) (hl : NM.enc n = l) (hk : l.length = k) :
    Calls Tryz.prog 68 #[.int .i64 n] w fun e w' => ∃ A c, e = .returned (.tuple #[.slice A k c, .int .i64 0]) ∧ Rd w' A k (bc l) ∧ k ≤ c ∧ c ≤ maxLen ∧ Below w.heap.size w w' := by
  subst hl
  subst hk
  refine (put_ok n w hn).mono ?_
  rintro e w' ⟨v, rfl, ho, hb⟩
  obtain ⟨A, c, rfl, h1, h2⟩ := own_slice ho
  exact ⟨A, c, rfl, Rd.of_own ho, h1, h2, hb⟩

/-- what Ints answers -/
def IntsFact (w' : World) (zs : List Int) (v : Value) (x : Int) : Prop :=
  (zs.length ≤ 4096 ∧ okAll zs ∧ x = 0 ∧ ∃ A c, v = .slice A (NM.ints (nats zs)).length c ∧ Rd w' A (NM.ints (nats zs)).length (bc (NM.ints (nats zs))) ∧ (NM.ints (nats zs)).length ≤ c ∧ c ≤ maxLen) ∨
  (zs.length ≤ 4096 ∧ ¬ okAll zs ∧ x = 2 ∧ v = .slice none 0 0) ∨ (4096 < zs.length ∧ x = 4 ∧ v = .slice none 0 0)
theorem ints_all (A : Option Addr) (n c : Nat) (zs : List Int) (w : World) (hr : Rd w A n (ic zs)) (hm : n ≤ maxLen) :
    Calls Tryz.prog 70 #[.slice A n c] w fun e w' => ∃ v x, e = .returned (.tuple #[v, .int .i64 x]) ∧ IntsFact w' zs v x ∧ Below w.heap.size w w' := by
  have hl : zs.length = n := by have := hr.1; rwa [ic_length] at this
  by_cases h : n ≤ 4096
  · refine (ints_any A n c zs w hr h).mono ?_
    rintro e w' ⟨hb, ⟨hok, v, rfl, ho⟩ | ⟨hno, rfl⟩⟩
    · obtain ⟨A, c, rfl, h1, h2⟩ := own_slice ho
      exact ⟨_, 0, rfl, .inl ⟨by omega, hok, rfl, A, c, rfl, Rd.of_own ho, h1, h2⟩, hb⟩
    · exact ⟨_, 2, rfl, .inr (.inl ⟨by omega, hno, rfl, rfl⟩), hb⟩
  · refine (ints_many A n c w (by omega) hm).mono ?_
    rintro e w' ⟨rfl, rfl⟩
    exact ⟨_, 4, rfl, .inr (.inr ⟨by omega, rfl, rfl⟩), Below.refl _ _⟩

theorem intsOf_nats (zs : List Int) (h : okAll zs) : intsOf (nats zs) = zs := by
  induction zs with
  | nil => rfl
  | cons z zs ih =>
    have hz := h z (by simp)
    have := ih fun y hy => h y (by simp [hy])
    simp only [intsOf, nats, List.map_cons] at this ⊢
    rw [this]
    congr 1
    show ((z.toNat : Nat) : Int) = z
    omega
theorem nats_ok (zs : List Int) (h : okAll zs) : ∀ x ∈ nats zs, x ≤ 1099511627776 := by
  intro x hx
  simp only [nats, List.mem_map] at hx
  obtain ⟨z, hz, rfl⟩ := hx
  have := h z hz
  omega
theorem nats_intsOf (xs : List Nat) : nats (intsOf xs) = xs := by
  unfold nats intsOf
  rw [List.map_map]
  exact List.map_id'' (fun x => rfl) xs
theorem okAll_intsOf (xs : List Nat) (h : ∀ x ∈ xs, x ≤ 1099511627776) : okAll (intsOf xs) := by
  intro z hz
  simp only [intsOf, List.mem_map] at hz
  obtain ⟨x, hx, rfl⟩ := hz
  have := h x hx
  exact ⟨Int.natCast_nonneg x, by show (x : Int) ≤ _; omega⟩

theorem get_lit (l : List UInt8) (xs : List Value) (k b : Nat) (o : Option (Nat × Nat)) (w : World) (hb : b = w.heap.size) (hx : bc l = xs) (hk : xs.length = k) (ho : NM.dec l = o) (h9 : k ≤ 100) :
    Calls Tryz.prog 124 #[.slice (some ⟨b, 0, none⟩) k k] (w.alloc (.cells xs.toArray 5)) fun e w' => e = .returned (getRes o) ∧ w.alloc (.cells xs.toArray 5) = w' := by
  subst hb
  subst hx
  subst ho
  subst hk
  exact get_any _ _ _ l _ (rd_row w _ _) (by unfold maxLen; omega)
theorem getInts_lit (l : List UInt8) (xs : List Value) (k b most : Nat) (o : Option (List Nat × Nat)) (w : World) (hb : b = w.heap.size) (hx : bc l = xs) (hk : xs.length = k) (ho : NM.getInts l most = o) (h9 : k ≤ 100) (hm : most ≤ 4096) :
    Calls Tryz.prog 126 #[.slice (some ⟨b, 0, none⟩) k k, .int .i64 most] (w.alloc (.cells xs.toArray 5)) (GetIntsPost (w.alloc (.cells xs.toArray 5)) o) := by
  subst hb
  subst hx
  subst ho
  subst hk
  exact getInts_any _ _ _ most l _ (rd_row w _ _) (Nat.le_refl _) (by unfold maxLen; omega) hm
theorem ints_lit (zs : List Int) (r : List UInt8) (n k b : Nat) (w : World) (hb : b = w.heap.size) (hn : zs.length = n) (hok : ∀ z ∈ zs, 0 ≤ z ∧ z ≤ 1099511627776) (hr : NM.ints (nats zs) = r) (hk : r.length = k) (h9 : n ≤ 4096) :
    Calls Tryz.prog 70 #[.slice (some ⟨b, 0, none⟩) n n] (w.alloc (.cells (ic zs).toArray 3)) fun e w' => ∃ A c, e = .returned (.tuple #[.slice A k c, .int .i64 0]) ∧ Rd w' A k (bc r) ∧ Below (w.alloc (.cells (ic zs).toArray 3)).heap.size (w.alloc (.cells (ic zs).toArray 3)) w' := by
  subst hb
  subst hr
  subst hk
  subst hn
  have hrd := rd_row w (ic zs) 3
  rw [ic_length] at hrd
  refine (ints_all _ _ _ zs _ hrd (by unfold maxLen; omega)).mono ?_
  rintro e w' ⟨v, x, rfl, ⟨_, _, rfl, A, c, rfl, h1, _⟩ | ⟨_, h, _⟩ | ⟨h, _⟩, hb⟩
  · exact ⟨A, c, rfl, h1, hb⟩
  · exact absurd hok h
  · omega
end Go.Proofs.YteebeiaokfenmaaGreat
