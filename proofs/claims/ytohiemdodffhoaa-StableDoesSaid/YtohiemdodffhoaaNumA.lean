/-
  What num.appendNumber does: a number's bytes behind a slice. Conditions: as each theorem says.
-/
import Derived.Test.YtohiemdodffhoaaRows
import Derived.Test.YtohiemdodffhoaaMem
import Derived.Test.YtohiemdodffhoaaNumMath
import Derived.Test.YtohiemdodffhoaaNumBits
import Derived.Outline
namespace Go.Proofs.Ytohiemdodffhoaa
open Go.RowKit
set_option linter.unusedVariables false
set_option maxRecDepth 100000

theorem info_u8 : (Try.prog.info? 5).map (fun i => (i.zero, i.size, i.bytes)) = some (some (.int .u8 0), 1, 1) := by kernel_rfl
theorem info_int : (Try.prog.info? 3).map (fun i => (i.zero, i.size, i.bytes)) = some (some (.int .i64 0), 1, 8) := by kernel_rfl

set_option maxHeartbeats 400000 in
theorem appendNumber_any (base : Nat) (v : Value) (len : Nat) (xs : List Value) (n : Nat) (w : World) (hn : n ≤ 1099511627776) (hlen : len ≤ 1000000) (hown : w.ownsRow base 5 1 v len xs) (hbase : base ≤ w.heap.size) :
    Calls Try.prog 90 #[v, .int .i64 n] w fun e w' => ∃ v', e = .returned v' ∧ w'.ownsRow base 5 1 v' (len + (NM.enc n).length) (xs ++ bc (NM.enc n)) ∧ w.grownBy w' v.ownBlock ∧
      (v'.ownBlock = v.ownBlock ∨ ∀ g, v'.ownBlock = some g → w.heap.size ≤ g) := by
  obtain ⟨i0, hi, hz0, hz1, hz2⟩ := info_parts info_u8
  go_enter Try.func90, Try.ntmps90
  go_wp2
  go_loopw [0, 1] (fun u i wr => ∃ (f m : Nat) (pre : List UInt8), i = .int .i64 m ∧ f + pre.length = 5 ∧ m < 128 ^ (f + 1) ∧ m ≤ n ∧ pre ++ NM.encF f m = NM.enc n ∧ wr.ownsRow base 5 1 u (len + pre.length) (xs ++ bc pre) ∧
      w.grownBy wr v.ownBlock ∧ (u.ownBlock = v.ownBlock ∨ ∀ g, u.ownBlock = some g → w.heap.size ≤ g)) (fun _ i _ => (intOf i).toNat)
  case atStart => exact ⟨5, n, [], rfl, rfl, by omega, Nat.le_refl _, rfl, by simpa [bc] using hown, World.grownBy.refl _ _, .inl rfl⟩
  case round =>
    obtain ⟨f, m, pre, rfl, hf, hm, hmn, hpre, hown1, hg, hob⟩ := hrel
    have hml : m < 9223372036854775808 := by omega
    have hbsz : base ≤ wr.heap.size := Nat.le_trans hbase hg.size
    by_cases hlt : 127 < m
    · have hf1 : 0 < f := by
        rcases Nat.eq_zero_or_pos f with h0 | h0
        · subst h0; simp at hm; omega
        · exact h0
      obtain ⟨f, rfl⟩ : ∃ g, f = g + 1 := ⟨f - 1, by omega⟩
      have hm2 : m / 128 < 128 ^ (f + 1) := by rw [Nat.pow_succ] at hm; omega
      have hpre2 : (pre ++ [UInt8.ofNat (m % 128 + 128)]) ++ NM.encF f (m / 128) = NM.enc n := by
        rw [← hpre, NM.encF, if_neg (by omega)]; simp
      have hb1 := NB.and127 m hml
      have hb2 := NB.or128 (m % 128) (by omega)
      obtain ⟨y, hy⟩ : ∃ y, y = m % 128 + 128 := ⟨_, rfl⟩
      obtain ⟨x, hx⟩ : ∃ x, x = m % 128 := ⟨_, rfl⟩
      rw [← hx] at hb1 hb2
      rw [← hx] at hy
      rw [← hy] at hb2
      have hb3 : (y : Int) % 256 = y := by omega
      have hby : (UInt8.ofNat y).toNat = y := NM.toNat_ofNat y (by omega)
      have HM := Lib.hid hm2; clear hm2
      have HP := Lib.hid hpre2; clear hpre2 hpre
      have HX := Lib.hid hx; clear hx
      have HY := Lib.hid hy; clear hy
      have HB := Lib.hid hby; clear hby
      have HF := Lib.hid hf; clear hf hm
      have HO := Lib.hid hob; clear hob
      go_wp2_with (at_builtin; refine wpList_append_rd _ rfl _ _ 94 rfl base 5 i0 (.int .u8 0) 1 Try.underlying94 hi hz0 hz1 hz2 rfl _ _ _ rfl (hown1.alloc _) (some ⟨wr.heap.size, 0, none⟩) 1 1 [.int .u8 (y : Int)] rfl (rd_new _ _ _) (by intro u hu; simp at hu; subst hu; rfl) (by have := HF.out; unfold maxLen; omega) (by have := HF.out; omega) (by simp; omega) ?_; intro v2 w2 hown2 hg2 hob2)
      have hgA := grown_more (grown_alloc hg _) hg2 HO.out
      have hobA := ob_more HO.out hob2 (by have := hg.size; simp; omega)
      clear hg2 hob2
      go_roundw
      case rel =>
        refine ⟨f, m / 128, pre ++ [UInt8.ofNat y], ?_, by have := HF.out; simp; omega, HM.out, by omega, by rw [HY.out, HX.out]; exact HP.out, own_snoc hown2 HB.out, hgA, hobA⟩
        go_num
      case measure => simp [intOf]; omega
    · go_wp2_with (at_builtin; refine wpList_append_rd _ rfl _ _ 94 rfl base 5 i0 (.int .u8 0) 1 Try.underlying94 hi hz0 hz1 hz2 rfl _ _ _ rfl (hown1.alloc _) (some ⟨wr.heap.size, 0, none⟩) 1 1 [.int .u8 (m : Int)] rfl (rd_new _ _ _) (by intro u hu; simp at hu; subst hu; rfl) (by unfold maxLen; omega) (by omega) (by simp; omega) ?_; intro v2 w2 hown2 hg2 hob2)
      have hgA := grown_more (grown_alloc hg _) hg2 hob
      have hobA := ob_more hob hob2 (by have := hg.size; simp; omega)
      go_ret
      have hme : NM.enc n = pre ++ [UInt8.ofNat m] := by
        rw [← hpre]
        cases f with
        | zero => rfl
        | succ f => rw [NM.encF, if_pos (by omega)]
      refine ⟨v2, rfl, ?_, hgA, hobA⟩
      rw [hme]
      exact own_snoc hown2 (NM.toNat_ofNat m (by omega))

end Go.Proofs.Ytohiemdodffhoaa
