/-
  What the document's own functions of layer 1 (towncrierref01) do: In, Bytes, TextBytes. Conditions: as each theorem says.
-/
import Derived.Test.YtohiemdodffhoaaNumF
namespace Go.Proofs.Ytohiemdodffhoaa
open Go.RowKit
set_option linter.unusedVariables false
set_option maxRecDepth 100000

theorem refIn_yes (n : Int) (w : World) (h : 0 ≤ n ∧ n ≤ 1099511627776) :
    Calls Try.prog 113 #[.int .i64 n] w fun e w' => e = .returned (.bool true) ∧ w = w' := by
  obtain ⟨h1, h2⟩ := h
  go_enter Try.func113, Try.ntmps113
  go_wp2
  go_ret
  exact ⟨rfl, rfl⟩
theorem refIn_no (n : Int) (w : World) (h : ¬ (0 ≤ n ∧ n ≤ 1099511627776)) :
    Calls Try.prog 113 #[.int .i64 n] w fun e w' => e = .returned (.bool false) ∧ w = w' := by
  by_cases h1 : 0 ≤ n
  · have h2 : decide (n ≤ 1099511627776) = false := by simp; omega
    clear h
    go_enter Try.func113, Try.ntmps113
    go_wp2
    go_ret
    exact ⟨rfl, rfl⟩
  · have h2 : n < 0 := by omega
    clear h h1
    go_enter Try.func113, Try.ntmps113
    go_wp2
    go_ret
    exact ⟨rfl, rfl⟩

set_option maxRecDepth 100000 in
set_option maxHeartbeats 400000 in
theorem refBytes_any (n : Nat) (w : World) (hn : n ≤ 1099511627776) :
    Calls Try.prog 84 #[.int .i64 n] w fun e w' => ∃ v', e = .returned v' ∧ w'.ownsRow w.heap.size 5 1 v' (NM.enc n).length (bc (NM.enc n)) ∧ Below w.heap.size w w' := by
  obtain ⟨i0, hi, hz0, hz1, hz2⟩ := info_parts info_u8
  go_enter Try.func84, Try.ntmps84
  go_wp2
  go_loopw [0, 3] (fun i u wr => ∃ (f m : Nat) (pre : List UInt8), i = .int .i64 m ∧ f + pre.length = 5 ∧ m < 128 ^ (f + 1) ∧ m ≤ n ∧ pre ++ NM.encF f m = NM.enc n ∧ wr.ownsRow w.heap.size 5 1 u (0 + pre.length) ([] ++ bc pre) ∧
      w.grownBy wr none ∧ (u.ownBlock = none ∨ ∀ g, u.ownBlock = some g → w.heap.size ≤ g)) (fun i _ _ => (intOf i).toNat)
  case atStart => exact ⟨5, n, [], rfl, rfl, by omega, Nat.le_refl _, rfl, World.ownsRow_nil _ _ _ _, World.grownBy.refl _ _, .inl rfl⟩
  case round =>
    obtain ⟨f, m, pre, rfl, hf, hm, hmn, hpre, hown1, hg, hob⟩ := hrel
    simp only [Nat.zero_add, List.nil_append] at hown1
    have hbsz : w.heap.size ≤ wr.heap.size := hg.size
    have hml : m < 9223372036854775808 := by omega
    have hlen : pre.length ≤ 5 := by omega
    have HF := Lib.hid hf; clear hf
    have HP0 := Lib.hid hpre; clear hpre
    have HM0 := Lib.hid hm; clear hm
    have HO := Lib.hid hob; clear hob
    by_cases hlt : 127 < m
    · have hf1 : 0 < f := by
        rcases Nat.eq_zero_or_pos f with h0 | h0
        · have hm := HM0.out; subst h0; simp at hm; omega
        · exact h0
      obtain ⟨f, rfl⟩ : ∃ g, f = g + 1 := ⟨f - 1, by omega⟩
      have hm2 : m / 128 < 128 ^ (f + 1) := by have hm := HM0.out; rw [Nat.pow_succ] at hm; omega
      have hpre2 : (pre ++ [UInt8.ofNat (m % 128 + 128)]) ++ NM.encF f (m / 128) = NM.enc n := by
        rw [← HP0.out, NM.encF, if_neg (by omega)]; simp
      have hb3 : ((m : Int) % 128 + 128) = ((m % 128 + 128 : Nat) : Int) := by omega
      have HB3 := Lib.hid hb3; clear hb3
      have HM := Lib.hid hm2; clear hm2
      have HP := Lib.hid hpre2; clear hpre2
      obtain ⟨y, hy⟩ : ∃ y, y = m % 128 + 128 := ⟨_, rfl⟩
      rw [← hy] at HB3
      have HY := Lib.hid hy; clear hy
      go_wp2_with (at_builtin; refine wpList_append_rd _ rfl _ _ 94 rfl w.heap.size 5 i0 (.int .u8 0) 1 Try.underlying94 hi hz0 hz1 hz2 rfl _ _ _ rfl (hown1.alloc _) (some ⟨wr.heap.size, 0, none⟩) 1 1 [.int .u8 ((m : Int) % 128 + 128)] rfl (rd_new _ _ _) (by intro u hu; simp at hu; subst hu; rfl) (by unfold maxLen; omega) (by omega) (by simp; omega) ?_; intro v2 w2 hown2 hg2 hob2)
      have hgA := grown_more (grown_alloc hg _) hg2 HO.out
      have hobA := ob_more HO.out hob2 (by have := hg.size; simp; omega)
      clear hg2 hob2
      rw [HB3.out] at hown2
      go_roundw
      case rel =>
        refine ⟨f, m / 128, pre ++ [UInt8.ofNat y], ?_, by have := HF.out; simp; omega, HM.out, by omega, by rw [HY.out]; exact HP.out, (by have := own_snoc (len := 0) (xs := []) (by simpa using hown2) (NM.toNat_ofNat y (by have := HY.out; omega)); exact this), hgA, hobA⟩
        go_num
      case measure => simp [intOf]; omega
    · go_wp2_with (at_builtin; refine wpList_append_rd _ rfl _ _ 94 rfl w.heap.size 5 i0 (.int .u8 0) 1 Try.underlying94 hi hz0 hz1 hz2 rfl _ _ _ rfl (hown1.alloc _) (some ⟨wr.heap.size, 0, none⟩) 1 1 [.int .u8 (m : Int)] rfl (rd_new _ _ _) (by intro u hu; simp at hu; subst hu; rfl) (by unfold maxLen; omega) (by omega) (by simp; omega) ?_; intro v2 w2 hown2 hg2 hob2)
      have hgA := grown_more (grown_alloc hg _) hg2 HO.out
      go_ret
      have hme : NM.enc n = pre ++ [UInt8.ofNat m] := by
        rw [← HP0.out]
        cases f with
        | zero => rfl
        | succ f => rw [NM.encF, if_pos (by omega)]
      refine ⟨v2, rfl, ?_, below_of_grown hgA (by simp)⟩
      rw [hme]
      have := own_snoc (len := 0) (xs := []) (by simpa using hown2) (NM.toNat_ofNat m (by omega))
      simpa using this

set_option maxHeartbeats 400000 in
theorem refTextBytes (s : ByteArray) (w : World) (hs : s.size ≤ 4096) :
    Calls Try.prog 85 #[.string s] w fun e w' => ∃ v, e = .returned v ∧ w'.ownsRow w.heap.size 5 1 v (NM.text s.data.toList).length (bc (NM.text s.data.toList)) ∧ Below w.heap.size w w' := by
  obtain ⟨i0, hi, hz0, hz1, hz2⟩ := info_parts info_u8
  have hl := NM.enc_le s.size
  go_enter Try.func85, Try.ntmps85
  go_wp2_with (first
    | (go_at_call 84; refine (refBytes_any s.size _ (by omega)).mono ?_; rintro e w1 ⟨v1, rfl, hown, hb⟩)
    | (at_builtin; refine Lib.wpList_append_own_string _ rfl _ _ 94 9 rfl w.heap.size 5 i0 Try.underlying94 Try.underlying9 hi hz0 hz1 hz2 v1 _ _ rfl hown s rfl (by unfold maxLen; omega) (by omega) hb.size ?_; intro v2 w2 hown2 hg2 _))
  go_ret
  refine ⟨v2, rfl, ?_, ?_⟩
  · rw [bc_str, ← bc_append] at hown2
    unfold NM.text
    rw [List.length_append, text_len]
    exact hown2
  · refine hb.grown hg2 hb.size fun g hgu => ?_
    rcases hown.2 with ⟨rfl, _⟩ | ⟨g', cap, cur, rfl, hb, _⟩
    · simp [Value.ownBlock] at hgu
    · simp [Value.ownBlock] at hgu; omega
end Go.Proofs.Ytohiemdodffhoaa
