/-
  What the document's own IntsBytes and Ints (towncrierref01) do. Conditions: as each theorem says.
-/
import Derived.Test.YtffikjepeoeimaaNumR
namespace Go.Proofs.Ytffikjepeoeimaa
open Go.RowKit
set_option linter.unusedVariables false

set_option maxRecDepth 100000 in
set_option maxHeartbeats 1000000 in
theorem refIntsBytes (A : Option Addr) (n c : Nat) (zs : List Int) (w : World) (hr : Rd w A n (ic zs)) (hn : n ≤ 4096) (hok : okAll zs) :
    Calls Try.prog 28 #[.slice A n c] w fun e w' => ∃ v, e = .returned v ∧ w'.ownsRow w.heap.size 5 1 v (NM.ints (nats zs)).length (bc (NM.ints (nats zs))) ∧ Below w.heap.size w w' := by
  obtain ⟨i0, hi, hz0, hz1, hz2⟩ := info_parts info_u8
  have hl : zs.length = n := by have := hr.1; rwa [ic_length] at this
  have HL := Lib.hid hl
  have HOK := Lib.hid hok; clear hok
  go_enter Try.func28, Try.ntmps28
  go_wp2_with (go_at_call 26; refine (refBytes_any n _ (by omega)).mono ?_; rintro e w1 ⟨v1, rfl, hown, hb⟩)
  have hstart : IntsRel w zs 0 v1 w1 := ⟨by intro z hz; simp at hz, by simpa [nats, NM.body, hl] using hown, hb⟩
  clear hown hb hl
  go_loopw [3, 4] (fun u i wr => ∃ k : Nat, k ≤ n ∧ i = .int .i64 k ∧ IntsRel w zs k u wr) (fun _ i _ => n - (intOf i).toNat)
  case atStart => exact ⟨0, by omega, rfl, hstart⟩
  case round =>
    clear hstart
    obtain ⟨k, hk, rfl, hrel⟩ := hrel
    by_cases hlt : k < n
    · have hkl : k < zs.length := by have := HL.out; omega
      obtain ⟨ad, u, rfl, _, hu, hcell⟩ := (hr.below hrel.2.2).at_ hlt
      rw [ic_get zs k hkl] at hu
      injection hu with hu
      subst hu
      obtain ⟨z, hz⟩ : ∃ z, z = zs[k] := ⟨_, rfl⟩
      rw [← hz] at hcell
      have HZ := Lib.hid hz; clear hz
      have hin : 0 ≤ z ∧ z ≤ 1099511627776 := by have := HOK.out zs[k] (List.getElem_mem hkl); rw [HZ.out]; exact this
      obtain ⟨x, rfl⟩ := Int.eq_ofNat_of_zero_le hin.1
      have hx2 : x ≤ 1099511627776 := by omega
      have hle := NM.body_le (nats (zs.take k))
      rw [nats_length, List.length_take] at hle
      have hen := NM.enc_le zs.length
      have hlen : (NM.enc zs.length ++ NM.body (nats (zs.take k))).length ≤ 1000000 := by rw [List.length_append]; omega
      have hex := NM.enc_le x
      have hbs := hrel.2.2.size
      have hown := hrel.2.1
      have HR := Lib.hid hrel; clear hrel hle hen
      have HI := Lib.hid hlen; clear hlen
      have HO := Lib.hid hown; clear hown
      go_wp2_with (first
        | (go_at_call 26; refine (refBytes_any x _ hx2).mono ?_; rintro e w1 ⟨v1, rfl, hownx, hbx⟩; obtain ⟨Ax, cx, rfl, _, _⟩ := own_slice hownx; have hrx := Rd.of_own hownx; have hbxs := hbx.size)
        | (at_builtin; refine wpList_append_rd _ rfl (.tmp 14) (.tmp 19) 22 rfl w.heap.size 5 i0 (.int .u8 0) 1 Try.underlying22 hi hz0 hz1 hz2 rfl _ _ _ rfl (own_below HO.out hbx) Ax _ cx _ rfl hrx (bc_one _) (by have := HI.out; unfold maxLen; omega) (by have := HI.out; omega) (by omega) ?_; intro v2 w2 hown2 hg2 hob2))
      have hnext := intsRel_next hkl (intsRel_below HR.out hbx) HZ.out.symm hx2 hown2 hg2
      clear hown2 hg2 hob2 hrx hownx
      go_roundw
      case rel => exact ⟨k + 1, by omega, by go_num, hnext⟩
      case measure => simp [intOf]; omega
    · obtain ⟨h1, h2, h3⟩ := hrel
      rw [List.take_of_length_le (by have := HL.out; omega)] at h1 h2
      go_wp2
      go_ret
      refine ⟨_, rfl, ?_, h3⟩
      unfold NM.ints
      rw [nats_length]
      exact h2

set_option maxRecDepth 100000 in
set_option maxHeartbeats 1000000 in
theorem refInts_any (A : Option Addr) (n c : Nat) (zs : List Int) (w : World) (hr : Rd w A n (ic zs)) (hn : n ≤ 4096) :
    Calls Try.prog 17 #[.slice A n c] w (IntsPost w zs) := by
  have hl : zs.length = n := by have := hr.1; rwa [ic_length] at this
  have HL := Lib.hid hl; clear hl
  have t1 : decide ((4096 : Int) < (n : Int)) = false := by simp; omega
  go_enter Try.func17, Try.ntmps17
  go_wp2
  go_loop [4] (fun i => ∃ k : Nat, k ≤ n ∧ i = .int .i64 k ∧ okAll (zs.take k)) (fun i => n - (intOf i).toNat)
  case atStart => exact ⟨0, by omega, rfl, by intro z hz; simp at hz⟩
  case round =>
    obtain ⟨k, hk, rfl, hrel⟩ := hrel
    have HR := Lib.hid hrel; clear hrel
    by_cases hlt : k < n
    · have hkl : k < zs.length := by have := HL.out; omega
      obtain ⟨ad, u, rfl, _, hu, hcell⟩ := hr.at_ hlt
      rw [ic_get zs k hkl] at hu
      injection hu with hu
      subst hu
      obtain ⟨z, hz⟩ : ∃ z, z = zs[k] := ⟨_, rfl⟩
      rw [← hz] at hcell
      have HZ := Lib.hid hz; clear hz
      by_cases hin : 0 ≤ z ∧ z ≤ 1099511627776
      · have hnext := okAll_take zs k hkl HR.out (by rw [← HZ.out]; exact hin)
        have HN := Lib.hid hnext; clear hnext
        go_wp2_with (go_at_call 25; refine (refIn_yes _ _ hin).mono ?_; rintro e w' ⟨rfl, rfl⟩)
        go_round
        case rel => exact ⟨k + 1, by omega, by go_num, HN.out⟩
        case measure => simp [intOf]; omega
      · go_wp2_with (go_at_call 25; refine (refIn_no _ _ hin).mono ?_; rintro e w' ⟨rfl, rfl⟩)
        go_ret2
        exact ⟨Below.refl _ _, .inr ⟨fun h => hin (by have := h zs[k] (List.getElem_mem hkl); rw [HZ.out]; exact this), rfl⟩⟩
    · have h1 := HR.out
      rw [List.take_of_length_le (by have := HL.out; omega)] at h1
      have HOK := Lib.hid h1; clear h1
      go_wp2_with (go_at_call 28; refine (refIntsBytes A n c zs _ hr hn HOK.out).mono ?_; rintro e w' ⟨v, rfl, ho, hb⟩)
      go_ret2
      exact ⟨hb, .inl ⟨HOK.out, v, rfl, ho⟩⟩
theorem refInts_many (A : Option Addr) (n c : Nat) (w : World) (hn : 4096 < n) (hm : n ≤ maxLen) :
    Calls Try.prog 17 #[.slice A n c] w fun e w' => e = .returned (.tuple #[.slice none 0 0, .int .i64 4]) ∧ w = w' := by
  unfold maxLen at hm
  go_enter Try.func17, Try.ntmps17
  go_wp2
  go_ret2
  exact ⟨rfl, rfl⟩
theorem refInts_all (A : Option Addr) (n c : Nat) (zs : List Int) (w : World) (hr : Rd w A n (ic zs)) (hm : n ≤ maxLen) :
    Calls Try.prog 17 #[.slice A n c] w fun e w' => ∃ v x, e = .returned (.tuple #[v, .int .i64 x]) ∧ IntsFact w' zs v x ∧ Below w.heap.size w w' := by
  have hl : zs.length = n := by have := hr.1; rwa [ic_length] at this
  by_cases h : n ≤ 4096
  · refine (refInts_any A n c zs w hr h).mono ?_
    rintro e w' ⟨hb, ⟨hok, v, rfl, ho⟩ | ⟨hno, rfl⟩⟩
    · obtain ⟨A, c, rfl, h1, h2⟩ := own_slice ho
      exact ⟨_, 0, rfl, .inl ⟨by omega, hok, rfl, A, c, rfl, Rd.of_own ho, h1, h2⟩, hb⟩
    · exact ⟨_, 2, rfl, .inr (.inl ⟨by omega, hno, rfl, rfl⟩), hb⟩
  · refine (refInts_many A n c w (by omega) hm).mono ?_
    rintro e w' ⟨rfl, rfl⟩
    exact ⟨_, 4, rfl, .inr (.inr ⟨by omega, rfl, rfl⟩), Below.refl _ _⟩
end Go.Proofs.Ytffikjepeoeimaa
