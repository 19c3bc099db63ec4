/-
  What package quorum answers of lists that read as ints: Need, Most, CheckGroup. Conditions: the slices read as ints.
-/
import Derived.Test.YtmcfamoicdmkdaaQuorumA
import Derived.Deep.QuietTactic
import Derived.BigQuiet
import Derived.Below
namespace Go.Proofs.Ytmcfamoicdmkdaa
open Go.RowKit
set_option linter.unusedVariables false

theorem need_any (A : Option Addr) (n c : Nat) (zs : List Int) (x y : Int) (w : World) (hr : Rd w A n (ic zs)) (hm : n ≤ 9223372036854775807) (hy : QM.NeedIs zs x y) :
    Calls Try.prog 54 #[.slice A n c] w fun e w' => e = .returned (.tuple #[.int .i64 x, .int .i64 y]) ∧ w = w' := by
  have hl : zs.length = n := by have := hr.1; rwa [ic_length] at this
  obtain ⟨hc, h⟩ := hy
  have HC := Lib.hid hc; clear hc
  rw [hl] at h
  clear hl
  rcases h with ⟨rfl, rfl⟩ | ⟨h0, rfl⟩
  · go_enter Try.func54, Try.ntmps54
    go_wp2_with fail
    refine (qcheck_any A n c zs _ _ hr hm HC.out).mono ?_
    rintro e w1 ⟨rfl, rfl⟩
    go_wp2
    go_ret2
    exact ⟨rfl, rfl⟩
  · have h1 : (y != 0) = true := by simpa using h0
    go_enter Try.func54, Try.ntmps54
    go_wp2_with fail
    refine (qcheck_any A n c zs _ _ hr hm HC.out).mono ?_
    rintro e w1 ⟨rfl, rfl⟩
    go_wp2
    go_ret2
    exact ⟨rfl, rfl⟩
theorem ret_bi {a b : Bool} {y : Int} (h : a = b) : Ending.returned (.tuple #[.bool a, .int .i64 y]) = .returned (.tuple #[.bool b, .int .i64 y]) := by rw [h]

set_option maxHeartbeats 1000000 in
theorem most_any (A : Option Addr) (n c : Nat) (zs : List Int) (B : Option Addr) (m d : Nat) (ys : List Int) (b : Bool) (y : Int) (w : World) (hr : Rd w A n (ic zs)) (hm : n ≤ 9223372036854775807)
    (hr2 : Rd w B m (ic ys)) (hm2 : m ≤ 9223372036854775807) (hy : QM.MostIs zs ys b y) :
    Calls Try.prog 29 #[.slice A n c, .slice B m d] w fun e w' => e = .returned (.tuple #[.bool b, .int .i64 y]) ∧ w = w' := by
  have hl : zs.length = n := by have := hr.1; rwa [ic_length] at this
  have hl2 : ys.length = m := by have := hr2.1; rwa [ic_length] at this
  rcases hy with ⟨hc, h0, rfl⟩ | ⟨hc, h1, rfl, rfl⟩ | ⟨hc, h1, hb, rfl⟩
  · have hn : QM.NeedIs zs 0 y := ⟨hc, .inr ⟨h0, rfl⟩⟩
    have HN := Lib.hid hn
    have hne : (y != 0) = true := by simpa using h0
    clear hn hc h0 hl hl2
    go_enter Try.func29, Try.ntmps29
    go_wp2_with fail
    refine (need_any A n c zs 0 y _ hr hm HN.out).mono ?_
    rintro e w1 ⟨rfl, rfl⟩
    go_wp2
    go_ret2
    exact ⟨rfl, rfl⟩
  · have hn : QM.NeedIs zs _ 0 := ⟨hc, .inl ⟨rfl, rfl⟩⟩
    generalize hx : (zs.length : Int) / 2 + 1 = x at hn
    have HN := Lib.hid hn
    rw [hl2] at h1
    clear hn hc hl hl2 hx
    go_enter Try.func29, Try.ntmps29
    go_wp2_with fail
    refine (need_any A n c zs x 0 _ hr hm HN.out).mono ?_
    rintro e w1 ⟨rfl, rfl⟩
    go_wp2
    go_ret2
    exact ⟨rfl, rfl⟩
  · have hn : QM.NeedIs zs _ 0 := ⟨hc, .inl ⟨rfl, rfl⟩⟩
    have hmay : QM.may zs = true := by
      rcases QM.chkIs_cases hc with ⟨_, h⟩ | ⟨_, h⟩
      · exact h
      · omega
    obtain ⟨_, h6, hrise⟩ := QM.may_len hmay
    have hones := QM.ones_cnt (n := ys) hrise
    have hb' : decide ((zs.length : Int) / 2 + 1 ≤ (Lib.onesCount (QM.set zs &&& QM.set ys) : Int)) = b := by
      rw [hb, hones, Bool.eq_iff_iff]
      simp
      omega
    generalize hx : (zs.length : Int) / 2 + 1 = x at hn hb'
    rw [hl2] at h1
    have hs1 := QM.set_lt zs
    have hs2 := QM.set_lt ys
    have c1 := set_any A n c zs w hr hm
    have c2 := set_any B m d ys w hr2 hm2
    generalize QM.set zs = s at hs1 hb' c1
    generalize QM.set ys = t at hs2 hb' c2
    have hand := u8_ands s t hs1 hs2
    have hlt : s &&& t < 64 := Nat.lt_of_le_of_lt Nat.and_le_left hs1
    have c3 := ones_any (s &&& t) w hlt
    generalize Lib.onesCount (s &&& t) = q at hb' c3
    rw [← hand] at c3
    have HN := Lib.hid hn
    have HB := Lib.hid hb'
    have C1 := Lib.hid c1
    have C2 := Lib.hid c2
    have C3 := Lib.hid c3
    clear hn hc hl hl2 hx hb' hb hones hmay h6 hrise hs1 hs2 c1 c2 c3 hand hlt
    go_enter Try.func29, Try.ntmps29
    go_wp2_with fail
    refine (need_any A n c zs x 0 _ hr hm HN.out).mono ?_
    rintro e w1 ⟨rfl, rfl⟩
    go_wp2_with fail
    refine C1.out.mono ?_
    rintro e w1 ⟨rfl, rfl⟩
    go_wp2_with fail
    refine C2.out.mono ?_
    rintro e w1 ⟨rfl, rfl⟩
    go_wp2_with fail
    refine C3.out.mono ?_
    rintro e w1 ⟨rfl, rfl⟩
    go_wp2
    go_ret2
    exact ⟨ret_bi HB.out, rfl⟩

theorem set_quiet (A : Option Addr) (n c : Nat) (zs : List Int) (W : World) (q : Nat) (hr : Rd W A n (ic zs)) (hm : n ≤ 9223372036854775807) :
    Calls Try.prog 56 #[.slice A n c] (W.drewN q) fun e w' => e = .returned (.int .u8 (QM.set zs : Int)) ∧ ∃ m, w' = W.drewN m :=
  (set_any A n c zs (W.drewN q) (hr.drewN q) hm).mono fun _ _ ⟨a, b⟩ => ⟨a, q, b.symm⟩

set_option maxHeartbeats 1000000 in
theorem checkGroup_any (A : Option Addr) (n c : Nat) (rs : List Int) (B : Option Addr) (m d : Nat) (ms : List Int) (y : Int) (w : World) (hr : Rd w A n (ic rs)) (hm : n ≤ 9223372036854775807)
    (hr2 : Rd w B m (ic ms)) (hm2 : m ≤ 9223372036854775807) (hy : QM.GrpIs rs ms y) :
    Calls Try.prog 75 #[.agg #[.slice A n c, .slice B m d]] w fun e w' => e = .returned (.int .i64 y) ∧ Below w.heap.size w w' := by
  rcases hy with ⟨hc, h0⟩ | ⟨hc, hc2, h0⟩ | ⟨hc, hc2, hb⟩
  · have HC := Lib.hid hc
    have hne : (y != 0) = true := by simpa using h0
    clear hc h0
    go_enter Try.func75, Try.ntmps75
    go_wp2_with fail
    refine (qcheck_any A n c rs y _ (hr.alloc _) hm HC.out).mono ?_
    rintro e w1 ⟨rfl, rfl⟩
    go_wp2
    go_ret
    exact ⟨rfl, (Below.refl _ _).alloc (Nat.le_refl _) _⟩
  · have HC := Lib.hid hc
    have HC2 := Lib.hid hc2
    have hne : (y != 0) = true := by simpa using h0
    clear hc hc2 h0
    go_enter Try.func75, Try.ntmps75
    go_wp2_with fail
    refine (qcheck_any A n c rs 0 _ (hr.alloc _) hm HC.out).mono ?_
    rintro e w1 ⟨rfl, rfl⟩
    go_wp2_with fail
    refine (qcheck_any B m d ms y _ (hr2.alloc _) hm2 HC2.out).mono ?_
    rintro e w1 ⟨rfl, rfl⟩
    go_wp2
    go_ret
    exact ⟨rfl, (Below.refl _ _).alloc (Nat.le_refl _) _⟩
  · have hmay : QM.may ms = true := by
      rcases QM.chkIs_cases hc2 with ⟨_, h⟩ | ⟨_, h⟩
      · exact h
      · omega
    obtain ⟨_, h6, hrise⟩ := QM.may_len hmay
    have hw := QM.within_bits (r := rs) hrise
    have hs1 := QM.set_lt ms
    have hs2 := QM.set_lt rs
    have hnot := u8_nots _ _ hs1 hs2
    have HC := Lib.hid hc
    have HC2 := Lib.hid hc2
    have c1 := fun W q (h : Rd W B m (ic ms)) => set_quiet B m d ms W q h hm2
    have c2 := fun W q (h : Rd W A n (ic rs)) => set_quiet A n c rs W q h hm
    generalize QM.set ms = s at hw hnot hs1 c1
    generalize QM.set rs = t at hw hnot hs2 c2
    have C1 := Lib.hid c1
    have C2 := Lib.hid c2
    rcases hin : QM.within ms rs with _ | _
    · have hne : (bits .andNot .u8 (s : Int) (t : Int) != 0) = true := by
        rw [hnot]
        have : s &&& (63 ^^^ t) ≠ 0 := fun e => by rw [hw.1 e] at hin; cases hin
        simp
        omega
      rw [hin] at hb
      obtain rfl : y = 60 := by simpa using hb
      clear hc hc2 hmay h6 hrise hw hnot c1 c2 hin hb
      go_enter Try.func75, Try.ntmps75
      go_wp2_with fail
      refine (qcheck_any A n c rs 0 _ (hr.alloc _) hm HC.out).mono ?_
      rintro e w1 ⟨rfl, rfl⟩
      go_wp2_with fail
      refine (qcheck_any B m d ms 0 _ (hr2.alloc _) hm2 HC2.out).mono ?_
      rintro e w1 ⟨rfl, rfl⟩
      go_wp2_with fail
      go_quiet ((first | (go_at_call 56; with_reducible exact C1.out _ _ (hr2.alloc _)) | (go_at_call 56; with_reducible exact C2.out _ _ (hr.alloc _))))
      go_wp2
      go_ret
      exact ⟨rfl, below_drewN ((Below.refl _ _).alloc (Nat.le_refl _) _) _⟩
    · have hne : (bits .andNot .u8 (s : Int) (t : Int) != 0) = false := by
        rw [hnot, hw.2 hin]
        simp
      rw [hin] at hb
      obtain rfl : y = 0 := by simpa using hb
      clear hc hc2 hmay h6 hrise hw hnot c1 c2 hin hb
      go_enter Try.func75, Try.ntmps75
      go_wp2_with fail
      refine (qcheck_any A n c rs 0 _ (hr.alloc _) hm HC.out).mono ?_
      rintro e w1 ⟨rfl, rfl⟩
      go_wp2_with fail
      refine (qcheck_any B m d ms 0 _ (hr2.alloc _) hm2 HC2.out).mono ?_
      rintro e w1 ⟨rfl, rfl⟩
      go_wp2_with fail
      go_quiet ((first | (go_at_call 56; with_reducible exact C1.out _ _ (hr2.alloc _)) | (go_at_call 56; with_reducible exact C2.out _ _ (hr.alloc _))))
      go_wp2
      go_ret
      exact ⟨rfl, below_drewN ((Below.refl _ _).alloc (Nat.le_refl _) _) _⟩
end Go.Proofs.Ytmcfamoicdmkdaa
