/-
  What the document's own Check, Need, Within, MayGroup, CheckGroup, Counts, Most (towncrierref06) answer of lists that read as ints. Conditions: the slices read as ints.
-/
import Derived.Test.YtodldnnonhlhgaaQuorumRM
namespace Go.Proofs.Ytodldnnonhlhgaa
open Go.RowKit
set_option linter.unusedVariables false

/-- one number, some draws -/
def NumPost (y : Int) (w : World) (e : Ending) (w' : World) : Prop := e = .returned (.int .i64 y) ∧ ∃ q, w' = w.drewN q
def NumPost2 (x y : Int) (w : World) (e : Ending) (w' : World) : Prop := e = .returned (.tuple #[.int .i64 x, .int .i64 y]) ∧ ∃ q, w' = w.drewN q
def BoolPost2 (b : Bool) (y : Int) (w : World) (e : Ending) (w' : World) : Prop := e = .returned (.tuple #[.bool b, .int .i64 y]) ∧ ∃ q, w' = w.drewN q

theorem rCheck_any (A : Option Addr) (n c : Nat) (zs : List Int) (y : Int) (w : World) (hr : Rd w A n (ic zs)) (hm : n ≤ 9223372036854775807) (hy : QM.ChkIs zs y) :
    Calls Try.prog 14 #[.slice A n c] w (NumPost y w) := by
  have hl : zs.length = n := by have := hr.1; rwa [ic_length] at this
  have h := rMay_any A n c zs w hr hm
  rcases hy with ⟨h6, rfl⟩ | ⟨h6, hf, rfl⟩ | ⟨ht, rfl⟩
  · rw [hl] at h6
    clear h hl
    go_enter Try.func14, Try.ntmps14
    go_wp2
    go_ret
    exact ⟨rfl, 0, rfl⟩
  · rw [hl] at h6
    rw [hf] at h
    have H := Lib.hid h
    clear h hl hf
    go_enter Try.func14, Try.ntmps14
    go_wp2_with fail
    refine H.out.mono ?_
    rintro e w1 ⟨rfl, q, rfl⟩
    go_wp2
    go_ret
    exact ⟨rfl, q, rfl⟩
  · obtain ⟨_, h2, _⟩ := QM.may_len ht
    rw [hl] at h2
    rw [ht] at h
    have H := Lib.hid h
    clear h hl ht
    go_enter Try.func14, Try.ntmps14
    go_wp2_with fail
    refine H.out.mono ?_
    rintro e w1 ⟨rfl, q, rfl⟩
    go_wp2
    go_ret
    exact ⟨rfl, q, rfl⟩
theorem rNeed_any (A : Option Addr) (n c : Nat) (zs : List Int) (x y : Int) (w : World) (hr : Rd w A n (ic zs)) (hm : n ≤ 9223372036854775807) (hy : QM.NeedIs zs x y) :
    Calls Try.prog 11 #[.slice A n c] w (NumPost2 x y w) := by
  have hl : zs.length = n := by have := hr.1; rwa [ic_length] at this
  obtain ⟨hc, h⟩ := hy
  have HC := Lib.hid hc; clear hc
  rw [hl] at h
  clear hl
  rcases h with ⟨rfl, rfl⟩ | ⟨h0, rfl⟩
  · go_enter Try.func11, Try.ntmps11
    go_wp2_with fail
    refine (rCheck_any A n c zs _ _ hr hm HC.out).mono ?_
    rintro e w1 ⟨rfl, q, rfl⟩
    go_wp2
    go_ret2
    exact ⟨rfl, q, rfl⟩
  · have h1 : (y != 0) = true := by simpa using h0
    go_enter Try.func11, Try.ntmps11
    go_wp2_with fail
    refine (rCheck_any A n c zs _ _ hr hm HC.out).mono ?_
    rintro e w1 ⟨rfl, q, rfl⟩
    go_wp2
    go_ret2
    exact ⟨rfl, q, rfl⟩

set_option maxHeartbeats 1000000 in
theorem rWithin_any (A : Option Addr) (n c : Nat) (ms : List Int) (B : Option Addr) (m d : Nat) (rs : List Int) (w : World) (hr : Rd w A n (ic ms)) (hm : n ≤ 9223372036854775807) (hr2 : Rd w B m (ic rs)) (hm2 : m ≤ 9223372036854775807) :
    Calls Try.prog 26 #[.slice A n c, .slice B m d] w fun e w' => e = .returned (.bool (QM.within ms rs)) ∧ w = w' := by
  have hl : ms.length = n := by have := hr.1; rwa [ic_length] at this
  obtain ⟨r, hrr⟩ : ∃ r, r = QM.within ms rs := ⟨_, rfl⟩
  have hst : QM.within (ms.drop 0) rs = r := hrr.symm
  rw [← hrr]
  have HL := Lib.hid hl; clear hl
  have HS := Lib.hid hst; clear hst hrr
  go_enter Try.func26, Try.ntmps26
  go_wp2
  go_loop [5] (fun i => ∃ k : Nat, k ≤ n ∧ i = .int .i64 k ∧ Hid (QM.within (ms.drop k) rs = r)) (fun i => n - (intOf i).toNat)
  case atStart => exact ⟨0, by omega, rfl, HS⟩
  case round =>
    clear HS
    obtain ⟨k, hk, rfl, HR⟩ := hrel
    by_cases hlt : k < n
    · have hkz : k < ms.length := by have := HL.out; omega
      obtain ⟨ad, u, rfl, _, hu, hcell⟩ := hr.at_ hlt
      rw [ic_get ms k hkz] at hu
      injection hu with hu
      subst hu
      have hd := HR.out
      rw [List.drop_eq_getElem_cons hkz] at hd
      obtain ⟨z, hz⟩ : ∃ z, z = ms[k] := ⟨_, rfl⟩
      rw [← hz] at hcell hd
      clear hz HR
      have hc := rHas_any B m d rs z w hr2 hm2
      unfold QM.within at hd
      rw [List.all_cons] at hd
      rcases hb : QM.has rs z with _ | _
      · rw [hb] at hd hc
        have hd' : false = r := by simpa using hd
        have HD := Lib.hid hd'
        have HC := Lib.hid hc
        clear hd hc hd' hb
        go_wp2_with fail
        refine HC.out.mono ?_
        rintro e w1 ⟨rfl, rfl⟩
        go_wp2
        go_ret
        exact ⟨ret_eq HD.out, rfl⟩
      · rw [hb] at hd hc
        have hd' : QM.within (ms.drop (k + 1)) rs = r := by unfold QM.within; simpa using hd
        have HD := Lib.hid hd'
        have HC := Lib.hid hc
        clear hd hc hd' hb
        go_wp2_with fail
        refine HC.out.mono ?_
        rintro e w1 ⟨rfl, rfl⟩
        go_wp2
        go_round
        case rel => exact ⟨k + 1, by omega, by go_num, HD⟩
        case measure => simp [intOf]; omega
    · have hd := HR.out
      rw [List.drop_of_length_le (by have := HL.out; omega)] at hd
      have hd' : true = r := by rw [← hd]; rfl
      clear hd
      have HD := Lib.hid hd'; clear hd'
      go_wp2
      go_ret
      exact ⟨ret_eq HD.out, rfl⟩

set_option maxHeartbeats 1000000 in
theorem rCounts_any (A : Option Addr) (n c : Nat) (ms : List Int) (B : Option Addr) (m d : Nat) (rs : List Int) (w : World) (hr : Rd w A n (ic ms)) (hm : n ≤ 9223372036854775807) (hr2 : Rd w B m (ic rs)) (hm2 : m ≤ 9223372036854775807) :
    Calls Try.prog 22 #[.slice A n c, .slice B m d] w fun e w' => e = .returned (.bool (decide (n / 2 + 1 ≤ QM.cnt ms rs))) ∧ w = w' := by
  have hl : ms.length = n := by have := hr.1; rwa [ic_length] at this
  have HL := Lib.hid hl; clear hl
  go_enter Try.func22, Try.ntmps22
  go_wp2
  go_loop [5, 6] (fun s i => ∃ k q : Nat, k ≤ n ∧ q ≤ k ∧ i = .int .i64 k ∧ s = .int .i64 q ∧ Hid (q = QM.cnt (ms.take k) rs)) (fun _ i => n - (intOf i).toNat)
  case atStart => exact ⟨0, 0, by omega, by omega, rfl, rfl, Lib.hid rfl⟩
  case round =>
    obtain ⟨k, q, hk, hq, rfl, rfl, HR⟩ := hrel
    by_cases hlt : k < n
    · have hkz : k < ms.length := by have := HL.out; omega
      obtain ⟨ad, u, rfl, _, hu, hcell⟩ := hr.at_ hlt
      rw [ic_get ms k hkz] at hu
      injection hu with hu
      subst hu
      have hd := QM.cnt_snoc ms rs k hkz
      rw [← HR.out] at hd
      obtain ⟨z, hz⟩ : ∃ z, z = ms[k] := ⟨_, rfl⟩
      rw [← hz] at hcell hd
      clear hz HR
      have hc := rHas_any B m d rs z w hr2 hm2
      rcases hb : QM.has rs z with _ | _
      · rw [hb] at hd hc
        have hd' : q = QM.cnt (ms.take (k + 1)) rs := by rw [hd]; simp
        have HD := Lib.hid hd'
        have HC := Lib.hid hc
        clear hd hc hd' hb
        go_wp2_with fail
        refine HC.out.mono ?_
        rintro e w1 ⟨rfl, rfl⟩
        go_wp2
        go_round
        case rel => exact ⟨k + 1, q, by omega, by omega, by go_num, rfl, HD⟩
        case measure => simp [intOf]; omega
      · rw [hb] at hd hc
        have hd' : q + 1 = QM.cnt (ms.take (k + 1)) rs := by rw [hd]; simp
        have HD := Lib.hid hd'
        have HC := Lib.hid hc
        clear hd hc hd' hb
        go_wp2_with fail
        refine HC.out.mono ?_
        rintro e w1 ⟨rfl, rfl⟩
        go_wp2
        go_round
        case rel => exact ⟨k + 1, q + 1, by omega, by omega, by go_num, by go_num, HD⟩
        case measure => simp [intOf]; omega
    · obtain rfl : k = n := by omega
      have hd : q = QM.cnt ms rs := by have := HR.out; rw [List.take_of_length_le (by have := HL.out; omega)] at this; exact this
      have HD := Lib.hid hd; clear hd
      go_wp2
      go_ret
      exact ⟨ret_eq (by rw [← HD.out, Bool.eq_iff_iff]; simp; omega), rfl⟩

set_option maxHeartbeats 1000000 in
theorem rMost_any (A : Option Addr) (n c : Nat) (zs : List Int) (B : Option Addr) (m d : Nat) (ys : List Int) (b : Bool) (y : Int) (w : World) (hr : Rd w A n (ic zs)) (hm : n ≤ 9223372036854775807)
    (hr2 : Rd w B m (ic ys)) (hm2 : m ≤ 9223372036854775807) (hy : QM.MostIs zs ys b y) :
    Calls Try.prog 13 #[.slice A n c, .slice B m d] w (BoolPost2 b y w) := by
  have hl : zs.length = n := by have := hr.1; rwa [ic_length] at this
  have hl2 : ys.length = m := by have := hr2.1; rwa [ic_length] at this
  rcases hy with ⟨hc, h0, rfl⟩ | ⟨hc, h1, rfl, rfl⟩ | ⟨hc, h1, hb, rfl⟩
  · have HC := Lib.hid hc
    have hne : (y != 0) = true := by simpa using h0
    clear hc h0 hl hl2
    go_enter Try.func13, Try.ntmps13
    go_wp2_with fail
    refine (rCheck_any A n c zs y _ hr hm HC.out).mono ?_
    rintro e w1 ⟨rfl, q, rfl⟩
    go_wp2
    go_ret2
    exact ⟨rfl, q, rfl⟩
  · have HC := Lib.hid hc
    rw [hl2] at h1
    clear hc hl hl2
    go_enter Try.func13, Try.ntmps13
    go_wp2_with fail
    refine (rCheck_any A n c zs 0 _ hr hm HC.out).mono ?_
    rintro e w1 ⟨rfl, q, rfl⟩
    go_wp2
    go_ret2
    exact ⟨rfl, q, rfl⟩
  · have HC := Lib.hid hc
    rw [hl2] at h1
    have c1 := fun W (h1 : Rd W A n (ic zs)) (h2 : Rd W B m (ic ys)) => rCounts_any A n c zs B m d ys W h1 hm h2 hm2
    rw [hl] at hb
    rw [← hb] at c1
    have C1 := Lib.hid c1
    clear hc hl hl2 hb c1
    go_enter Try.func13, Try.ntmps13
    go_wp2_with fail
    refine (rCheck_any A n c zs 0 _ hr hm HC.out).mono ?_
    rintro e w1 ⟨rfl, q, rfl⟩
    go_wp2_with fail
    refine (C1.out _ (hr.drewN _) (hr2.drewN _)).mono ?_
    rintro e w1 ⟨rfl, rfl⟩
    go_wp2
    go_ret2
    exact ⟨rfl, q, rfl⟩

set_option maxHeartbeats 1000000 in
theorem rMayGroup_any (A : Option Addr) (n c : Nat) (rs : List Int) (B : Option Addr) (m d : Nat) (ms : List Int) (w : World) (hr : Rd w A n (ic rs)) (hm : n ≤ 9223372036854775807)
    (hr2 : Rd w B m (ic ms)) (hm2 : m ≤ 9223372036854775807) (h1 : QM.may rs = true) (h2 : QM.may ms = true) :
    Calls Try.prog 24 #[.agg #[.slice A n c, .slice B m d]] w fun e w' => e = .returned (.bool (QM.within ms rs)) ∧ Below w.heap.size w w' := by
  have c1 := fun W (h : Rd W A n (ic rs)) => rMay_any A n c rs W h hm
  have c2 := fun W (h : Rd W B m (ic ms)) => rMay_any B m d ms W h hm2
  rw [h1] at c1
  rw [h2] at c2
  have c3 := fun W (h : Rd W A n (ic rs)) (h2 : Rd W B m (ic ms)) => rWithin_any B m d ms A n c rs W h2 hm2 h hm
  generalize QM.within ms rs = b at c3 ⊢
  have C1 := Lib.hid c1
  have C2 := Lib.hid c2
  have C3 := Lib.hid c3
  clear c1 c2 c3 h1 h2
  go_enter Try.func24, Try.ntmps24
  go_wp2_with fail
  refine (C1.out _ (hr.alloc _)).mono ?_
  rintro e w1 ⟨rfl, q, rfl⟩
  go_wp2_with fail
  refine (C2.out _ ((hr2.alloc _).drewN _)).mono ?_
  rintro e w1 ⟨rfl, q2, rfl⟩
  go_wp2_with fail
  refine (C3.out _ ((hr.alloc _).drewN _) ((hr2.alloc _).drewN _)).mono ?_
  rintro e w1 ⟨rfl, rfl⟩
  go_wp2
  go_ret
  exact ⟨rfl, below_drewN ((Below.refl _ _).alloc (Nat.le_refl _) _) _⟩

set_option maxHeartbeats 1000000 in
theorem rCheckGroup_any (A : Option Addr) (n c : Nat) (rs : List Int) (B : Option Addr) (m d : Nat) (ms : List Int) (y : Int) (w : World) (hr : Rd w A n (ic rs)) (hm : n ≤ 9223372036854775807)
    (hr2 : Rd w B m (ic ms)) (hm2 : m ≤ 9223372036854775807) (hy : QM.GrpIs rs ms y) :
    Calls Try.prog 15 #[.agg #[.slice A n c, .slice B m d]] w fun e w' => e = .returned (.int .i64 y) ∧ Below w.heap.size w w' := by
  rcases hy with ⟨hc, h0⟩ | ⟨hc, hc2, h0⟩ | ⟨hc, hc2, hb⟩
  · have HC := Lib.hid hc
    have hne : (y == 0) = false := by simpa using h0
    clear hc h0
    go_enter Try.func15, Try.ntmps15
    go_wp2_with fail
    refine (rCheck_any A n c rs y _ (hr.alloc _) hm HC.out).mono ?_
    rintro e w1 ⟨rfl, q, rfl⟩
    go_wp2
    go_ret
    exact ⟨rfl, below_drewN ((Below.refl _ _).alloc (Nat.le_refl _) _) _⟩
  · have HC := Lib.hid hc
    have HC2 := Lib.hid hc2
    have hne : (y == 0) = false := by simpa using h0
    clear hc hc2 h0
    go_enter Try.func15, Try.ntmps15
    go_wp2_with fail
    refine (rCheck_any A n c rs 0 _ (hr.alloc _) hm HC.out).mono ?_
    rintro e w1 ⟨rfl, q, rfl⟩
    go_wp2_with fail
    refine (rCheck_any B m d ms y _ ((hr2.alloc _).drewN _) hm2 HC2.out).mono ?_
    rintro e w1 ⟨rfl, q2, rfl⟩
    go_wp2
    go_ret
    exact ⟨rfl, below_drewN ((Below.refl _ _).alloc (Nat.le_refl _) _) _⟩
  · have hm1 : QM.may rs = true := by
      rcases QM.chkIs_cases hc with ⟨_, h⟩ | ⟨_, h⟩
      · exact h
      · omega
    have hmay : QM.may ms = true := by
      rcases QM.chkIs_cases hc2 with ⟨_, h⟩ | ⟨_, h⟩
      · exact h
      · omega
    have HC := Lib.hid hc
    have HC2 := Lib.hid hc2
    have c3 := fun W (h : Rd W A n (ic rs)) (h2 : Rd W B m (ic ms)) => rMayGroup_any A n c rs B m d ms W h hm h2 hm2 hm1 hmay
    generalize QM.within ms rs = b at hb c3
    have C3 := Lib.hid c3
    clear c3 hc hc2 hmay hm1
    rcases b with _ | _
    · obtain rfl : y = 60 := by simpa using hb
      clear hb
      go_enter Try.func15, Try.ntmps15
      go_wp2_with fail
      refine (rCheck_any A n c rs 0 _ (hr.alloc _) hm HC.out).mono ?_
      rintro e w1 ⟨rfl, q, rfl⟩
      go_wp2_with fail
      refine (rCheck_any B m d ms 0 _ ((hr2.alloc _).drewN _) hm2 HC2.out).mono ?_
      rintro e w1 ⟨rfl, q2, rfl⟩
      go_wp2_with fail
      refine (C3.out _ ((hr.alloc _).drewN _) ((hr2.alloc _).drewN _)).mono ?_
      rintro e w1 ⟨rfl, hb1⟩
      go_wp2
      go_ret
      exact ⟨rfl, bmore (below_drewN ((Below.refl _ _).alloc (Nat.le_refl _) _) _) hb1 (by simp)⟩
    · obtain rfl : y = 0 := by simpa using hb
      clear hb
      go_enter Try.func15, Try.ntmps15
      go_wp2_with fail
      refine (rCheck_any A n c rs 0 _ (hr.alloc _) hm HC.out).mono ?_
      rintro e w1 ⟨rfl, q, rfl⟩
      go_wp2_with fail
      refine (rCheck_any B m d ms 0 _ ((hr2.alloc _).drewN _) hm2 HC2.out).mono ?_
      rintro e w1 ⟨rfl, q2, rfl⟩
      go_wp2_with fail
      refine (C3.out _ ((hr.alloc _).drewN _) ((hr2.alloc _).drewN _)).mono ?_
      rintro e w1 ⟨rfl, hb1⟩
      go_wp2
      go_ret
      exact ⟨rfl, bmore (below_drewN ((Below.refl _ _).alloc (Nat.le_refl _) _) _) hb1 (by simp)⟩
end Go.Proofs.Ytodldnnonhlhgaa
