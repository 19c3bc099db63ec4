/-
  The document's own MayPromise and rising (towncrierref08). Conditions: as each theorem says.
-/
import Derived.Test.YtmcfamoicdmkdaaAttA
import Derived.Test.YtmcfamoicdmkdaaAttS
import Derived.Test.YtmcfamoicdmkdaaBallotRM
import Derived.Test.YtmcfamoicdmkdaaQuorumRW
namespace Go.Proofs.Ytmcfamoicdmkdaa
open Go.RowKit
set_option linter.unusedVariables false
set_option linter.unusedSimpArgs false

set_option maxRecDepth 100000 in
set_option maxHeartbeats 1000000 in
theorem mayPromise_any (q : Int) (p : AM.Pr) (w : World) (F : FitP p) :
    Calls Try.prog 41 #[.agg #[.int .i64 p.n, .int .i64 p.b, .string p.v], .int .i64 q] w (BoolIs (AM.okP q p) w) := by
  have hb0 : Below w.heap.size w (w.alloc (.cells #[.int .i64 p.n, .int .i64 p.b, .string p.v] 31)) := (Below.refl _ _).alloc (Nat.le_refl _) _
  have HB0 := Lib.hid hb0; clear hb0
  obtain ⟨b1, b2, hs⟩ := F
  unfold maxLen at hs
  have hst : AM.okP q p = if p.b = 0 then p.v.toList.isEmpty else decide (BM.good p.b) && (decide (p.b < q) && decide ((p.v.size : Int) ≤ 1024)) := by
    unfold AM.okP
    split
    · rw [str_no]
    · congr 2
      rw [decide_eq_decide]; omega
  generalize AM.okP q p = r at hst ⊢
  obtain ⟨n, b, s⟩ := p
  simp only at b1 b2 hs hst HB0 ⊢
  have HS := Lib.hid hst; clear hst
  by_cases hz : b = 0
  · subst hz
    go_enter Try.func41, Try.ntmps41
    go_wp2_with fail
    go_ret
    exact bool_ret (by rw [HS.out]; simp) HB0.out
  · have hz' : (b == 0) = false := by simpa using hz
    by_cases hg : BM.good b
    · have HO := Lib.hid (fun W => rMay_yes b W hg)
      have HG := Lib.hid hg; clear hg
      by_cases hp : b < q
      · go_enter Try.func41, Try.ntmps41
        go_wp2_with fail
        refine (HO.out _).mono ?_
        rintro e w1 ⟨rfl, rfl⟩
        go_wp2_with fail
        go_ret
        exact bool_ret (by rw [HS.out]; simp [hz, HG.out, show b < q by omega]) HB0.out
      · go_enter Try.func41, Try.ntmps41
        go_wp2_with fail
        refine (HO.out _).mono ?_
        rintro e w1 ⟨rfl, rfl⟩
        go_wp2_with fail
        go_ret
        exact bool_ret (by rw [HS.out]; simp [hz, show ¬ b < q by omega]) HB0.out
    · have HO := Lib.hid (fun W => rMay_no b W hg)
      have HG := Lib.hid hg; clear hg
      go_enter Try.func41, Try.ntmps41
      go_wp2_with fail
      refine (HO.out _).mono ?_
      rintro e w1 ⟨rfl, rfl⟩
      go_wp2_with fail
      go_ret
      exact bool_ret (by rw [HS.out]; simp [hz, HG.out]) HB0.out


/-- each is above the one ahead, from place k on (k > 0: the one at k - 1 is looked at) -/
def adjK (l : List Int) (k : Nat) : Bool := AM.adj (l.drop (k - 1))
theorem adj_at {l : List Int} {k : Nat} {x y : Int} (hk : 0 < k) (h1 : l[k - 1]? = some x) (h2 : l[k]? = some y) : adjK l k = (decide (x < y) && adjK l (k + 1)) := by
  unfold adjK
  have l1 := (List.getElem?_eq_some_iff.1 h1)
  have l2 := (List.getElem?_eq_some_iff.1 h2)
  obtain ⟨p1, e1⟩ := l1
  obtain ⟨p2, e2⟩ := l2
  rw [List.drop_eq_getElem_cons p1, e1, show k - 1 + 1 = k by omega, show k + 1 - 1 = k by omega, List.drop_eq_getElem_cons p2, e2]
  rfl
theorem adj_end {l : List Int} {k : Nat} (h : l.length ≤ k) : adjK l k = true := by
  unfold adjK
  rcases hd : l.drop (k - 1) with _ | ⟨x, r⟩
  · rfl
  · have : (l.drop (k - 1)).length ≤ 1 := by rw [List.length_drop]; omega
    rw [hd] at this
    obtain rfl : r = [] := List.eq_nil_of_length_eq_zero (by rw [List.length_cons] at this; omega)
    rfl
theorem adj_first (l : List Int) : adjK l 0 = AM.adj l ∧ adjK l 1 = AM.adj l := ⟨by simp [adjK], by simp [adjK]⟩

set_option maxRecDepth 100000 in
set_option maxHeartbeats 2000000 in
theorem rising_any (A : Option Addr) (n c : Nat) (ns : List Int) (B : Option Addr) (m d : Nat) (ms : List Int) (w : World) (hr : Rd w A n (ic ns)) (hr2 : Rd w B m (ic ms)) (hn : n ≤ 2000) (hm : m ≤ 2000) :
    Calls Try.prog 49 #[.slice A n c, .slice B m d] w fun e w' => e = .returned (.bool (AM.adj ns && QM.within ns ms)) ∧ ∃ q, w' = w.drewN q := by
  have hl : ns.length = n := by have := hr.1; rwa [ic_length] at this
  obtain ⟨r, hrr⟩ : ∃ r, r = AM.adj ns := ⟨_, rfl⟩
  rw [← hrr]
  have HC := Lib.hid (fun q => rWithin_any A n c ns B m d ms (w.drewN q) (hr.drewN q) (by omega) (hr2.drewN q) (by omega))
  generalize QM.within ns ms = wi at HC ⊢
  have HS := Lib.hid (show adjK ns 0 = r by rw [hrr]; exact (adj_first ns).1)
  have HL := Lib.hid hl
  have HR := Lib.hid hr
  clear hl hr hr2 hrr
  go_enter Try.func49, Try.ntmps49
  go_wp2_with fail
  go_loopw [5] (fun i wr => ∃ k q : Nat, k ≤ n ∧ i = .int .i64 k ∧ wr = w.drewN q ∧ Hid (adjK ns k = r)) (fun i _ => n - (intOf i).toNat)
  case atStart => exact ⟨0, 0, by omega, rfl, rfl, HS⟩
  case round =>
    clear HS
    obtain ⟨k, q, hk, rfl, rfl, HT⟩ := hrel
    by_cases hlt : k < n
    · by_cases h0 : 0 < k
      · obtain ⟨ad, u1, e0, _, hu1, hc1⟩ := HR.out.at_ hlt
        subst e0
        obtain ⟨ad2, u2, e0, _, hu2, hc2⟩ := HR.out.at_ (show k - 1 < n by omega)
        injection e0 with e0
        subst e0
        obtain ⟨y, g1, rfl⟩ := ic_at hu1
        obtain ⟨x, g2, rfl⟩ := ic_at hu2
        have hst := HT.out
        rw [adj_at h0 g2 g1] at hst
        have i0 : (0 : Int) ≤ (k : Int) := by omega
        have i1 : (k : Int) < (n : Int) := by omega
        have i2 : (0 : Int) ≤ (k : Int) - 1 := by omega
        have i3 : (k : Int) - 1 < (n : Int) := by omega
        have i4 : IntKind.i64.wrap ((k : Int) - 1) = (k : Int) - 1 := by rw [IntKind.wrap_i64]; omega
        have i5 : ((k : Int) - 1).toNat = k - 1 := by omega
        have d0 : decide ((0 : Int) < (k : Int)) = true := by simp; omega
        have d1 : decide (0 < k) = true := by simp; omega
        clear hu1 hu2 g1 g2
        by_cases hxy : x < y
        · have d2 : decide (y ≤ x) = false := by simp; omega
          have HT2 := Lib.hid (show adjK ns (k + 1) = r by rw [show decide (x < y) = true by simpa using hxy, Bool.true_and] at hst; exact hst)
          clear hst hxy HT
          go_wp2_with fail
          go_quiet (fail)
          go_wp2_with fail
          go_roundw
          case rel => exact ⟨k + 1, q + nq, by omega, by go_num, by simp, HT2⟩
          case measure => simp [intOf]; omega
        · have d2 : decide (y ≤ x) = true := by simp; omega
          have hrf : false = r := by rw [show decide (x < y) = false by simpa using hxy, Bool.false_and] at hst; exact hst
          have HF := Lib.hid hrf
          clear hst hxy HT hrf
          go_wp2_with fail
          go_quiet (fail)
          go_wp2_with fail
          go_ret
          exact ⟨by rw [← HF.out]; rfl, q + nq, by simp⟩
      · obtain rfl : k = 0 := by omega
        have HT2 := Lib.hid (show adjK ns (0 + 1) = r by rw [← HT.out]; exact ((adj_first ns).2).trans ((adj_first ns).1).symm)
        have d0 : decide ((0 : Int) < ((0 : Nat) : Int)) = false := by simp
        have d1 : decide ((0 : Int) < 0) = false := by simp
        clear HT
        go_wp2_with fail
        go_quiet (fail)
        go_wp2_with fail
        go_roundw
        case rel => exact ⟨0 + 1, q + nq, by omega, by go_num, by simp, HT2⟩
        case measure => simp [intOf]; omega
    · have hrt : r = true := by rw [← HT.out]; exact adj_end (by have := HL.out; omega)
      subst hrt
      clear HT
      go_wp2_with fail
      refine (HC.out _).mono ?_
      rintro e w1 ⟨rfl, rfl⟩
      go_wp2_with fail
      go_ret
      exact ⟨by simp, q, rfl⟩
end Go.Proofs.Ytmcfamoicdmkdaa
