/-
  What the document's own helpers of layer 11 answer (towncrierref11: ahead, MayLog, SameVotes; towncrierref01.SameTexts of any two lists). Conditions: the slices read as said.
-/
import Derived.Test.YtohiemdodffhoaaStMem
import Derived.Test.YtohiemdodffhoaaNumF
import Derived.Deep.QuietTactic
import Derived.BigQuiet
import Derived.Deep.DeepCutAuto
namespace Go.Proofs.Ytohiemdodffhoaa.SP
open Go.RowKit
open SM (Sn Sb Vo)
set_option linter.unusedVariables false
set_option linter.unusedSimpArgs false
set_option maxRecDepth 100000

set_option maxHeartbeats 1000000 in
theorem rahead_any (a b : Sn) (w : World) :
    Calls Try.prog 54 #[.agg #[.int .i64 a.g, .int .i64 a.s, .int .i64 a.o.p, .int .i64 a.o.b, .string a.o.v], .agg #[.int .i64 b.g, .int .i64 b.s, .int .i64 b.o.p, .int .i64 b.o.b, .string b.o.v]] w
      fun e w' => e = .returned (.bool (SM.lt a b)) ∧ Below w.heap.size w w' := by
  have HB := Lib.hid (show Below w.heap.size w ((w.alloc (.cells #[.int .i64 a.g, .int .i64 a.s, .int .i64 a.o.p, .int .i64 a.o.b, .string a.o.v] 75)).alloc (.cells #[.int .i64 b.g, .int .i64 b.s, .int .i64 b.o.p, .int .i64 b.o.b, .string b.o.v] 75)) from
    ((Below.refl _ _).alloc (Nat.le_refl _) _).alloc (by simp) _)
  obtain ⟨x, hx⟩ : ∃ x, x = SM.lt a b := ⟨_, rfl⟩
  rw [← hx]
  unfold SM.lt at hx
  generalize a.g = g at hx HB ⊢
  generalize b.g = h at hx HB ⊢
  generalize a.s = s at hx HB ⊢
  generalize b.s = t at hx HB ⊢
  rcases (show g < h ∨ (¬ g < h ∧ g = h) ∨ (¬ g < h ∧ ¬ g = h) by omega) with h1 | ⟨h1, h2⟩ | ⟨h1, h2⟩
  · obtain rfl : x = true := by rw [hx]; simp [h1]
    clear hx
    go_enter Try.func54, Try.ntmps54
    go_wp2_with fail
    go_ret
    exact ⟨by first | rfl | simp, HB.out⟩
  · subst h2
    obtain rfl : x = decide (s < t) := by rw [hx]; simp
    clear hx
    go_enter Try.func54, Try.ntmps54
    go_wp2_with fail
    go_ret
    exact ⟨by first | rfl | simp, HB.out⟩
  · obtain rfl : x = false := by rw [hx]; simp [h1, h2]
    have h3 : (g == h) = false := by simpa using h2
    clear hx
    go_enter Try.func54, Try.ntmps54
    go_wp2_with fail
    go_ret
    exact ⟨by first | rfl | simp, HB.out⟩

set_option maxHeartbeats 1000000 in
theorem rmaylog_any (A : Option Addr) (n c : Nat) (l : List ByteArray) (w : World) (hr : Rd w A n (tc l)) (hs : ∀ v ∈ l, v.size ≤ maxLen) (hm : n ≤ maxLen) :
    Calls Try.prog 52 #[.slice A n c] w fun e w' => e = .returned (.bool (decide (SM.logOk l))) ∧ w = w' := by
  have hl : l.length = n := by have := hr.1; rwa [tc_length] at this
  unfold maxLen at hm
  obtain ⟨x, hx⟩ : ∃ x, x = decide (SM.logOk l) := ⟨_, rfl⟩
  rw [← hx]
  have HX := Lib.hid hx
  have HL := Lib.hid hl
  have HS := Lib.hid hs
  have HR := Lib.hid hr
  clear hx hl hs hr
  by_cases hn : 200 < n
  · obtain rfl : x = false := by rw [HX.out, decide_eq_false_iff_not]; intro h; have := h.1; have := HL.out; omega
    go_enter Try.func52, Try.ntmps52
    go_wp2_with fail
    go_ret
    exact ⟨rfl, rfl⟩
  · go_enter Try.func52, Try.ntmps52
    go_wp2_with fail
    go_loop [3] (fun i => ∃ k : Nat, k ≤ n ∧ i = .int .i64 k ∧ Hid (∀ v ∈ l.take k, v.size ≤ 1024)) (fun i => n - (intOf i).toNat)
    case atStart => exact ⟨0, Nat.zero_le _, rfl, Lib.hid (by simp)⟩
    case round =>
      obtain ⟨k, hk, rfl, HK⟩ := hrel
      by_cases hlt : k < n
      · have hkl : k < l.length := by have := HL.out; omega
        obtain ⟨v, hv⟩ : ∃ v, l[k]? = some v := ⟨_, List.getElem?_eq_getElem hkl⟩
        obtain ⟨ad, rfl, _, hc⟩ := rd_text HR.out hv
        have hvs := HS.out v (List.mem_of_getElem? hv)
        unfold maxLen at hvs
        have HV := Lib.hid hv; clear hv
        by_cases hbig : 1024 < v.size
        · obtain rfl : x = false := by rw [HX.out, decide_eq_false_iff_not]; intro h; have := h.2 v (List.mem_of_getElem? HV.out); omega
          go_wp2_with fail
          go_ret
          exact ⟨rfl, rfl⟩
        · go_wp2_with fail
          go_round
          case rel => exact ⟨k + 1, by omega, by go_num, Lib.hid (fun u hu => by
              rw [List.take_succ_eq_append_getElem hkl, List.mem_append, List.mem_singleton] at hu
              rcases hu with hu | rfl
              · exact HK.out u hu
              · have := (List.getElem?_eq_some_iff.1 HV.out).2; rw [this]; omega)⟩
          case measure => simp [intOf]; omega
      · obtain rfl : x = true := by rw [HX.out, decide_eq_true_iff]; exact ⟨by have := HL.out; omega, by have := HK.out; rwa [List.take_of_length_le (by have := HL.out; omega)] at this⟩
        go_wp2_with fail
        go_ret
        exact ⟨rfl, rfl⟩

theorem tstr_ne {t s : ByteArray} (h : t ≠ s) : (t.toList == s.toList) = false := by
  rw [beq_eq_false_iff_ne]
  intro e
  rw [ByteArray.toList_eq, ByteArray.toList_eq] at e
  exact h (RM.bsz_eq e)
set_option maxHeartbeats 1000000 in
theorem rsametexts_any (A B : Option Addr) (n m ca cb : Nat) (l r : List ByteArray) (w : World) (h1 : Rd w A n (tc l)) (h2 : Rd w B m (tc r)) (hm : n ≤ maxLen) (hm2 : m ≤ maxLen) :
    Calls Try.prog 18 #[.slice A n ca, .slice B m cb] w fun e w' => e = .returned (.bool (decide (l = r))) ∧ ∃ q, w' = w.drewN q := by
  have hl : l.length = n := by have := h1.1; rwa [tc_length] at this
  have hr : r.length = m := by have := h2.1; rwa [tc_length] at this
  unfold maxLen at hm hm2
  obtain ⟨x, hx⟩ : ∃ x, x = decide (l = r) := ⟨_, rfl⟩
  rw [← hx]
  have HX := Lib.hid hx
  have HL := Lib.hid hl
  have HR := Lib.hid hr
  have H1 := Lib.hid h1
  have H2 := Lib.hid h2
  clear hx hl hr h1 h2
  by_cases hnm : n = m
  · subst hnm
    go_enter Try.func18, Try.ntmps18
    have hne : ((n : Int) != (n : Int)) = false := by simp
    go_wp2_with fail
    go_loopw [5] (fun i wr => ∃ k q : Nat, k ≤ n ∧ i = .int .i64 k ∧ wr = w.drewN q ∧ Hid (l.take k = r.take k)) (fun i _ => n - (intOf i).toNat)
    case atStart => exact ⟨0, 0, Nat.zero_le _, rfl, rfl, Lib.hid (by simp)⟩
    case round =>
      obtain ⟨k, q, hk, rfl, rfl, HK⟩ := hrel
      by_cases hlt : k < n
      · have hkl : k < l.length := by have := HL.out; omega
        have hkr : k < r.length := by have := HR.out; omega
        obtain ⟨u, hu⟩ : ∃ u, l[k]? = some u := ⟨_, List.getElem?_eq_getElem hkl⟩
        obtain ⟨v, hv⟩ : ∃ v, r[k]? = some v := ⟨_, List.getElem?_eq_getElem hkr⟩
        obtain ⟨ad1, rfl, _, hc1⟩ := rd_text H1.out hu
        obtain ⟨ad2, rfl, _, hc2⟩ := rd_text H2.out hv
        have HU := Lib.hid hu; have HV := Lib.hid hv; clear hu hv
        have hk0 : (0 : Int) ≤ (k : Int) := by omega
        have hkn : (k : Int) < (n : Int) := by omega
        by_cases huv : u = v
        · subst huv
          go_wp2_with fail
          go_quiet (fail)
          go_wp2_with fail
          go_roundw
          case rel => exact ⟨k + 1, q + nq, by omega, by go_num, by simp, Lib.hid (by
              rw [List.take_add_one, List.take_add_one, HK.out, HU.out, HV.out])⟩
          case measure => simp [intOf]; omega
        · have hne2 := tstr_ne huv
          obtain rfl : x = false := by rw [HX.out, decide_eq_false_iff_not]; intro h; have h3 := HU.out; rw [h, HV.out] at h3; injection h3 with h3; exact huv h3.symm
          go_wp2_with fail
          go_quiet (fail)
          go_wp2_with fail
          go_ret
          exact ⟨rfl, _, (by simp; rfl)⟩
      · obtain rfl : x = true := by
          rw [HX.out, decide_eq_true_iff]
          have := HK.out
          rwa [List.take_of_length_le (by have := HL.out; omega), List.take_of_length_le (by have := HR.out; omega)] at this
        go_wp2_with fail
        go_ret
        exact ⟨rfl, q, rfl⟩
  · obtain rfl : x = false := by rw [HX.out, decide_eq_false_iff_not]; intro h; have := HL.out; have := HR.out; rw [h] at *; omega
    have hne : ((n : Int) != (m : Int)) = true := by simp; omega
    go_enter Try.func18, Try.ntmps18
    go_wp2_with fail
    go_ret
    exact ⟨rfl, 0, rfl⟩
end Go.Proofs.Ytohiemdodffhoaa.SP
