/-
  The document's own Great of logs (towncrierref16). Conditions: rows of texts that read.
-/
import Derived.Test.YteebeiaokfenmaaGreatProg
import Derived.Test.YteebeiaokfenmaaGreatK01
import Derived.Deep.QuietTactic
import Derived.BigQuiet
import Derived.Deep.RegionHeld3
import Derived.Deep.DeepCutAuto
import Derived.Lib.MinMax
import Derived.WalkKit
namespace Go.Proofs.YteebeiaokfenmaaGreat.OP
open Go.RowKit SP TP
set_option linter.unusedVariables false
set_option linter.unusedSimpArgs false
set_option maxRecDepth 100000

/-- where logs are not great -/
def FewL (ls : List (List ByteArray)) : Prop := ls.length ≤ 6 ∧ ∀ l ∈ ls, l.length ≤ 300
def GrL (ls : List (List ByteArray)) (w : World) (e : Ending) (w' : World) : Prop := ∃ b : Bool, e = .returned (.bool b) ∧ (b = false → FewL ls) ∧ Below w.heap.size w w'
set_option maxHeartbeats 8000000 in
theorem great16_any (A : Option Addr) (n c : Nat) (ls : List (List ByteArray)) (w : World) (h : LogsIs w A n c ls) (hs : ∀ l ∈ ls, ∀ t ∈ l, t.size ≤ maxLen) :
    Calls Tryz.prog 18 #[.slice A n c] w (GrL ls w) := by
  have hn63 : n ≤ 9223372036854775807 := by
    obtain ⟨_, _, _, _, h1, h2⟩ := h
    unfold maxLen at h2
    omega
  have hln : ls.length = n := by obtain ⟨_, _, _, h1, _⟩ := h; exact h1
  have HLN := Lib.hid hln
  have H := Lib.hid h
  have HS := Lib.hid hs
  clear h hs hln
  go_enter Tryz.func18, Tryz.ntmps18
  go_wp2_with fail
  go_loopw [3, 4] (fun s i wr => ∃ k y : Nat, k ≤ n ∧ k ≤ 10 ∧ y ≤ 10100000 * k ∧ s = .int .i64 y ∧ i = .int .i64 k ∧ Below w.heap.size w wr ∧ Hid (∀ l ∈ ls.take k, 100 * min l.length 1000 ≤ y)) (fun _ i _ => 10 - (intOf i).toNat)
  case atStart => exact ⟨0, 0, by omega, by omega, by omega, rfl, rfl, Below.refl _ _, Lib.hid (by simp)⟩
  case round =>
    obtain ⟨k, y, hk, hk10, hy, rfl, rfl, hB, HK⟩ := hrel
    have HB := Lib.hid hB
    clear hB
    by_cases hlt : k < n ∧ k < 10
    · obtain ⟨h1, h2⟩ := hlt
      obtain ⟨l, hl⟩ : ∃ l, ls[k]? = some l := ⟨_, List.getElem?_eq_getElem (by have := HLN.out; omega)⟩
      have HLL := Lib.hid hl
      obtain ⟨ad, C, e, rfl, _, q1, _⟩ := logs_get (H.out.below HB.out) hl
      have HSL := Lib.hid (HS.out l (List.mem_of_getElem? hl))
      have HQ := Lib.hid (fun W (hb : Below w.heap.size w W) => logs_get (H.out.below hb) hl)
      have hl63 : l.length ≤ 9223372036854775807 := by
        obtain ⟨_, _, _, _, _, _, _, i1, i2⟩ := HQ.out _ HB.out
        unfold maxLen at i2
        omega
      have hk0 : (0 : Int) ≤ (k : Int) := by omega
      have hkn : (k : Int) < (n : Int) := by omega
      have hk1 : (k : Int) < 10 := by omega
      obtain ⟨nl, hnl⟩ : ∃ nl, nl = l.length := ⟨_, rfl⟩
      have HNL := Lib.hid hnl
      rw [← hnl] at q1 hl63
      clear hl hnl
      go_wp2_with fail
      clear q1
      go_loopw [3, 5] (fun s i wr => ∃ j z : Nat, j ≤ nl ∧ j ≤ 1000 ∧ y + 100 * j ≤ z ∧ z ≤ y + 10100 * j ∧ s = .int .i64 z ∧ i = .int .i64 j ∧ Below w.heap.size w wr) (fun _ i _ => 1000 - (intOf i).toNat)
      case atStart => exact ⟨0, y, by omega, by omega, by omega, by omega, rfl, rfl, HB.out⟩
      case round =>
        clear HB
        obtain ⟨j, z, hj, hj3, hz1, hz2, rfl, rfl, hB⟩ := hrel
        obtain ⟨ad2, C2, e2, hae, _, q1, q2, q3, q4⟩ := HQ.out _ hB
        injection hae with hae
        subst hae
        rw [← HNL.out] at q1 q2
        have HB := Lib.hid hB
        clear hB
        by_cases hlt2 : j < nl ∧ j < 1000
        · obtain ⟨h3, h4⟩ := hlt2
          obtain ⟨t, ht⟩ : ∃ t, l[j]? = some t := ⟨_, List.getElem?_eq_getElem (by have := HNL.out; omega)⟩
          have hts := HSL.out t (List.mem_of_getElem? ht)
          unfold maxLen at hts
          obtain ⟨ad3, u, rfl, _, hu, hcell⟩ := q2.at_ (k := j) h3
          rw [tc_get ht] at hu
          injection hu with hu
          subst hu
          have hj0 : (0 : Int) ≤ (j : Int) := by omega
          have hjn : (j : Int) < (nl : Int) := by omega
          have hj1 : (j : Int) < 1000 := by omega
          clear ht q2
          go_wp2_with fail
          go_roundw
          case rel => exact ⟨j + 1, z + min t.size 10000 + 100, by omega, by omega, by omega, by omega, by congr 1; omega, by go_num, HB.out⟩
          case measure => simp [intOf]; omega
        · have NX := Lib.hid (show ∀ l ∈ ls.take (k + 1), 100 * min l.length 1000 ≤ z from fun l2 hl2 => by
            rw [List.take_add_one, HLL.out] at hl2
            rcases List.mem_append.1 hl2 with q | q
            · have := HK.out l2 q
              omega
            · simp at q
              subst q
              have := HNL.out
              omega)
          clear q2
          rcases (show ¬ j < nl ∨ (j < nl ∧ ¬ j < 1000) by omega) with p1 | ⟨p1, p2⟩
          all_goals
            clear hlt2
            go_wp2_with fail
            go_roundw
            case rel => exact ⟨k + 1, z, by omega, by omega, by omega, rfl, by go_num, HB.out, NX⟩
            case measure => simp [intOf]; omega
    · have HN := Lib.hid (show n ≤ 6 → y ≤ 30000 → FewL ls from fun e1 e2 => by
        have e3 : k = n := by omega
        have e4 := HK.out
        rw [e3, List.take_of_length_le (by have := HLN.out; omega)] at e4
        exact ⟨by have := HLN.out; omega, fun l hl => by have := e4 l hl; omega⟩)
      have hq : ¬ (k : Int) < (n : Int) ∨ ((k : Int) < (n : Int) ∧ ¬ (k : Int) < 10) := by omega
      clear hlt HK
      by_cases p1 : 6 < n
      · rcases hq with q1 | ⟨q1, q2⟩
        all_goals
          go_wp2_with fail
          go_ret
          exact ⟨true, by first | rfl | simp, fun h => (by cases h), HB.out⟩
      · have q1 : ¬ (k : Int) < (n : Int) := by omega
        clear hq
        have t1 : decide ((6 : Int) < (n : Int)) = false := by rw [decide_eq_false_iff_not]; omega
        by_cases p2 : 30000 < y
        · have t2 : decide ((30000 : Int) < (y : Int)) = true := by rw [decide_eq_true_iff]; omega
          go_wp2_with fail
          go_ret
          exact ⟨true, by first | rfl | (rw [t2]) | (simp; omega), fun h => (by cases h), HB.out⟩
        · have t2 : decide ((30000 : Int) < (y : Int)) = false := by rw [decide_eq_false_iff_not]; omega
          go_wp2_with fail
          go_ret
          exact ⟨false, by first | rfl | (rw [t2]) | (simp; omega), fun _ => HN.out (by omega) (by omega), HB.out⟩
end Go.Proofs.YteebeiaokfenmaaGreat.OP
