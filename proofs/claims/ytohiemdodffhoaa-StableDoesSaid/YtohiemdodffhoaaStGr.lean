/-
  What the document's own Great of layer 11 answers (towncrierref11.Great): where it is false, there is little. Conditions: texts' lengths are ones that Go has.
-/
import Derived.Test.YtohiemdodffhoaaStOwn
import Derived.Test.YtohiemdodffhoaaFrameT
import Derived.Lib.MinMax
namespace Go.Proofs.Ytohiemdodffhoaa.SP
open Go.RowKit
open SM (Sn Sb Vo)
set_option linter.unusedVariables false
set_option linter.unusedSimpArgs false
set_option maxRecDepth 100000

theorem tc_sc (l : List ByteArray) : tc l = sc (l.map RM.bsz) := by
  unfold tc sc
  rw [List.map_map]
  apply List.map_congr_left
  intro v _
  simp only [Function.comp, RM.mk_bsz]
/-- little of it -/
def Few (x : Sb) : Prop := x.logs.length ≤ 10 ∧ x.votes.length ≤ 1000 ∧ ∀ l ∈ x.logs, l.length ≤ 1000
def GrPost (x : Sb) (W : World) (e : Ending) (w' : World) : Prop := ∃ b : Bool, e = .returned (.bool b) ∧ (b = false → Few x) ∧ Below W.heap.size W w'
set_option maxHeartbeats 8000000 in
theorem rgreat11_any (v : Value) (x : Sb) (W : World) (H : StIs W v x) (F : Fit x) :
    Calls Try.prog 19 #[v] W (GrPost x W) := by
  obtain ⟨A, c, B, d, rfl, hL, hV⟩ := H
  obtain ⟨m0, m1, m2⟩ := rows_rd2 hL
  obtain ⟨hR, hVm, hmd, hdm, hFl⟩ := hV
  unfold maxLen at m2 hdm
  have hb0 : Below W.heap.size W (W.alloc (.cells #[.slice A x.logs.length c, .slice B x.votes.length d] 25)) := (Below.refl _ _).alloc (Nat.le_refl _) _
  have HB := Lib.hid hb0
  have X := Lib.hid (Box.new W 25 #[.slice A x.logs.length c, .slice B x.votes.length d])
  have HL := Lib.hid (hL.below hb0)
  have HR := Lib.hid (hR.below hb0)
  have HF := Lib.hid hFl
  have HFit := Lib.hid F
  clear hL hR hFl hb0 m0 hVm F
  go_enter Try.func19, Try.ntmps19
  go_upto_region 1 with (fail)
  generalize W.alloc (.cells #[.slice A x.logs.length c, .slice B x.votes.length d] 25) = w1 at HB X HL HR ⊢
  generalize W.heap.size = g0 at X ⊢
  obtain ⟨x0, x1, _, _⟩ := X.out.two
  go_wp2_with fail
  go_loop [4] (fun i => ∃ k : Nat, k ≤ x.logs.length ∧ k ≤ 20 ∧ i = .int .i64 k ∧ Hid (∀ l ∈ x.logs.take k, l.length ≤ 1000)) (fun i => 20 - (intOf i).toNat)
  case atStart => exact ⟨0, Nat.zero_le _, Nat.zero_le _, rfl, Lib.hid (by simp)⟩
  case round =>
    obtain ⟨k, hk, hk2, rfl, HK⟩ := hrel
    by_cases hlt : k < x.logs.length ∧ k < 20
    · obtain ⟨hl1, hl2⟩ := hlt
      obtain ⟨l, hl⟩ : ∃ l, x.logs[k]? = some l := ⟨_, List.getElem?_eq_getElem hl1⟩
      obtain ⟨ad, C, e, hA, _, q1, q2, q3, q4⟩ := logs_get HL.out hl
      have CG := Lib.hid (tgreat_any C l.length e (l.map RM.bsz) w1 (by rw [← tc_sc]; exact q2) (fun t ht => by
        obtain ⟨v, hv, rfl⟩ := List.mem_map.1 ht
        have := HFit.out.1 l (List.mem_of_getElem? hl) v hv
        unfold maxLen at this
        rw [RM.bsz_len]; omega) (by unfold maxLen at q4; omega))
      have hk0 : (0 : Int) ≤ (k : Int) := by omega
      have hkn : (k : Int) < (x.logs.length : Int) := by omega
      have HLL := Lib.hid hl
      subst hA
      clear q2 hl
      go_wp2_with fail
      refine (CG.out).mono ?_
      rintro e1 w2 ⟨b, rfl, rfl, hbf⟩
      cases b
      · have HBF := Lib.hid (hbf rfl)
        clear hbf
        go_wp2_with fail
        go_round
        case rel => exact ⟨k + 1, by omega, by omega, by go_num, Lib.hid (fun u hu => by
            rw [List.take_add_one, HLL.out] at hu
            rcases List.mem_append.1 hu with hu | hu
            · exact HK.out u hu
            · simp at hu; subst hu; exact HBF.out)⟩
        case measure => simp [intOf]; omega
      · clear hbf
        go_wp2_with fail
        go_ret
        exact ⟨true, rfl, fun h => (by cases h), HB.out⟩
    · have HK2 := Lib.hid (show x.logs.length ≤ 10 → ∀ l ∈ x.logs, l.length ≤ 1000 from fun h => by
        have := HK.out
        rwa [List.take_of_length_le (by omega)] at this)
      clear HK
      rcases (show ¬ k < x.logs.length ∨ (k < x.logs.length ∧ ¬ k < 20) by omega) with hn | ⟨hn, hn2⟩
      · go_wp2_with fail
        go_loop [3, 5] (fun s i => ∃ j m : Nat, j ≤ x.votes.length ∧ j ≤ 2000 ∧ m ≤ 100000 * j ∧ i = .int .i64 j ∧ s = .int .i64 m) (fun _ i => 2000 - (intOf i).toNat)
        case atStart => exact ⟨0, 0, by omega, by omega, by omega, rfl, rfl⟩
        case round =>
          obtain ⟨j, m, hj, hj2, hmj, rfl, rfl⟩ := hrel
          by_cases hlt3 : j < x.votes.length ∧ j < 2000
          · obtain ⟨hj3, hj4⟩ := hlt3
            obtain ⟨bl, oo, hB⟩ := HF.out (by omega)
            obtain ⟨v, hv⟩ : ∃ v, x.votes[j]? = some v := ⟨_, List.getElem?_eq_getElem hj3⟩
            have hts := (HFit.out.2 v (List.mem_of_getElem? hv)).2.2.2.2
            unfold maxLen at hts
            subst hB
            obtain ⟨_, _, _, _, a4⟩ := rdg_sn HR.out hv
            have hk0 : (0 : Int) ≤ (j : Int) := by omega
            have hkn : (j : Int) < (x.votes.length : Int) := by omega
            clear hv
            go_wp2_with fail
            go_round
            case rel => exact ⟨j + 1, m + min v.o.v.size 100000, by omega, by omega, by omega, by go_num, by congr 1; omega⟩
            case measure => simp [intOf]; omega
          · rcases (show ¬ j < x.votes.length ∨ (j < x.votes.length ∧ ¬ j < 2000) by omega) with q1 | ⟨q1, q2⟩
            · clear hlt3
              by_cases p1 : 10 < x.logs.length
              · go_wp2_with fail
                go_ret
                exact ⟨true, by first | rfl | simp, fun h => (by cases h), HB.out⟩
              have HLO := Lib.hid (HK2.out (by omega))
              by_cases p2 : 1000 < x.votes.length
              · go_wp2_with fail
                go_ret
                exact ⟨true, by first | rfl | simp, fun h => (by cases h), HB.out⟩
              by_cases p3 : m ≤ 100000
              · go_wp2_with fail
                go_ret
                exact ⟨_, rfl, fun h => ⟨by omega, by omega, HLO.out⟩, HB.out⟩
              · go_wp2_with fail
                go_ret
                exact ⟨_, rfl, fun h => ⟨by omega, by omega, HLO.out⟩, HB.out⟩
            · clear hlt3
              by_cases p1 : 10 < x.logs.length
              · go_wp2_with fail
                go_ret
                exact ⟨true, by first | rfl | simp, fun h => (by cases h), HB.out⟩
              · have p2 : 1000 < x.votes.length := by omega
                go_wp2_with fail
                go_ret
                exact ⟨true, by first | rfl | simp, fun h => (by cases h), HB.out⟩
      · go_wp2_with fail
        go_loop [3, 5] (fun s i => ∃ j m : Nat, j ≤ x.votes.length ∧ j ≤ 2000 ∧ m ≤ 100000 * j ∧ i = .int .i64 j ∧ s = .int .i64 m) (fun _ i => 2000 - (intOf i).toNat)
        case atStart => exact ⟨0, 0, by omega, by omega, by omega, rfl, rfl⟩
        case round =>
          obtain ⟨j, m, hj, hj2, hmj, rfl, rfl⟩ := hrel
          by_cases hlt3 : j < x.votes.length ∧ j < 2000
          · obtain ⟨hj3, hj4⟩ := hlt3
            obtain ⟨bl, oo, hB⟩ := HF.out (by omega)
            obtain ⟨v, hv⟩ : ∃ v, x.votes[j]? = some v := ⟨_, List.getElem?_eq_getElem hj3⟩
            have hts := (HFit.out.2 v (List.mem_of_getElem? hv)).2.2.2.2
            unfold maxLen at hts
            subst hB
            obtain ⟨_, _, _, _, a4⟩ := rdg_sn HR.out hv
            have hk0 : (0 : Int) ≤ (j : Int) := by omega
            have hkn : (j : Int) < (x.votes.length : Int) := by omega
            clear hv
            go_wp2_with fail
            go_round
            case rel => exact ⟨j + 1, m + min v.o.v.size 100000, by omega, by omega, by omega, by go_num, by congr 1; omega⟩
            case measure => simp [intOf]; omega
          · have p1 : 10 < x.logs.length := by omega
            rcases (show ¬ j < x.votes.length ∨ (j < x.votes.length ∧ ¬ j < 2000) by omega) with q1 | ⟨q1, q2⟩
            · clear hlt3
              go_wp2_with fail
              go_ret
              exact ⟨true, by first | rfl | simp, fun h => (by cases h), HB.out⟩
            · clear hlt3
              go_wp2_with fail
              go_ret
              exact ⟨true, by first | rfl | simp, fun h => (by cases h), HB.out⟩
end Go.Proofs.Ytohiemdodffhoaa.SP
