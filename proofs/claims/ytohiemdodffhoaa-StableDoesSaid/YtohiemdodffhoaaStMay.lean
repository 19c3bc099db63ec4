/-
  What the document's own May of layer 11 answers (towncrierref11.May), of anything. Conditions: texts' lengths are ones that Go has.
-/
import Derived.Test.YtohiemdodffhoaaStOwn
import Derived.Test.YtohiemdodffhoaaStA
import Derived.Test.YtohiemdodffhoaaStGoes
import Derived.Test.YtohiemdodffhoaaVoteR
import Derived.Deep.RegionHeld3
import Derived.Test.YtohiemdodffhoaaQq
namespace Go.Proofs.Ytohiemdodffhoaa.SP
open Go.RowKit
open SM (Sn Sb Vo)
set_option linter.unusedVariables false
set_option linter.unusedSimpArgs false
set_option maxRecDepth 100000

theorem vmay_true {p b : Int} {s : ByteArray} (w : World) (hs : s.size ≤ maxLen) (h : VM.may p b s) :
    Calls Try.prog 53 #[.agg #[.int .i64 p, .int .i64 b, .string s]] w fun e w' => e = .returned (.bool true) ∧ Below w.heap.size w w' := by
  refine (VP.rVMay_any p b s w hs).mono ?_
  rintro e w' ⟨x, hx, rfl, hb⟩
  rw [hx.2 h]
  exact ⟨rfl, hb⟩
theorem vmay_false {p b : Int} {s : ByteArray} (w : World) (hs : s.size ≤ maxLen) (h : ¬ VM.may p b s) :
    Calls Try.prog 53 #[.agg #[.int .i64 p, .int .i64 b, .string s]] w fun e w' => e = .returned (.bool false) ∧ Below w.heap.size w w' := by
  refine (VP.rVMay_any p b s w hs).mono ?_
  rintro e w' ⟨x, hx, rfl, hb⟩
  cases x
  · exact ⟨rfl, hb⟩
  · exact absurd (hx.1 rfl) h
theorem may_no {x : Sb} {v : Sn} (h : v ∈ x.votes) (hn : ¬ SM.snOk x.logs v) : decide (SM.may x) = false := by
  rw [decide_eq_false_iff_not]
  exact fun k => hn (k.2.2.1 v h)
theorem llen_nat {ls : List (List ByteArray)} {g : Nat} {l : List ByteArray} (h : ls[g]? = some l) : SM.llen ls g = l.length := by unfold SM.llen; simp [h]
set_option maxHeartbeats 16000000 in
theorem rmay11_any (v : Value) (x : Sb) (W : World) (H : StIs W v x) (F : Fit x) :
    Calls Try.prog 27 #[v] W fun e w' => e = .returned (.bool (decide (SM.may x))) ∧ Below W.heap.size W w' := by
  obtain ⟨A, c, B, d, rfl, hL, hV⟩ := H
  obtain ⟨m0, m1, m2⟩ := rows_rd2 hL
  obtain ⟨hR, hVm, hmd, hdm, hFl⟩ := hV
  unfold maxLen at m2 hdm
  obtain ⟨r, hr⟩ : ∃ r, r = decide (SM.may x) := ⟨_, rfl⟩
  rw [← hr]
  obtain ⟨ls, vs⟩ := x
  simp only at hL hR hVm hmd hFl m1 hr
  have hb0 : Below W.heap.size W (W.alloc (.cells #[.slice A ls.length c, .slice B vs.length d] 25)) := (Below.refl _ _).alloc (Nat.le_refl _) _
  have HB := Lib.hid hb0
  have X := Lib.hid (Box.new W 25 #[.slice A ls.length c, .slice B vs.length d])
  have HL := Lib.hid (hL.below hb0)
  have HR := Lib.hid (hR.below hb0)
  have HF := Lib.hid hFl
  have HFit := Lib.hid F
  have HM := Lib.hid hr
  clear hL hR hFl hr hb0 m0 hVm F
  go_enter Try.func27, Try.ntmps27
  go_upto_region 1 with (fail)
  generalize W.alloc (.cells #[.slice A ls.length c, .slice B vs.length d] 25) = w1 at HB X HL HR ⊢
  generalize W.heap.size = g0 at X ⊢
  obtain ⟨x0, x1, _, _⟩ := X.out.two
  by_cases n1 : ls.length < 1
  · obtain rfl : r = false := by rw [HM.out, decide_eq_false_iff_not]; intro h; have := h.1.1; simp only at this; omega
    go_wp2_with fail
    go_ret
    exact ⟨rfl, HB.out⟩
  by_cases n2 : 4 < ls.length
  · obtain rfl : r = false := by rw [HM.out, decide_eq_false_iff_not]; intro h; have := h.1.2; simp only at this; omega
    go_wp2_with fail
    go_ret
    exact ⟨rfl, HB.out⟩
  go_wp2_with fail
  clear x0 x1
  go_loop [3] (fun i => ∃ k : Nat, k ≤ ls.length ∧ i = .int .i64 k ∧ Hid (∀ l ∈ ls.take k, SM.logOk l)) (fun i => ls.length - (intOf i).toNat)
  case atStart => exact ⟨0, Nat.zero_le _, rfl, Lib.hid (by simp)⟩
  case round =>
    obtain ⟨k, hk, rfl, HK⟩ := hrel
    obtain ⟨x0, x1, _, _⟩ := X.out.two
    by_cases hlt : k < ls.length
    · obtain ⟨l, hl⟩ : ∃ l, ls[k]? = some l := ⟨_, List.getElem?_eq_getElem hlt⟩
      obtain ⟨ad, C, e, rfl, _, q1, q2, q3, q4⟩ := logs_get HL.out hl
      have CM := Lib.hid (rmaylog_any C l.length e l w1 q2 (HFit.out.1 l (List.mem_of_getElem? hl)) (by omega))
      have hk0 : (0 : Int) ≤ (k : Int) := by omega
      have hkn : (k : Int) < (ls.length : Int) := by omega
      have HLL := Lib.hid hl
      clear q2 hl
      by_cases ho : SM.logOk l
      · rw [decide_eq_true ho] at CM
        have HO := Lib.hid ho
        clear ho
        go_wp2_with fail
        refine (CM.out).mono ?_
        rintro e1 w2 ⟨rfl, rfl⟩
        go_wp2_with fail
        go_round
        case rel => exact ⟨k + 1, by omega, by go_num, Lib.hid (fun u hu => by
            rw [List.take_add_one, HLL.out] at hu
            rcases List.mem_append.1 hu with hu | hu
            · exact HK.out u hu
            · simp at hu; subst hu; exact HO.out)⟩
        case measure => simp [intOf]; omega
      · rw [decide_eq_false ho] at CM
        obtain rfl : r = false := by rw [HM.out, decide_eq_false_iff_not]; intro h; exact ho (h.2.1 l (List.mem_of_getElem? HLL.out))
        clear ho
        go_wp2_with fail
        refine (CM.out).mono ?_
        rintro e1 w2 ⟨rfl, rfl⟩
        go_wp2_with fail
        go_ret
        exact ⟨rfl, HB.out⟩
    · have HK2 := Lib.hid (show ∀ l ∈ ls, SM.logOk l by have := HK.out; rwa [List.take_of_length_le (by omega)] at this)
      obtain rfl : ls.length = k := by omega
      clear HK
      go_wp2_with fail
      clear x0 x1
      go_loopw [4] (fun i wr => ∃ k : Nat, k ≤ vs.length ∧ i = .int .i64 k ∧ Hid (Below w1.heap.size w1 wr) ∧ Hid ((∀ v ∈ vs.take k, SM.snOk ls v) ∧ SM.rise (vs.take k) = true)) (fun i _ => vs.length - (intOf i).toNat)
      case atStart => exact ⟨0, Nat.zero_le _, rfl, Lib.hid (Below.refl _ _), Lib.hid ⟨by simp, rfl⟩⟩
      case round =>
        obtain ⟨k, hk, rfl, HW, HK⟩ := hrel
        have X2 := Lib.hid (X.out.below HW.out X.out.lt)
        obtain ⟨x0, x1, _, _⟩ := X2.out.two
        by_cases hlt2 : k < vs.length
        · obtain ⟨bl, oo, rfl⟩ := HF.out (by omega)
          obtain ⟨v, hv⟩ : ∃ v, vs[k]? = some v := ⟨_, List.getElem?_eq_getElem hlt2⟩
          have hfit := HFit.out.2 v (List.mem_of_getElem? hv)
          have hrr := HR.out.below HW.out
          obtain ⟨a0, a1, a2, a3, a4⟩ := rdg_sn hrr hv
          have HV := Lib.hid hv
          obtain ⟨g, s, p, b, t⟩ := v
          obtain ⟨_, _, _, _, hts⟩ := hfit
          simp only at a0 a1 a2 a3 a4 hts
          have HT := Lib.hid hts
          have hk0 : (0 : Int) ≤ (k : Int) := by omega
          have hkn : (k : Int) < (vs.length : Int) := by omega
          have HRR := Lib.hid hrr
          clear hts hv hrr
          go_upto_region 12 with (fail)
          clear x0 x1 a0 a1 a2 a3 a4
          have hba : Below wr.heap.size wr (wr.alloc (.cells #[.int .i64 g, .int .i64 s, .int .i64 p, .int .i64 b, .string t] 75)) := (Below.refl _ _).alloc (Nat.le_refl _) _
          have Y := Lib.hid (Box.new wr 75 #[.int .i64 g, .int .i64 s, .int .i64 p, .int .i64 b, .string t])
          have X3 := Lib.hid (X2.out.below hba X2.out.lt)
          have HW3 := Lib.hid (bmore HW.out hba (Nat.le_refl _))
          have HRR3 := Lib.hid (HRR.out.below hba)
          have HL3 := Lib.hid (HL.out.below HW3.out)
          clear hba HW X2 HRR
          generalize wr.alloc (.cells #[.int .i64 g, .int .i64 s, .int .i64 p, .int .i64 b, .string t] 75) = w3 at Y X3 HW3 HRR3 HL3 ⊢
          generalize wr.heap.size = h at Y ⊢
          have bb1 : Below w3.heap.size w3 w3.drew := (Below.refl _ _).drew
          by_cases c1 : g < 0
          · obtain rfl : r = false := by rw [HM.out]; exact may_no (x := ⟨ls, vs⟩) (List.mem_of_getElem? HV.out) (fun hh => by have := hh.1; simp only at this; omega)
            have HSS := Lib.hid (show ∀ w', Below w3.heap.size w3 w' → (w'.cell? ⟨g0, 0, none⟩ = some (.slice A ls.length c) ∧ w'.cell? ⟨g0, 1, none⟩ = some (.slice (some ⟨bl, oo, none⟩) vs.length d)) ∧ (w'.cell? ⟨h, 0, none⟩ = some (.int .i64 g) ∧ w'.cell? ⟨h, 1, none⟩ = some (.int .i64 s) ∧ w'.cell? ⟨h, 2, none⟩ = some (.int .i64 p) ∧ w'.cell? ⟨h, 3, none⟩ = some (.int .i64 b) ∧ w'.cell? ⟨h, 4, none⟩ = some (.string t)) from fun w' hq => ⟨⟨(X3.out.below hq X3.out.lt).cell 0, (X3.out.below hq X3.out.lt).cell 1⟩, ⟨(Y.out.below hq Y.out.lt).cell 0, (Y.out.below hq Y.out.lt).cell 1, (Y.out.below hq Y.out.lt).cell 2, (Y.out.below hq Y.out.lt).cell 3, (Y.out.below hq Y.out.lt).cell 4⟩⟩)
            obtain ⟨⟨_, _⟩, ⟨_, _, _, _, _⟩⟩ := HSS.out w3 (Below.refl _ _)
            clear X3 Y HRR3
            go_quiet (fail)
            all_goals
              go_wp2_with fail
              go_ret
              exact ⟨rfl, HB.out.trans (below_drewN HW3.out _ |>.mono HB.out.size)⟩
          by_cases c2 : (ls.length : Int) ≤ g
          · obtain rfl : r = false := by rw [HM.out]; exact may_no (x := ⟨ls, vs⟩) (List.mem_of_getElem? HV.out) (fun hh => by have := hh.2.1; simp only at this; omega)
            have HSS := Lib.hid (show ∀ w', Below w3.heap.size w3 w' → (w'.cell? ⟨g0, 0, none⟩ = some (.slice A ls.length c) ∧ w'.cell? ⟨g0, 1, none⟩ = some (.slice (some ⟨bl, oo, none⟩) vs.length d)) ∧ (w'.cell? ⟨h, 0, none⟩ = some (.int .i64 g) ∧ w'.cell? ⟨h, 1, none⟩ = some (.int .i64 s) ∧ w'.cell? ⟨h, 2, none⟩ = some (.int .i64 p) ∧ w'.cell? ⟨h, 3, none⟩ = some (.int .i64 b) ∧ w'.cell? ⟨h, 4, none⟩ = some (.string t)) from fun w' hq => ⟨⟨(X3.out.below hq X3.out.lt).cell 0, (X3.out.below hq X3.out.lt).cell 1⟩, ⟨(Y.out.below hq Y.out.lt).cell 0, (Y.out.below hq Y.out.lt).cell 1, (Y.out.below hq Y.out.lt).cell 2, (Y.out.below hq Y.out.lt).cell 3, (Y.out.below hq Y.out.lt).cell 4⟩⟩)
            obtain ⟨⟨_, _⟩, ⟨_, _, _, _, _⟩⟩ := HSS.out w3 (Below.refl _ _)
            clear X3 Y HRR3
            go_quiet (fail)
            all_goals
              go_wp2_with fail
              go_ret
              exact ⟨rfl, HB.out.trans (below_drewN HW3.out _ |>.mono HB.out.size)⟩
          obtain ⟨gi, rfl⟩ : ∃ gi : Nat, g = gi := ⟨g.toNat, by omega⟩
          by_cases c3 : 200 < s
          · obtain rfl : r = false := by rw [HM.out]; exact may_no (x := ⟨ls, vs⟩) (List.mem_of_getElem? HV.out) (fun hh => by have := hh.2.2.1; simp only at this; omega)
            have HSS := Lib.hid (show ∀ w', Below w3.heap.size w3 w' → (w'.cell? ⟨g0, 0, none⟩ = some (.slice A ls.length c) ∧ w'.cell? ⟨g0, 1, none⟩ = some (.slice (some ⟨bl, oo, none⟩) vs.length d)) ∧ (w'.cell? ⟨h, 0, none⟩ = some (.int .i64 (gi : Int)) ∧ w'.cell? ⟨h, 1, none⟩ = some (.int .i64 s) ∧ w'.cell? ⟨h, 2, none⟩ = some (.int .i64 p) ∧ w'.cell? ⟨h, 3, none⟩ = some (.int .i64 b) ∧ w'.cell? ⟨h, 4, none⟩ = some (.string t)) from fun w' hq => ⟨⟨(X3.out.below hq X3.out.lt).cell 0, (X3.out.below hq X3.out.lt).cell 1⟩, ⟨(Y.out.below hq Y.out.lt).cell 0, (Y.out.below hq Y.out.lt).cell 1, (Y.out.below hq Y.out.lt).cell 2, (Y.out.below hq Y.out.lt).cell 3, (Y.out.below hq Y.out.lt).cell 4⟩⟩)
            obtain ⟨⟨_, _⟩, ⟨_, _, _, _, _⟩⟩ := HSS.out w3 (Below.refl _ _)
            clear X3 Y HRR3
            go_quiet (fail)
            all_goals
              go_wp2_with fail
              go_ret
              exact ⟨rfl, HB.out.trans (below_drewN HW3.out _ |>.mono HB.out.size)⟩
          obtain ⟨l, hl⟩ : ∃ l, ls[gi]? = some l := ⟨_, List.getElem?_eq_getElem (by omega)⟩
          obtain ⟨ad, C, e, rfl, _, q1, _, q3, q4⟩ := logs_get HL3.out hl
          have hrb := cell_block q1
          rw [block_of_add] at hrb
          unfold maxLen at q4
          have hln := llen_nat hl
          clear hl
          by_cases c4 : s ≤ l.length
          · obtain rfl : r = false := by rw [HM.out]; exact may_no (x := ⟨ls, vs⟩) (List.mem_of_getElem? HV.out) (fun hh => by have := hh.2.2.2.1; simp only [hln] at this; omega)
            have HSS := Lib.hid (show ∀ w', Below w3.heap.size w3 w' → (w'.cell? ⟨g0, 0, none⟩ = some (.slice (some ad) ls.length c) ∧ w'.cell? ⟨g0, 1, none⟩ = some (.slice (some ⟨bl, oo, none⟩) vs.length d)) ∧ (w'.cell? ⟨h, 0, none⟩ = some (.int .i64 (gi : Int)) ∧ w'.cell? ⟨h, 1, none⟩ = some (.int .i64 s) ∧ w'.cell? ⟨h, 2, none⟩ = some (.int .i64 p) ∧ w'.cell? ⟨h, 3, none⟩ = some (.int .i64 b) ∧ w'.cell? ⟨h, 4, none⟩ = some (.string t)) ∧ w'.cell? (ad.add gi) = some (.slice C l.length e) from fun w' hq => ⟨⟨(X3.out.below hq X3.out.lt).cell 0, (X3.out.below hq X3.out.lt).cell 1⟩, ⟨(Y.out.below hq Y.out.lt).cell 0, (Y.out.below hq Y.out.lt).cell 1, (Y.out.below hq Y.out.lt).cell 2, (Y.out.below hq Y.out.lt).cell 3, (Y.out.below hq Y.out.lt).cell 4⟩, (hq.cell (by rw [block_of_add]; exact hrb)).trans q1⟩)
            obtain ⟨⟨_, _⟩, ⟨_, _, _, _, _⟩, _⟩ := HSS.out w3 (Below.refl _ _)
            clear q1 hrb
            clear X3 Y HRR3
            go_quiet (fail)
            all_goals
              go_wp2_with fail
              go_ret
              exact ⟨rfl, HB.out.trans (below_drewN HW3.out _ |>.mono HB.out.size)⟩
          by_cases c5 : ¬ VM.may p b t
          · obtain rfl : r = false := by rw [HM.out]; exact may_no (x := ⟨ls, vs⟩) (List.mem_of_getElem? HV.out) (fun hh => by exact c5 hh.2.2.2.2.1)
            have HVM := Lib.hid c5
            clear c5 hln
            have HSS := Lib.hid (show ∀ w', Below w3.heap.size w3 w' → (w'.cell? ⟨g0, 0, none⟩ = some (.slice (some ad) ls.length c) ∧ w'.cell? ⟨g0, 1, none⟩ = some (.slice (some ⟨bl, oo, none⟩) vs.length d)) ∧ (w'.cell? ⟨h, 0, none⟩ = some (.int .i64 (gi : Int)) ∧ w'.cell? ⟨h, 1, none⟩ = some (.int .i64 s) ∧ w'.cell? ⟨h, 2, none⟩ = some (.int .i64 p) ∧ w'.cell? ⟨h, 3, none⟩ = some (.int .i64 b) ∧ w'.cell? ⟨h, 4, none⟩ = some (.string t)) ∧ w'.cell? (ad.add gi) = some (.slice C l.length e) from fun w' hq => ⟨⟨(X3.out.below hq X3.out.lt).cell 0, (X3.out.below hq X3.out.lt).cell 1⟩, ⟨(Y.out.below hq Y.out.lt).cell 0, (Y.out.below hq Y.out.lt).cell 1, (Y.out.below hq Y.out.lt).cell 2, (Y.out.below hq Y.out.lt).cell 3, (Y.out.below hq Y.out.lt).cell 4⟩, (hq.cell (by rw [block_of_add]; exact hrb)).trans q1⟩)
            obtain ⟨⟨_, _⟩, ⟨_, _, _, _, _⟩, _⟩ := HSS.out w3 (Below.refl _ _)
            clear q1 hrb
            clear X3 Y HRR3
            as_aux_lemma =>
              obtain ⟨ud, hud⟩ : ∃ ud, ud = w3.drew := ⟨_, rfl⟩
              refine wp_region_held_drew (S := fun w' => (w'.cell? ⟨g0, 0, none⟩ = some (.slice (some ad) ls.length c) ∧ w'.cell? ⟨g0, 1, none⟩ = some (.slice (some ⟨bl, oo, none⟩) vs.length d)) ∧ (w'.cell? ⟨h, 0, none⟩ = some (.int .i64 (gi : Int)) ∧ w'.cell? ⟨h, 1, none⟩ = some (.int .i64 s) ∧ w'.cell? ⟨h, 2, none⟩ = some (.int .i64 p) ∧ w'.cell? ⟨h, 3, none⟩ = some (.int .i64 b) ∧ w'.cell? ⟨h, 4, none⟩ = some (.string t)) ∧ w'.cell? (ad.add gi) = some (.slice C l.length e)) (by kernel_rfl) (HSS.out _ bb1) (fun hHeld => ?_)
              rw [← hud] at bb1 hHeld ⊢
              clear hud
              refine qT 0 ?_; try simp only [Act.put, qq]
              refine qT 1 ?_; try simp only [Act.put, qq]
              refine qT 2 ?_; try simp only [Act.put, qq]
              refine qT 3 ?_; try simp only [Act.put, qq]
              refine qT 4 ?_; try simp only [Act.put, qq]
              refine qT 5 ?_; try simp only [Act.put, qq]
              refine qT 6 ?_; try simp only [Act.put, qq]
              refine qT 7 ?_; try simp only [Act.put, qq]
              refine qT 8 ?_; try simp only [Act.put, qq]
              refine qT 9 ?_; try simp only [Act.put, qq]
              refine qT 10 ?_; try simp only [Act.put, qq]
              refine qT 11 ?_; try simp only [Act.put, qq]
              refine qT 12 ?_; try simp only [Act.put, qq]
              refine qT 13 ?_; try simp only [Act.put, qq]
              refine qT 14 ?_; try simp only [Act.put, qq]
              refine qT 15 ?_; try simp only [Act.put, qq]
              refine qT 16 ?_; try simp only [Act.put, qq]
              refine qT 17 ?_; try simp only [Act.put, qq]
              refine qT 18 ?_; try simp only [Act.put, qq]
              refine qT 19 ?_; try simp only [Act.put, qq]
              refine qT 20 ?_; try simp only [Act.put, qq]
              refine qT 21 ?_; try simp only [Act.put, qq]
              refine qT 22 ?_; try simp only [Act.put, qq]
              refine qT 23 ?_; try simp only [Act.put, qq]
              refine qT 24 ?_; try simp only [Act.put, qq]
              refine qT 25 ?_; try simp only [Act.put, qq]
              refine qT 26 ?_; try simp only [Act.put, qq]
              refine qT 27 ?_; try simp only [Act.put, qq]
              refine qT 28 ?_; try simp only [Act.put, qq]
              refine qT 29 ?_; try simp only [Act.put, qq]
              refine qT 30 ?_; try simp only [Act.put, qq]
              refine wpAnyH_ready (rs := [31]) (by kernel_rfl) (by simp) ?_
              refine AllReadyH.cons rfl (fun K hK => ?_) AllReadyH.nil
              go_simp
              refine (vmay_false _ HT.out HVM.out).mono ?_
              rintro e1 wa1 ⟨rfl, ha1⟩
              have bb2 : Below w3.heap.size w3 wa1 := bb1.trans (ha1.mono bb1.size)
              clear ha1
              refine hK.out _ _ (HSS.out _ bb2) (fun hHeld => ?_)
              clear hK
              try simp only [Act.put, qq]
              refine qT 32 ?_; try simp only [Act.put, qq]
              refine qT 33 ?_; try simp only [Act.put, qq]
              refine qT 34 ?_; try simp only [Act.put, qq]
              refine qS 35 ?_; try simp only [Act.put, qq]
              refine qS 36 ?_; try simp only [Act.put, qq]
              refine qS 37 ?_; try simp only [Act.put, qq]
              refine qS 38 ?_; try simp only [Act.put, qq]
              refine qT 39 ?_; try simp only [Act.put, qq]
              refine qT 40 ?_; try simp only [Act.put, qq]
              refine qS 41 ?_; try simp only [Act.put, qq]
              refine qS 42 ?_; try simp only [Act.put, qq]
              refine qS 43 ?_; try simp only [Act.put, qq]
              refine qS 44 ?_; try simp only [Act.put, qq]
              refine qS 45 ?_; try simp only [Act.put, qq]
              refine qS 46 ?_; try simp only [Act.put, qq]
              refine qS 47 ?_; try simp only [Act.put, qq]
              refine qS 48 ?_; try simp only [Act.put, qq]
              refine qS 49 ?_; try simp only [Act.put, qq]
              refine qS 50 ?_; try simp only [Act.put, qq]
              refine qS 51 ?_; try simp only [Act.put, qq]
              refine qS 52 ?_; try simp only [Act.put, qq]
              refine qS 53 ?_; try simp only [Act.put, qq]
              refine qT 54 ?_; try simp only [Act.put, qq]
              refine wpAnyH_done (by kernel_rfl) ?_ _
              clear hHeld HSS
              all_goals
                go_wp2_with fail
                go_ret
                exact ⟨rfl, HB.out.trans (HW3.out.trans (bb2.mono HW3.out.size) |>.mono HB.out.size)⟩
          have HVM := Lib.hid (Classical.not_not.1 c5)
          clear c5
          by_cases c6 : p = 0
          · obtain rfl : r = false := by rw [HM.out]; exact may_no (x := ⟨ls, vs⟩) (List.mem_of_getElem? HV.out) (fun hh => by exact hh.2.2.2.2.2 c6)
            have e6 : (p == 0) = true := by simpa using c6
            clear c6 hln
            have HSS := Lib.hid (show ∀ w', Below w3.heap.size w3 w' → (w'.cell? ⟨g0, 0, none⟩ = some (.slice (some ad) ls.length c) ∧ w'.cell? ⟨g0, 1, none⟩ = some (.slice (some ⟨bl, oo, none⟩) vs.length d)) ∧ (w'.cell? ⟨h, 0, none⟩ = some (.int .i64 (gi : Int)) ∧ w'.cell? ⟨h, 1, none⟩ = some (.int .i64 s) ∧ w'.cell? ⟨h, 2, none⟩ = some (.int .i64 p) ∧ w'.cell? ⟨h, 3, none⟩ = some (.int .i64 b) ∧ w'.cell? ⟨h, 4, none⟩ = some (.string t)) ∧ w'.cell? (ad.add gi) = some (.slice C l.length e) from fun w' hq => ⟨⟨(X3.out.below hq X3.out.lt).cell 0, (X3.out.below hq X3.out.lt).cell 1⟩, ⟨(Y.out.below hq Y.out.lt).cell 0, (Y.out.below hq Y.out.lt).cell 1, (Y.out.below hq Y.out.lt).cell 2, (Y.out.below hq Y.out.lt).cell 3, (Y.out.below hq Y.out.lt).cell 4⟩, (hq.cell (by rw [block_of_add]; exact hrb)).trans q1⟩)
            obtain ⟨⟨_, _⟩, ⟨_, _, _, _, _⟩, _⟩ := HSS.out w3 (Below.refl _ _)
            clear q1 hrb
            clear X3 Y HRR3
            as_aux_lemma =>
              obtain ⟨ud, hud⟩ : ∃ ud, ud = w3.drew := ⟨_, rfl⟩
              refine wp_region_held_drew (S := fun w' => (w'.cell? ⟨g0, 0, none⟩ = some (.slice (some ad) ls.length c) ∧ w'.cell? ⟨g0, 1, none⟩ = some (.slice (some ⟨bl, oo, none⟩) vs.length d)) ∧ (w'.cell? ⟨h, 0, none⟩ = some (.int .i64 (gi : Int)) ∧ w'.cell? ⟨h, 1, none⟩ = some (.int .i64 s) ∧ w'.cell? ⟨h, 2, none⟩ = some (.int .i64 p) ∧ w'.cell? ⟨h, 3, none⟩ = some (.int .i64 b) ∧ w'.cell? ⟨h, 4, none⟩ = some (.string t)) ∧ w'.cell? (ad.add gi) = some (.slice C l.length e)) (by kernel_rfl) (HSS.out _ bb1) (fun hHeld => ?_)
              rw [← hud] at bb1 hHeld ⊢
              clear hud
              refine qT 0 ?_; try simp only [Act.put, qq]
              refine qT 1 ?_; try simp only [Act.put, qq]
              refine qT 2 ?_; try simp only [Act.put, qq]
              refine qT 3 ?_; try simp only [Act.put, qq]
              refine qT 4 ?_; try simp only [Act.put, qq]
              refine qT 5 ?_; try simp only [Act.put, qq]
              refine qT 6 ?_; try simp only [Act.put, qq]
              refine qT 7 ?_; try simp only [Act.put, qq]
              refine qT 8 ?_; try simp only [Act.put, qq]
              refine qT 9 ?_; try simp only [Act.put, qq]
              refine qT 10 ?_; try simp only [Act.put, qq]
              refine qT 11 ?_; try simp only [Act.put, qq]
              refine qT 12 ?_; try simp only [Act.put, qq]
              refine qT 13 ?_; try simp only [Act.put, qq]
              refine qT 14 ?_; try simp only [Act.put, qq]
              refine qT 15 ?_; try simp only [Act.put, qq]
              refine qT 16 ?_; try simp only [Act.put, qq]
              refine qT 17 ?_; try simp only [Act.put, qq]
              refine qT 18 ?_; try simp only [Act.put, qq]
              refine qT 19 ?_; try simp only [Act.put, qq]
              refine qT 20 ?_; try simp only [Act.put, qq]
              refine qT 21 ?_; try simp only [Act.put, qq]
              refine qT 22 ?_; try simp only [Act.put, qq]
              refine qT 23 ?_; try simp only [Act.put, qq]
              refine qT 24 ?_; try simp only [Act.put, qq]
              refine qT 25 ?_; try simp only [Act.put, qq]
              refine qT 26 ?_; try simp only [Act.put, qq]
              refine qT 27 ?_; try simp only [Act.put, qq]
              refine qT 28 ?_; try simp only [Act.put, qq]
              refine qT 29 ?_; try simp only [Act.put, qq]
              refine qT 30 ?_; try simp only [Act.put, qq]
              refine wpAnyH_ready (rs := [31]) (by kernel_rfl) (by simp) ?_
              refine AllReadyH.cons rfl (fun K hK => ?_) AllReadyH.nil
              go_simp
              refine (vmay_true _ HT.out HVM.out).mono ?_
              rintro e1 wa1 ⟨rfl, ha1⟩
              have bb2 : Below w3.heap.size w3 wa1 := bb1.trans (ha1.mono bb1.size)
              clear ha1
              refine hK.out _ _ (HSS.out _ bb2) (fun hHeld => ?_)
              clear hK
              try simp only [Act.put, qq]
              refine qT 32 ?_; try simp only [Act.put, qq]
              refine qT 33 ?_; try simp only [Act.put, qq]
              refine qT 34 ?_; try simp only [Act.put, qq]
              refine qT 35 ?_; try simp only [Act.put, qq]
              refine qT 36 ?_; try simp only [Act.put, qq]
              refine qT 37 ?_; try simp only [Act.put, qq]
              refine qT 38 ?_; try simp only [Act.put, qq]
              refine qT 39 ?_; try simp only [Act.put, qq]
              refine qT 40 ?_; try simp only [Act.put, qq]
              refine qS 41 ?_; try simp only [Act.put, qq]
              refine qS 42 ?_; try simp only [Act.put, qq]
              refine qS 43 ?_; try simp only [Act.put, qq]
              refine qS 44 ?_; try simp only [Act.put, qq]
              refine qS 45 ?_; try simp only [Act.put, qq]
              refine qS 46 ?_; try simp only [Act.put, qq]
              refine qS 47 ?_; try simp only [Act.put, qq]
              refine qS 48 ?_; try simp only [Act.put, qq]
              refine qS 49 ?_; try simp only [Act.put, qq]
              refine qS 50 ?_; try simp only [Act.put, qq]
              refine qS 51 ?_; try simp only [Act.put, qq]
              refine qS 52 ?_; try simp only [Act.put, qq]
              refine qS 53 ?_; try simp only [Act.put, qq]
              refine qT 54 ?_; try simp only [Act.put, qq]
              refine wpAnyH_done (by kernel_rfl) ?_ _
              clear hHeld HSS
              all_goals
                go_wp2_with fail
                go_ret
                exact ⟨rfl, HB.out.trans (HW3.out.trans (bb2.mono HW3.out.size) |>.mono HB.out.size)⟩
          have e6 : (p == 0) = false := by simpa using c6
          have HSN := Lib.hid (show SM.snOk ls ⟨gi, s, ⟨p, b, t⟩⟩ from ⟨by simp only; omega, by simp only; omega, by simp only; omega, by simp only [hln]; omega, HVM.out, c6⟩)
          clear c6 hln
          rcases k with _ | j
          · have HN := Lib.hid (show (∀ v ∈ vs.take (0 + 1), SM.snOk ls v) ∧ SM.rise (vs.take (0 + 1)) = true by
              rw [List.take_add_one, HV.out]
              simp only [List.take_zero, List.nil_append]
              exact ⟨fun u hu => (by simp at hu; subst hu; exact HSN.out), rfl⟩)
            have hz0 : decide ((0 : Int) < 0) = false := by decide
            have HSS := Lib.hid (show ∀ w', Below w3.heap.size w3 w' → (w'.cell? ⟨g0, 0, none⟩ = some (.slice (some ad) ls.length c) ∧ w'.cell? ⟨g0, 1, none⟩ = some (.slice (some ⟨bl, oo, none⟩) vs.length d)) ∧ (w'.cell? ⟨h, 0, none⟩ = some (.int .i64 (gi : Int)) ∧ w'.cell? ⟨h, 1, none⟩ = some (.int .i64 s) ∧ w'.cell? ⟨h, 2, none⟩ = some (.int .i64 p) ∧ w'.cell? ⟨h, 3, none⟩ = some (.int .i64 b) ∧ w'.cell? ⟨h, 4, none⟩ = some (.string t)) ∧ w'.cell? (ad.add gi) = some (.slice C l.length e) from fun w' hq => ⟨⟨(X3.out.below hq X3.out.lt).cell 0, (X3.out.below hq X3.out.lt).cell 1⟩, ⟨(Y.out.below hq Y.out.lt).cell 0, (Y.out.below hq Y.out.lt).cell 1, (Y.out.below hq Y.out.lt).cell 2, (Y.out.below hq Y.out.lt).cell 3, (Y.out.below hq Y.out.lt).cell 4⟩, (hq.cell (by rw [block_of_add]; exact hrb)).trans q1⟩)
            obtain ⟨⟨_, _⟩, ⟨_, _, _, _, _⟩, _⟩ := HSS.out w3 (Below.refl _ _)
            clear q1 hrb
            clear X3 Y HRR3
            as_aux_lemma =>
              obtain ⟨ud, hud⟩ : ∃ ud, ud = w3.drew := ⟨_, rfl⟩
              refine wp_region_held_drew (S := fun w' => (w'.cell? ⟨g0, 0, none⟩ = some (.slice (some ad) ls.length c) ∧ w'.cell? ⟨g0, 1, none⟩ = some (.slice (some ⟨bl, oo, none⟩) vs.length d)) ∧ (w'.cell? ⟨h, 0, none⟩ = some (.int .i64 (gi : Int)) ∧ w'.cell? ⟨h, 1, none⟩ = some (.int .i64 s) ∧ w'.cell? ⟨h, 2, none⟩ = some (.int .i64 p) ∧ w'.cell? ⟨h, 3, none⟩ = some (.int .i64 b) ∧ w'.cell? ⟨h, 4, none⟩ = some (.string t)) ∧ w'.cell? (ad.add gi) = some (.slice C l.length e)) (by kernel_rfl) (HSS.out _ bb1) (fun hHeld => ?_)
              rw [← hud] at bb1 hHeld ⊢
              clear hud
              refine qT 0 ?_; try simp only [Act.put, qq]
              refine qT 1 ?_; try simp only [Act.put, qq]
              refine qT 2 ?_; try simp only [Act.put, qq]
              refine qT 3 ?_; try simp only [Act.put, qq]
              refine qT 4 ?_; try simp only [Act.put, qq]
              refine qT 5 ?_; try simp only [Act.put, qq]
              refine qT 6 ?_; try simp only [Act.put, qq]
              refine qT 7 ?_; try simp only [Act.put, qq]
              refine qT 8 ?_; try simp only [Act.put, qq]
              refine qT 9 ?_; try simp only [Act.put, qq]
              refine qT 10 ?_; try simp only [Act.put, qq]
              refine qT 11 ?_; try simp only [Act.put, qq]
              refine qT 12 ?_; try simp only [Act.put, qq]
              refine qT 13 ?_; try simp only [Act.put, qq]
              refine qT 14 ?_; try simp only [Act.put, qq]
              refine qT 15 ?_; try simp only [Act.put, qq]
              refine qT 16 ?_; try simp only [Act.put, qq]
              refine qT 17 ?_; try simp only [Act.put, qq]
              refine qT 18 ?_; try simp only [Act.put, qq]
              refine qT 19 ?_; try simp only [Act.put, qq]
              refine qT 20 ?_; try simp only [Act.put, qq]
              refine qT 21 ?_; try simp only [Act.put, qq]
              refine qT 22 ?_; try simp only [Act.put, qq]
              refine qT 23 ?_; try simp only [Act.put, qq]
              refine qT 24 ?_; try simp only [Act.put, qq]
              refine qT 25 ?_; try simp only [Act.put, qq]
              refine qT 26 ?_; try simp only [Act.put, qq]
              refine qT 27 ?_; try simp only [Act.put, qq]
              refine qT 28 ?_; try simp only [Act.put, qq]
              refine qT 29 ?_; try simp only [Act.put, qq]
              refine qT 30 ?_; try simp only [Act.put, qq]
              refine wpAnyH_ready (rs := [31]) (by kernel_rfl) (by simp) ?_
              refine AllReadyH.cons rfl (fun K hK => ?_) AllReadyH.nil
              go_simp
              refine (vmay_true _ HT.out HVM.out).mono ?_
              rintro e1 wa1 ⟨rfl, ha1⟩
              have bb2 : Below w3.heap.size w3 wa1 := bb1.trans (ha1.mono bb1.size)
              clear ha1
              refine hK.out _ _ (HSS.out _ bb2) (fun hHeld => ?_)
              clear hK
              try simp only [Act.put, qq]
              refine qT 32 ?_; try simp only [Act.put, qq]
              refine qT 33 ?_; try simp only [Act.put, qq]
              refine qT 34 ?_; try simp only [Act.put, qq]
              refine qT 35 ?_; try simp only [Act.put, qq]
              refine qT 36 ?_; try simp only [Act.put, qq]
              refine qT 37 ?_; try simp only [Act.put, qq]
              refine qT 38 ?_; try simp only [Act.put, qq]
              refine qT 39 ?_; try simp only [Act.put, qq]
              refine qT 40 ?_; try simp only [Act.put, qq]
              refine qT 41 ?_; try simp only [Act.put, qq]
              refine qT 42 ?_; try simp only [Act.put, qq]
              refine qT 43 ?_; try simp only [Act.put, qq]
              refine qS 44 ?_; try simp only [Act.put, qq]
              refine qS 45 ?_; try simp only [Act.put, qq]
              refine qS 46 ?_; try simp only [Act.put, qq]
              refine qS 47 ?_; try simp only [Act.put, qq]
              refine qS 48 ?_; try simp only [Act.put, qq]
              refine qS 49 ?_; try simp only [Act.put, qq]
              refine qS 50 ?_; try simp only [Act.put, qq]
              refine qS 51 ?_; try simp only [Act.put, qq]
              refine qS 52 ?_; try simp only [Act.put, qq]
              refine qT 53 ?_; try simp only [Act.put, qq]
              refine qT 54 ?_; try simp only [Act.put, qq]
              refine wpAnyH_done (by kernel_rfl) ?_ _
              clear hHeld HSS
              all_goals
                go_wp2_with fail
                go_roundw
                case rel => exact ⟨0 + 1, by omega, by go_num, Lib.hid (HW3.out.trans (bb2.mono HW3.out.size)), HN⟩
                case measure => simp [intOf]; omega
          · obtain ⟨v0, hv0⟩ : ∃ v0, vs[j]? = some v0 := ⟨_, List.getElem?_eq_getElem (by omega)⟩
            have CA := Lib.hid (fun w => rahead_any v0 ⟨gi, s, ⟨p, b, t⟩⟩ w)
            have hj1 : (0 : Int) < (j : Int) + 1 := by omega
            have hj2 : (0 : Int) ≤ (j : Int) := by omega
            have hj3 : (j : Int) < (vs.length : Int) := by omega
            have hjw : IntKind.i64.wrap (j : Int) = (j : Int) := by simp [IntKind.wrap, IntKind.signed, IntKind.bits]; omega
            rcases hlv : SM.lt v0 ⟨gi, s, ⟨p, b, t⟩⟩ with _ | _
            · rw [hlv] at CA
              obtain rfl : r = false := by
                rw [HM.out, decide_eq_false_iff_not]
                intro hh
                have := (SM.rise_get.1 hh.2.2.2) j v0 _ hv0 HV.out
                rw [hlv] at this
                cases this
              clear hlv
              have HSS := Lib.hid (show ∀ w', Below w3.heap.size w3 w' → (w'.cell? ⟨g0, 0, none⟩ = some (.slice (some ad) ls.length c) ∧ w'.cell? ⟨g0, 1, none⟩ = some (.slice (some ⟨bl, oo, none⟩) vs.length d)) ∧ (w'.cell? ⟨h, 0, none⟩ = some (.int .i64 (gi : Int)) ∧ w'.cell? ⟨h, 1, none⟩ = some (.int .i64 s) ∧ w'.cell? ⟨h, 2, none⟩ = some (.int .i64 p) ∧ w'.cell? ⟨h, 3, none⟩ = some (.int .i64 b) ∧ w'.cell? ⟨h, 4, none⟩ = some (.string t)) ∧ w'.cell? (ad.add gi) = some (.slice C l.length e) ∧ (w'.cell? ⟨bl, oo + j * 5, none⟩ = some (.int .i64 v0.g) ∧ w'.cell? ⟨bl, oo + j * 5 + 1, none⟩ = some (.int .i64 v0.s) ∧ w'.cell? ⟨bl, oo + j * 5 + 2, none⟩ = some (.int .i64 v0.o.p) ∧ w'.cell? ⟨bl, oo + j * 5 + 3, none⟩ = some (.int .i64 v0.o.b) ∧ w'.cell? ⟨bl, oo + j * 5 + 4, none⟩ = some (.string v0.o.v)) from fun w' hq => ⟨⟨(X3.out.below hq X3.out.lt).cell 0, (X3.out.below hq X3.out.lt).cell 1⟩, ⟨(Y.out.below hq Y.out.lt).cell 0, (Y.out.below hq Y.out.lt).cell 1, (Y.out.below hq Y.out.lt).cell 2, (Y.out.below hq Y.out.lt).cell 3, (Y.out.below hq Y.out.lt).cell 4⟩, (hq.cell (by rw [block_of_add]; exact hrb)).trans q1, rdg_sn (HRR3.out.below hq) hv0⟩)
              obtain ⟨⟨_, _⟩, ⟨_, _, _, _, _⟩, _, ⟨_, _, _, _, _⟩⟩ := HSS.out w3 (Below.refl _ _)
              clear q1 hrb
              clear X3 Y HRR3
              as_aux_lemma =>
                obtain ⟨ud, hud⟩ : ∃ ud, ud = w3.drew := ⟨_, rfl⟩
                refine wp_region_held_drew (S := fun w' => (w'.cell? ⟨g0, 0, none⟩ = some (.slice (some ad) ls.length c) ∧ w'.cell? ⟨g0, 1, none⟩ = some (.slice (some ⟨bl, oo, none⟩) vs.length d)) ∧ (w'.cell? ⟨h, 0, none⟩ = some (.int .i64 (gi : Int)) ∧ w'.cell? ⟨h, 1, none⟩ = some (.int .i64 s) ∧ w'.cell? ⟨h, 2, none⟩ = some (.int .i64 p) ∧ w'.cell? ⟨h, 3, none⟩ = some (.int .i64 b) ∧ w'.cell? ⟨h, 4, none⟩ = some (.string t)) ∧ w'.cell? (ad.add gi) = some (.slice C l.length e) ∧ (w'.cell? ⟨bl, oo + j * 5, none⟩ = some (.int .i64 v0.g) ∧ w'.cell? ⟨bl, oo + j * 5 + 1, none⟩ = some (.int .i64 v0.s) ∧ w'.cell? ⟨bl, oo + j * 5 + 2, none⟩ = some (.int .i64 v0.o.p) ∧ w'.cell? ⟨bl, oo + j * 5 + 3, none⟩ = some (.int .i64 v0.o.b) ∧ w'.cell? ⟨bl, oo + j * 5 + 4, none⟩ = some (.string v0.o.v))) (by kernel_rfl) (HSS.out _ bb1) (fun hHeld => ?_)
                rw [← hud] at bb1 hHeld ⊢
                clear hud
                refine qT 0 ?_; try simp only [Act.put, qq]
                refine qT 1 ?_; try simp only [Act.put, qq]
                refine qT 2 ?_; try simp only [Act.put, qq]
                refine qT 3 ?_; try simp only [Act.put, qq]
                refine qT 4 ?_; try simp only [Act.put, qq]
                refine qT 5 ?_; try simp only [Act.put, qq]
                refine qT 6 ?_; try simp only [Act.put, qq]
                refine qT 7 ?_; try simp only [Act.put, qq]
                refine qT 8 ?_; try simp only [Act.put, qq]
                refine qT 9 ?_; try simp only [Act.put, qq]
                refine qT 10 ?_; try simp only [Act.put, qq]
                refine qT 11 ?_; try simp only [Act.put, qq]
                refine qT 12 ?_; try simp only [Act.put, qq]
                refine qT 13 ?_; try simp only [Act.put, qq]
                refine qT 14 ?_; try simp only [Act.put, qq]
                refine qT 15 ?_; try simp only [Act.put, qq]
                refine qT 16 ?_; try simp only [Act.put, qq]
                refine qT 17 ?_; try simp only [Act.put, qq]
                refine qT 18 ?_; try simp only [Act.put, qq]
                refine qT 19 ?_; try simp only [Act.put, qq]
                refine qT 20 ?_; try simp only [Act.put, qq]
                refine qT 21 ?_; try simp only [Act.put, qq]
                refine qT 22 ?_; try simp only [Act.put, qq]
                refine qT 23 ?_; try simp only [Act.put, qq]
                refine qT 24 ?_; try simp only [Act.put, qq]
                refine qT 25 ?_; try simp only [Act.put, qq]
                refine qT 26 ?_; try simp only [Act.put, qq]
                refine qT 27 ?_; try simp only [Act.put, qq]
                refine qT 28 ?_; try simp only [Act.put, qq]
                refine qT 29 ?_; try simp only [Act.put, qq]
                refine qT 30 ?_; try simp only [Act.put, qq]
                refine wpAnyH_ready (rs := [31]) (by kernel_rfl) (by simp) ?_
                refine AllReadyH.cons rfl (fun K hK => ?_) AllReadyH.nil
                go_simp
                refine (vmay_true _ HT.out HVM.out).mono ?_
                rintro e1 wa1 ⟨rfl, ha1⟩
                have bb2 : Below w3.heap.size w3 wa1 := bb1.trans (ha1.mono bb1.size)
                clear ha1
                refine hK.out _ _ (HSS.out _ bb2) (fun hHeld => ?_)
                clear hK
                try simp only [Act.put, qq]
                refine qT 32 ?_; try simp only [Act.put, qq]
                refine qT 33 ?_; try simp only [Act.put, qq]
                refine qT 34 ?_; try simp only [Act.put, qq]
                refine qT 35 ?_; try simp only [Act.put, qq]
                refine qT 36 ?_; try simp only [Act.put, qq]
                refine qT 37 ?_; try simp only [Act.put, qq]
                refine qT 38 ?_; try simp only [Act.put, qq]
                refine qT 39 ?_; try simp only [Act.put, qq]
                refine qT 40 ?_; try simp only [Act.put, qq]
                refine qT 41 ?_; try simp only [Act.put, qq]
                refine qT 42 ?_; try simp only [Act.put, qq]
                refine qT 43 ?_; try simp only [Act.put, qq]
                refine qT 44 ?_; try simp only [Act.put, qq]
                refine qT 45 ?_; try simp only [Act.put, qq]
                refine qT 46 ?_; try simp only [Act.put, qq]
                refine qT 47 ?_; try simp only [Act.put, qq]
                refine qT 48 ?_; try simp only [Act.put, qq]
                refine qT 49 ?_; try simp only [Act.put, qq]
                refine qT 50 ?_; try simp only [Act.put, qq]
                refine wpAnyH_ready (rs := [51]) (by kernel_rfl) (by simp) ?_
                refine AllReadyH.cons rfl (fun K hK => ?_) AllReadyH.nil
                go_simp
                refine (CA.out _).mono ?_
                rintro e1 wa2 ⟨rfl, ha2⟩
                have bb3 : Below w3.heap.size w3 wa2 := bb2.trans (ha2.mono bb2.size)
                clear ha2
                refine hK.out _ _ (HSS.out _ bb3) (fun hHeld => ?_)
                clear hK
                try simp only [Act.put, qq]
                refine qT 52 ?_; try simp only [Act.put, qq]
                refine qT 53 ?_; try simp only [Act.put, qq]
                refine qT 54 ?_; try simp only [Act.put, qq]
                refine wpAnyH_done (by kernel_rfl) ?_ _
                clear hHeld HSS
                all_goals
                  go_wp2_with fail
                  go_ret
                  exact ⟨rfl, HB.out.trans (HW3.out.trans (bb3.mono HW3.out.size) |>.mono HB.out.size)⟩
            · rw [hlv] at CA
              have HN := Lib.hid (show (∀ v ∈ vs.take (j + 1 + 1), SM.snOk ls v) ∧ SM.rise (vs.take (j + 1 + 1)) = true by
                refine ⟨fun u hu => ?_, SM.rise_get.2 fun i a b ha hb => ?_⟩
                · rw [List.take_add_one, HV.out] at hu
                  rcases List.mem_append.1 hu with hu | hu
                  · exact HK.out.1 u hu
                  · simp at hu; subst hu; exact HSN.out
                · rw [List.getElem?_take] at ha hb
                  split at hb
                  · by_cases hij : i = j
                    · subst hij
                      rw [if_pos (by omega), hv0] at ha
                      rw [HV.out] at hb
                      injection ha with ha
                      injection hb with hb
                      subst ha hb
                      exact hlv
                    · exact (SM.rise_get.1 HK.out.2) i a b (by rw [List.getElem?_take, if_pos (by omega)]; rw [if_pos (by omega)] at ha; exact ha) (by rw [List.getElem?_take, if_pos (by omega)]; exact hb)
                  · cases hb)
              clear hlv
              have HSS := Lib.hid (show ∀ w', Below w3.heap.size w3 w' → (w'.cell? ⟨g0, 0, none⟩ = some (.slice (some ad) ls.length c) ∧ w'.cell? ⟨g0, 1, none⟩ = some (.slice (some ⟨bl, oo, none⟩) vs.length d)) ∧ (w'.cell? ⟨h, 0, none⟩ = some (.int .i64 (gi : Int)) ∧ w'.cell? ⟨h, 1, none⟩ = some (.int .i64 s) ∧ w'.cell? ⟨h, 2, none⟩ = some (.int .i64 p) ∧ w'.cell? ⟨h, 3, none⟩ = some (.int .i64 b) ∧ w'.cell? ⟨h, 4, none⟩ = some (.string t)) ∧ w'.cell? (ad.add gi) = some (.slice C l.length e) ∧ (w'.cell? ⟨bl, oo + j * 5, none⟩ = some (.int .i64 v0.g) ∧ w'.cell? ⟨bl, oo + j * 5 + 1, none⟩ = some (.int .i64 v0.s) ∧ w'.cell? ⟨bl, oo + j * 5 + 2, none⟩ = some (.int .i64 v0.o.p) ∧ w'.cell? ⟨bl, oo + j * 5 + 3, none⟩ = some (.int .i64 v0.o.b) ∧ w'.cell? ⟨bl, oo + j * 5 + 4, none⟩ = some (.string v0.o.v)) from fun w' hq => ⟨⟨(X3.out.below hq X3.out.lt).cell 0, (X3.out.below hq X3.out.lt).cell 1⟩, ⟨(Y.out.below hq Y.out.lt).cell 0, (Y.out.below hq Y.out.lt).cell 1, (Y.out.below hq Y.out.lt).cell 2, (Y.out.below hq Y.out.lt).cell 3, (Y.out.below hq Y.out.lt).cell 4⟩, (hq.cell (by rw [block_of_add]; exact hrb)).trans q1, rdg_sn (HRR3.out.below hq) hv0⟩)
              obtain ⟨⟨_, _⟩, ⟨_, _, _, _, _⟩, _, ⟨_, _, _, _, _⟩⟩ := HSS.out w3 (Below.refl _ _)
              clear q1 hrb
              clear X3 Y HRR3
              as_aux_lemma =>
                obtain ⟨ud, hud⟩ : ∃ ud, ud = w3.drew := ⟨_, rfl⟩
                refine wp_region_held_drew (S := fun w' => (w'.cell? ⟨g0, 0, none⟩ = some (.slice (some ad) ls.length c) ∧ w'.cell? ⟨g0, 1, none⟩ = some (.slice (some ⟨bl, oo, none⟩) vs.length d)) ∧ (w'.cell? ⟨h, 0, none⟩ = some (.int .i64 (gi : Int)) ∧ w'.cell? ⟨h, 1, none⟩ = some (.int .i64 s) ∧ w'.cell? ⟨h, 2, none⟩ = some (.int .i64 p) ∧ w'.cell? ⟨h, 3, none⟩ = some (.int .i64 b) ∧ w'.cell? ⟨h, 4, none⟩ = some (.string t)) ∧ w'.cell? (ad.add gi) = some (.slice C l.length e) ∧ (w'.cell? ⟨bl, oo + j * 5, none⟩ = some (.int .i64 v0.g) ∧ w'.cell? ⟨bl, oo + j * 5 + 1, none⟩ = some (.int .i64 v0.s) ∧ w'.cell? ⟨bl, oo + j * 5 + 2, none⟩ = some (.int .i64 v0.o.p) ∧ w'.cell? ⟨bl, oo + j * 5 + 3, none⟩ = some (.int .i64 v0.o.b) ∧ w'.cell? ⟨bl, oo + j * 5 + 4, none⟩ = some (.string v0.o.v))) (by kernel_rfl) (HSS.out _ bb1) (fun hHeld => ?_)
                rw [← hud] at bb1 hHeld ⊢
                clear hud
                refine qT 0 ?_; try simp only [Act.put, qq]
                refine qT 1 ?_; try simp only [Act.put, qq]
                refine qT 2 ?_; try simp only [Act.put, qq]
                refine qT 3 ?_; try simp only [Act.put, qq]
                refine qT 4 ?_; try simp only [Act.put, qq]
                refine qT 5 ?_; try simp only [Act.put, qq]
                refine qT 6 ?_; try simp only [Act.put, qq]
                refine qT 7 ?_; try simp only [Act.put, qq]
                refine qT 8 ?_; try simp only [Act.put, qq]
                refine qT 9 ?_; try simp only [Act.put, qq]
                refine qT 10 ?_; try simp only [Act.put, qq]
                refine qT 11 ?_; try simp only [Act.put, qq]
                refine qT 12 ?_; try simp only [Act.put, qq]
                refine qT 13 ?_; try simp only [Act.put, qq]
                refine qT 14 ?_; try simp only [Act.put, qq]
                refine qT 15 ?_; try simp only [Act.put, qq]
                refine qT 16 ?_; try simp only [Act.put, qq]
                refine qT 17 ?_; try simp only [Act.put, qq]
                refine qT 18 ?_; try simp only [Act.put, qq]
                refine qT 19 ?_; try simp only [Act.put, qq]
                refine qT 20 ?_; try simp only [Act.put, qq]
                refine qT 21 ?_; try simp only [Act.put, qq]
                refine qT 22 ?_; try simp only [Act.put, qq]
                refine qT 23 ?_; try simp only [Act.put, qq]
                refine qT 24 ?_; try simp only [Act.put, qq]
                refine qT 25 ?_; try simp only [Act.put, qq]
                refine qT 26 ?_; try simp only [Act.put, qq]
                refine qT 27 ?_; try simp only [Act.put, qq]
                refine qT 28 ?_; try simp only [Act.put, qq]
                refine qT 29 ?_; try simp only [Act.put, qq]
                refine qT 30 ?_; try simp only [Act.put, qq]
                refine wpAnyH_ready (rs := [31]) (by kernel_rfl) (by simp) ?_
                refine AllReadyH.cons rfl (fun K hK => ?_) AllReadyH.nil
                go_simp
                refine (vmay_true _ HT.out HVM.out).mono ?_
                rintro e1 wa1 ⟨rfl, ha1⟩
                have bb2 : Below w3.heap.size w3 wa1 := bb1.trans (ha1.mono bb1.size)
                clear ha1
                refine hK.out _ _ (HSS.out _ bb2) (fun hHeld => ?_)
                clear hK
                try simp only [Act.put, qq]
                refine qT 32 ?_; try simp only [Act.put, qq]
                refine qT 33 ?_; try simp only [Act.put, qq]
                refine qT 34 ?_; try simp only [Act.put, qq]
                refine qT 35 ?_; try simp only [Act.put, qq]
                refine qT 36 ?_; try simp only [Act.put, qq]
                refine qT 37 ?_; try simp only [Act.put, qq]
                refine qT 38 ?_; try simp only [Act.put, qq]
                refine qT 39 ?_; try simp only [Act.put, qq]
                refine qT 40 ?_; try simp only [Act.put, qq]
                refine qT 41 ?_; try simp only [Act.put, qq]
                refine qT 42 ?_; try simp only [Act.put, qq]
                refine qT 43 ?_; try simp only [Act.put, qq]
                refine qT 44 ?_; try simp only [Act.put, qq]
                refine qT 45 ?_; try simp only [Act.put, qq]
                refine qT 46 ?_; try simp only [Act.put, qq]
                refine qT 47 ?_; try simp only [Act.put, qq]
                refine qT 48 ?_; try simp only [Act.put, qq]
                refine qT 49 ?_; try simp only [Act.put, qq]
                refine qT 50 ?_; try simp only [Act.put, qq]
                refine wpAnyH_ready (rs := [51]) (by kernel_rfl) (by simp) ?_
                refine AllReadyH.cons rfl (fun K hK => ?_) AllReadyH.nil
                go_simp
                refine (CA.out _).mono ?_
                rintro e1 wa2 ⟨rfl, ha2⟩
                have bb3 : Below w3.heap.size w3 wa2 := bb2.trans (ha2.mono bb2.size)
                clear ha2
                refine hK.out _ _ (HSS.out _ bb3) (fun hHeld => ?_)
                clear hK
                try simp only [Act.put, qq]
                refine qT 52 ?_; try simp only [Act.put, qq]
                refine qT 53 ?_; try simp only [Act.put, qq]
                refine qT 54 ?_; try simp only [Act.put, qq]
                refine wpAnyH_done (by kernel_rfl) ?_ _
                clear hHeld HSS
                all_goals
                  go_wp2_with fail
                  go_roundw
                  case rel => exact ⟨j + 1 + 1, by omega, by go_num, Lib.hid (HW3.out.trans (bb3.mono HW3.out.size)), HN⟩
                  case measure => simp [intOf]; omega
        · obtain rfl : r = true := by
            rw [HM.out, decide_eq_true_iff]
            have := HK.out
            rw [List.take_of_length_le (by omega)] at this
            exact ⟨⟨by simp only; omega, by simp only; omega⟩, HK2.out, this.1, this.2⟩
          go_wp2_with fail
          go_ret
          exact ⟨rfl, HB.out.trans (HW.out.mono HB.out.size)⟩
end Go.Proofs.Ytohiemdodffhoaa.SP
