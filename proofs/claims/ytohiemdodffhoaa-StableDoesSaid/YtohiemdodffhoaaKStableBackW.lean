/-
  The walk of StableBack: what the shortest records make is the same, and none could be left out; over contracts of the program's functions. Conditions: any one.
-/
import Derived.Test.YtohiemdodffhoaaK02
import Derived.Test.YtohiemdodffhoaaStGr
namespace Go.Proofs.Ytohiemdodffhoaa.SP
open Go.RowKit
open SM (Sn Sb Vo)
set_option linter.unusedVariables false
set_option linter.unusedSimpArgs false

theorem same_self (EP : SamP) {u v : Value} {x : Sb} {w : World} (h1 : StIs w u x) (h2 : StIs w v x) (F : Fit x) :
    Calls Try.prog 28 #[u, v] w fun e w' => e = .returned (.bool true) ∧ Below w.heap.size w w' :=
  (EP u v x x w h1 h2 F F).mono fun e w' h => ⟨by rw [h.1]; simp, h.2⟩
theorem many_step {ls : List (List ByteArray)} {k : Nat} {l : List ByteArray} (h : ls[k]? = some l) : SM.many (ls.take (k + 1)) = SM.many (ls.take k) + l.length := by
  unfold SM.many
  rw [List.take_add_one, h]
  simp
theorem many_step_le (ls : List (List ByteArray)) (hl : ∀ l ∈ ls, l.length ≤ 1000) (k : Nat) : SM.many (ls.take k) ≤ 1000 * k := by
  induction k with
  | zero => simp [SM.many]
  | succ k ih =>
    rcases h : ls[k]? with _ | l
    · rw [List.take_add_one, h]
      simp only [Option.toList_none, List.append_nil]
      omega
    · rw [many_step h]
      have := hl l (List.mem_of_getElem? h)
      omega
set_option maxRecDepth 100000 in
set_option maxHeartbeats 16000000 in
theorem stableBack_of (NP : NewP) (AP : AppP) (TP : AtP) (IP : ImgP) (RP : RepP) (EP : SamP) (CP : ChkP) (v : Value) (x : Sb) (w : World) (hv : StArg w v x) :
    Calls Try.prog 6 #[v] w fun e w' => e = .returned (.bool true) ∧ Below w.heap.size w w' := by
  obtain ⟨⟨A, c, B, d, rfl, hL, hV⟩, F⟩ := hv
  obtain ⟨m0, m1, m2⟩ := rows_rd2 hL
  unfold maxLen at m2
  have hvd := hV.2.2
  unfold maxLen at hvd
  have hb0 : Below w.heap.size w (w.alloc (.cells #[.slice A x.logs.length c, .slice B x.votes.length d] 25)) := (Below.refl _ _).alloc (Nat.le_refl _) _
  have HB := Lib.hid hb0
  have X := Lib.hid (Box.new w 25 #[.slice A x.logs.length c, .slice B x.votes.length d])
  have HI := Lib.hid (show StIs (w.alloc (.cells #[.slice A x.logs.length c, .slice B x.votes.length d] 25)) (.agg #[.slice A x.logs.length c, .slice B x.votes.length d]) x from ⟨A, c, B, d, rfl, hL.below hb0, hV.below hb0⟩)
  have HLG := Lib.hid (hL.below hb0)
  have HF := Lib.hid F
  obtain ⟨v2, v3, _⟩ := hvd
  clear hb0 hL hV F m0
  go_enter Try.func6, Try.ntmps6
  go_upto_region 1 with (fail)
  generalize w.alloc (.cells #[.slice A x.logs.length c, .slice B x.votes.length d] 25) = w1 at HB X HI HLG ⊢
  generalize hg0 : w.heap.size = g0 at X ⊢
  have HG := Lib.hid hg0
  clear hg0
  go_wp2_with fail
  refine (alive_any NP AP TP w1).mono ?_
  rintro e w2 ⟨rfl, hb⟩
  replace HB := Lib.hid (bmore HB.out hb (Nat.le_refl _))
  replace X := Lib.hid (X.out.below hb X.out.lt)
  replace HI := Lib.hid (HI.out.below hb)
  replace HLG := Lib.hid (HLG.out.below hb)
  clear hb
  obtain ⟨b0, b1, _, _⟩ := X.out.two
  go_wp2_with fail
  clear b0 b1
  refine (rgreat11_any _ x w2 HI.out HF.out).mono ?_
  rintro e w3 ⟨gr, rfl, hfew, hb⟩
  replace HB := Lib.hid (bmore HB.out hb (Nat.le_refl _))
  replace X := Lib.hid (X.out.below hb X.out.lt)
  replace HI := Lib.hid (HI.out.below hb)
  replace HLG := Lib.hid (HLG.out.below hb)
  clear hb
  rcases gr with _ | _
  rotate_left
  · go_wp2_with fail
    go_ret
    exact ⟨rfl, by have := HB.out; rwa [HG.out] at this⟩
  obtain ⟨f1, f2, f3⟩ := hfew rfl
  have HF3 := Lib.hid f3
  clear hfew f3
  obtain ⟨b0, b1, _, _⟩ := X.out.two
  go_wp2_with fail
  clear b0 b1
  refine (IP _ x w3 HI.out HF.out).mono ?_
  rintro e w4 ⟨C, cl, rfl, hrd, hc1, hc2, hb⟩
  replace HB := Lib.hid (bmore HB.out hb (Nat.le_refl _))
  replace X := Lib.hid (X.out.below hb X.out.lt)
  replace HI := Lib.hid (HI.out.below hb)
  replace HLG := Lib.hid (HLG.out.below hb)
  clear hb
  by_cases hm : SM.may x
  rotate_left
  · have hi : imgOf x = [] := if_neg hm
    rw [if_neg hm]
    clear hrd hc1 hc2
    obtain ⟨b0, b1, _, _⟩ := X.out.two
    go_wp2_with fail
    clear b0 b1
    refine (CP _ x w4 HI.out HF.out).mono ?_
    rintro e w5 ⟨z, rfl, hz, hb⟩
    replace HB := Lib.hid (bmore HB.out hb (Nat.le_refl _))
    have hz2 : (z != 0) = true := by
      have : z ≠ 0 := fun h => hm (hz.1 h)
      simpa using this
    clear hb hz hm
    go_wp2_with fail
    go_ret
    exact ⟨rfl, by have := HB.out; rwa [HG.out] at this⟩
  rw [if_pos hm]
  have h1 := SM.image_len hm
  have h2 := img_len hm
  have h3 := img_size hm
  have h4 := SM.back hm (by omega)
  rw [← tb_image hm] at h4
  rw [← h2] at h1
  obtain ⟨l, hl⟩ : ∃ l, l = imgOf x := ⟨_, rfl⟩
  rw [← hl] at h1 h3 h4 hrd hc1 ⊢
  have H1 := Lib.hid h1
  have H3 := Lib.hid h3
  have H4 := Lib.hid h4
  have HRD := Lib.hid hrd
  have HMA := Lib.hid (many_step_le x.logs HF3.out)
  clear h1 h2 h3 h4 hl hrd hm
  unfold maxLen at hc2
  obtain ⟨b0, b1, _, _⟩ := X.out.two
  go_wp2_with fail
  clear b0 b1
  refine (RP x.logs.length C l.length cl l w4 HRD.out H3.out (by unfold maxLen; omega)).mono ?_
  rintro e w5 ⟨v5, rfl, hst, hb⟩
  rw [H4.out] at hst ⊢
  simp only at hst ⊢
  obtain ⟨A5, c5, B5, d5, rfl⟩ := ty_slices hst
  have hal : Below w5.heap.size w5 (w5.alloc (.cells #[.slice A5 x.logs.length c5, .slice B5 x.votes.length d5] 25)) := (Below.refl _ _).alloc (Nat.le_refl _) _
  replace HB := Lib.hid (bmore (bmore HB.out hb (Nat.le_refl _)) hal (Nat.le_refl _))
  replace X := Lib.hid ((X.out.below hb X.out.lt).below hal (X.out.below hb X.out.lt).lt)
  replace HI := Lib.hid ((HI.out.below hb).below hal)
  replace HLG := Lib.hid ((HLG.out.below hb).below hal)
  have Y := Lib.hid (Box.new w5 25 #[.slice A5 x.logs.length c5, .slice B5 x.votes.length d5])
  have HST := Lib.hid (hst.below hal).is
  clear hst hb hal HRD H3 H4
  go_upto_region 10 with (fail)
  generalize w5.alloc (.cells #[.slice A5 x.logs.length c5, .slice B5 x.votes.length d5] 25) = w6 at HB X HI HLG Y HST ⊢
  generalize w5.heap.size = g6 at Y ⊢
  go_wp2_with fail
  go_loopw [8, 9] (fun mv i wr => ∃ k : Nat, k ≤ x.logs.length ∧ mv = .int .i64 (SM.many (x.logs.take k) : Nat) ∧ i = .int .i64 k ∧ wr = w6) (fun _ i _ => x.logs.length - (intOf i).toNat)
  case atStart => exact ⟨0, by omega, rfl, rfl, rfl⟩
  case round =>
    obtain ⟨k, hk, rfl, rfl, rfl⟩ := hrel
    obtain ⟨b0, b1, _, _⟩ := X.out.two
    by_cases hlt : k < x.logs.length
    · obtain ⟨l1, hl1⟩ : ∃ l1, x.logs[k]? = some l1 := ⟨_, List.getElem?_eq_getElem hlt⟩
      obtain ⟨ad, B7, d7, hA, _, hcell, _, hd1, hd2⟩ := logs_get HLG.out hl1
      have hmt := many_step hl1
      have hma := HMA.out k
      have hll := HF3.out l1 (List.mem_of_getElem? hl1)
      generalize SM.many (x.logs.take k) = q at hmt hma ⊢
      generalize hq1 : SM.many (x.logs.take (k + 1)) = q1 at hmt
      have HQ := Lib.hid hq1
      have k0 : (0 : Int) ≤ (k : Int) := by omega
      have k1 : (k : Int) < (x.logs.length : Int) := by omega
      subst hA hmt
      clear hl1 hq1
      go_wp2_with fail
      go_roundw
      case rel => exact ⟨k + 1, by omega, by rw [HQ.out]; go_num, by go_num, trivial⟩
      case measure => simp [intOf]; omega
    · obtain rfl : k = x.logs.length := by omega
      rw [List.take_length]
      have hma := HMA.out x.logs.length
      rw [List.take_length] at hma
      obtain ⟨h1, h2⟩ := H1.out
      generalize SM.many x.logs = q at hma h1 h2 ⊢
      obtain ⟨y0, y1, _, _⟩ := Y.out.two
      have HE := Lib.hid (same_self EP HST.out HI.out HF.out)
      go_wp2_with fail
      refine HE.out.mono ?_
      rintro e w7 ⟨rfl, hb⟩
      replace HB := Lib.hid (bmore HB.out hb (Nat.le_refl _))
      replace X := Lib.hid (X.out.below hb X.out.lt)
      clear b0 b1 y0 y1
      obtain ⟨b0, b1, _, _⟩ := X.out.two
      have t1 : decide ((l.length : Int) ≤ (q : Int) + 2 * (x.votes.length : Int)) = true := by simp; omega
      have t2 : decide ((q : Int) + (x.votes.length : Int) ≤ (l.length : Int)) = true := by simp; omega
      go_wp2_with fail
      go_ret
      exact ⟨rfl, by have := HB.out; rwa [HG.out] at this⟩
end Go.Proofs.Ytohiemdodffhoaa.SP
