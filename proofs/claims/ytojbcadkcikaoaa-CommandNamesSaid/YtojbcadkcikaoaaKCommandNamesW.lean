/-
  The walk of CommandNames: the chapter's examples. Conditions: none.
-/
import Derived.Test.YtojbcadkcikaoaaK13
import Derived.Deep.DeepCutAuto
namespace Go.Proofs.Ytojbcadkcikaoaa
open Go.RowKit CP
open CM (Mg Cm)
set_option linter.unusedVariables false
set_option linter.unusedSimpArgs false
set_option maxRecDepth 100000

def mEx : Mg := ⟨1, [0, 2], 3, ⟨#[107]⟩, .empty⟩
def cEx : Cm := ⟨1, mEx, 0, 0, [], 0, 0, 0⟩
theorem ex_ok : CM.mgOk mEx := by decide +kernel
theorem ex_may : CM.may cEx := by decide +kernel
theorem ex_wr : CM.wr cEx = [1, 1, 2, 0, 2, 3, 1, 107, 0] := by decide +kernel
theorem in_k {z : Int} (h : 0 ≤ z ∧ z ≤ 1000) : i64In z := by unfold i64In; omega
theorem ex_mfit : MgFit mEx := ⟨in_k (by simp [mEx]), in_k (by simp [mEx]), by unfold maxLen; decide, by unfold maxLen; decide⟩
theorem ex_fit : CmFit cEx := ⟨by constructor <;> simp [cEx], ex_mfit, in_zero, in_zero, in_zero, in_zero, in_zero⟩
theorem no_00 : CM.ReadIs [0, 0] CM.zero 8 := by
  have := CM.readIs_read [0, 0]
  rwa [show CM.readF [0, 0] = (CM.zero, 8) by decide +kernel] at this
theorem no_none : CM.ReadIs [] CM.zero 8 := by
  have := CM.readIs_read []
  rwa [show CM.readF [] = (CM.zero, 8) by decide +kernel] at this
theorem no_7 : CM.ReadIs [7] CM.zero 8 := by
  have := CM.readIs_read [7]
  rwa [show CM.readF [7] = (CM.zero, 8) by decide +kernel] at this
theorem mz_no : ¬ CM.mgOk CM.mz := by decide +kernel
def cT : Cm := ⟨0, CM.mz, 0, 1, [], 0, 0, 0⟩
def cC : Cm := ⟨3, CM.mz, 0, 0, [], 0, 0, 0⟩
theorem t_no : ¬ CM.may cT := by decide +kernel
theorem c_no : ¬ CM.may cC := by decide +kernel
theorem t_fit : CmFit cT := ⟨by constructor <;> simp [cT], fit_mz, in_zero, in_k (by simp [cT]), in_zero, in_zero, in_zero⟩
theorem c_fit : CmFit cC := ⟨by constructor <;> simp [cC], fit_mz, in_zero, in_zero, in_zero, in_zero, in_zero⟩
theorem row_lit (w : World) : RowIs (w.alloc (.cells #[.int .i64 0, .int .i64 2] 3)) (some ⟨w.heap.size, 0, none⟩) 2 [0, 2] :=
  ⟨rd_box (Box.new w _ _) rfl rfl, Nat.le_refl _, by unfold maxLen; decide⟩
def zeros12 : ByteArray := ⟨(List.replicate 1025 (0 : UInt8)).toArray⟩
theorem zeros12_size : zeros12.size = 1025 := by unfold zeros12; show Array.size _ = _; simp
set_option maxHeartbeats 4000000 in
theorem commandNames_walk (w : World) :
    Calls Try.prog 3 #[] w fun e w' => e = .returned (.bool true) ∧ Below w.heap.size w w' := by
  go_enter Try.func3, Try.ntmps3
  go_upto_region 2 with (fail)
  have h1 : Below w.heap.size w (w.alloc (.cells #[.int .i64 0, .int .i64 2] 3)) := (Below.refl _ _).alloc (Nat.le_refl _) _
  have h2 : Below (w.alloc (.cells #[.int .i64 0, .int .i64 2] 3)).heap.size (w.alloc (.cells #[.int .i64 0, .int .i64 2] 3)) ((w.alloc (.cells #[.int .i64 0, .int .i64 2] 3)).alloc (.cells #[.int .i64 1, .slice (some ⟨w.heap.size, 0, none⟩) 2 2, .int .i64 3, .string ⟨#[107]⟩, .string ⟨#[]⟩] 24)) := (Below.refl _ _).alloc (Nat.le_refl _) _
  have HB := Lib.hid (bmore h1 h2 (Nat.le_refl _))
  have HRow := Lib.hid ((row_lit w).below h2)
  have R := Lib.hid (show Box ((w.alloc (.cells #[.int .i64 0, .int .i64 2] 3)).alloc (.cells #[.int .i64 1, .slice (some ⟨w.heap.size, 0, none⟩) 2 2, .int .i64 3, .string ⟨#[107]⟩, .string ⟨#[]⟩] 24)) (w.heap.size + 1) 24 #[.int .i64 1, .slice (some ⟨w.heap.size, 0, none⟩) 2 2, .int .i64 3, .string ⟨#[107]⟩, .string ⟨#[]⟩] from Box.new_at _ (by simp))
  clear h1 h2
  generalize (w.alloc (.cells #[.int .i64 0, .int .i64 2] 3)).alloc (.cells #[.int .i64 1, .slice (some ⟨w.heap.size, 0, none⟩) 2 2, .int .i64 3, .string ⟨#[107]⟩, .string ⟨#[]⟩] 24) = w1 at HB HRow R ⊢
  generalize w.heap.size + 1 = gm at R ⊢
  generalize (some ⟨w.heap.size, 0, none⟩ : Option Addr) = AG at HRow R ⊢
  obtain ⟨x0, x1, x2, x3, x4⟩ := box_mg R.out
  go_wp2_with fail
  clear x0 x1 x2 x3 x4
  refine (is_lit cEx _ [1, 1, 2, 0, 2, 3, 1, 107, 0] 9 _ _ w1 rfl ⟨AG, 2, none, 0, rfl, HRow.out, RowIs.none _⟩ ex_fit ex_may ex_wr rfl rfl).mono ?_
  rintro e w2 ⟨rfl, hb⟩
  replace HB := Lib.hid (bmore HB.out hb (Nat.le_refl _))
  replace R := Lib.hid (R.out.below hb R.out.lt)
  replace HRow := Lib.hid (HRow.out.below hb)
  clear hb
  obtain ⟨x0, x1, x2, x3, x4⟩ := box_mg R.out
  have CK := Lib.hid (pcheckMg_any mEx (.agg #[.int .i64 1, .slice AG 2 2, .int .i64 3, .string ⟨#[107]⟩, .string ⟨#[]⟩]) w2 ⟨AG, 2, rfl, HRow.out⟩ ex_mfit)
  rw [if_pos ex_ok] at CK
  go_wp2_with fail
  clear x0 x1 x2 x3 x4
  refine (CK.out).mono ?_
  rintro e w3 ⟨rfl, hb⟩
  replace HB := Lib.hid (bmore HB.out hb (Nat.le_refl _))
  clear hb CK R HRow
  have CK := Lib.hid (pcheckMg_any CM.mz (.agg #[.int .i64 0, .slice none 0 0, .int .i64 0, .string ⟨#[]⟩, .string ⟨#[]⟩]) w3 (mz_is w3) fit_mz)
  rw [if_neg mz_no] at CK
  go_wp2_with fail
  refine (CK.out).mono ?_
  rintro e w4 ⟨rfl, hb⟩
  replace HB := Lib.hid (bmore HB.out hb (Nat.le_refl _))
  clear hb CK
  go_upto_region 3 with (fail)
  obtain ⟨i0, hi, hz0, hz1, hz2⟩ := info_parts info_u8g
  obtain ⟨mk, hmk, hcv⟩ : ∃ mk : Array Value, (∀ W, (Instr.makeSlice 32 (.int .i64 1025) (.int .i64 1025)).run Try.prog W = .ok (.slice (some ⟨W.heap.size, 0, none⟩) 1025 1025) (W.alloc (.cells mk 5))) ∧ (∀ W g, Box W g 5 mk → (convert 32 9 (.slice (some ⟨g, 0, none⟩) 1025 1025)).run Try.prog W = .ok (.string zeros12) W) := by
    refine ⟨_, fun W => run_make (P := Try.prog) W _ _ i0 _ Try.underlying32 hi hz0 .i64 .i64 1025 1025 (by omega) (by omega) (by rw [hz2]; omega) (by omega), fun W g hb => ?_⟩
    refine run_string_of W _ _ 5 _ _ _ _ Try.underlying32 Try.underlying5 Try.underlying9 (rd_box hb ?_ ?_)
    · rw [hz1]; show (madeCells (Value.int .u8 0).cells (1025 * 1)).toList = _; rw [Nat.mul_one, show (Value.int .u8 0).cells = #[Value.int .u8 0] from rfl, toList_madeCells_one]; unfold bc; rw [List.map_replicate]; rfl
    · unfold bc; simp
  have hmk2 := hmk w4
  have hcv2 := hcv (w4.alloc (.cells mk 5)) w4.heap.size (Box.new _ _ _)
  clear hmk hcv hi hz0 hz1 hz2
  go_wp2_with fail
  clear hmk2 hcv2
  have CR := Lib.hid (pread_any (x := CM.zero) (y := 3) zeros12 (readIs_long (by rw [RM.bsz_len, zeros12_size]; decide)) (by rw [zeros12_size]; unfold maxLen; decide) (w4.alloc (.cells mk 5)))
  replace HB := Lib.hid (HB.out.alloc HB.out.size (.cells mk 5))
  refine (CR.out).mono ?_
  rintro e w5 ⟨v, rfl, ⟨A, c, P, q, rfl, _, _⟩, hb⟩
  replace HB := Lib.hid (bmore HB.out hb (Nat.le_refl _))
  clear hb CR
  unfold ccells
  obtain ⟨xx, hxx⟩ : ∃ xx, xx = CM.zero := ⟨_, rfl⟩
  rw [← hxx]
  clear hxx
  obtain ⟨k, ⟨mi, mg, mt, mk, mb⟩, aid, atm, ams, atp, awh, an⟩ := xx
  replace HB := Lib.hid (HB.out.alloc HB.out.size (.cells #[.int .u8 k, .int .i64 mi, .slice A mg.length c, .int .i64 mt, .string mk, .string mb, .int .i64 aid, .int .i64 atm, .slice P ams.length q, .int .i64 atp, .int .i64 awh, .int .i64 an] 27))
  go_upto_region 4 with (fail)
  generalize w5.alloc (.cells #[.int .u8 k, .int .i64 mi, .slice A mg.length c, .int .i64 mt, .string mk, .string mb, .int .i64 aid, .int .i64 atm, .slice P ams.length q, .int .i64 atp, .int .i64 awh, .int .i64 an] 27) = w6 at HB ⊢
  go_wp2_with fail
  refine (alive_any _).mono ?_
  rintro e w7 ⟨rfl, hb⟩
  replace HB := Lib.hid (bmore HB.out hb (Nat.le_refl _))
  clear hb
  go_wp2_with fail
  refine (bad_lit [0, 0] 2 _ _ w7 rfl no_00 (by decide) rfl rfl).mono ?_
  rintro e w8 ⟨rfl, hb⟩
  replace HB := Lib.hid (bmore HB.out hb (Nat.le_refl _))
  clear hb
  go_wp2_with fail
  refine (bad_yes [] none 0 0 w8 ⟨rfl, fun h => absurd h (Nat.lt_irrefl 0)⟩ no_none (Nat.zero_le _)).mono ?_
  rintro e w9 ⟨rfl, hb⟩
  replace HB := Lib.hid (bmore HB.out hb (Nat.le_refl _))
  clear hb
  go_wp2_with fail
  refine (bad_lit [7] 1 _ _ w9 rfl no_7 (by decide) rfl rfl).mono ?_
  rintro e w10 ⟨rfl, hb⟩
  replace HB := Lib.hid (bmore HB.out hb (Nat.le_refl _))
  clear hb
  have CK := Lib.hid (pcheck_any cT (.agg #[.int .u8 0, .int .i64 0, .slice none 0 0, .int .i64 0, .string ⟨#[]⟩, .string ⟨#[]⟩, .int .i64 0, .int .i64 1, .slice none 0 0, .int .i64 0, .int .i64 0, .int .i64 0]) w10 ⟨none, 0, none, 0, rfl, RowIs.none _, RowIs.none _⟩ t_fit)
  rw [if_neg t_no] at CK
  go_wp2_with fail
  refine (CK.out).mono ?_
  rintro e w11 ⟨rfl, hb⟩
  replace HB := Lib.hid (bmore HB.out hb (Nat.le_refl _))
  clear hb CK
  have CK := Lib.hid (pcheck_any cC (.agg #[.int .u8 3, .int .i64 0, .slice none 0 0, .int .i64 0, .string ⟨#[]⟩, .string ⟨#[]⟩, .int .i64 0, .int .i64 0, .slice none 0 0, .int .i64 0, .int .i64 0, .int .i64 0]) w11 ⟨none, 0, none, 0, rfl, RowIs.none _, RowIs.none _⟩ c_fit)
  rw [if_neg c_no] at CK
  go_wp2_with fail
  refine (CK.out).mono ?_
  rintro e w12 ⟨rfl, hb⟩
  replace HB := Lib.hid (bmore HB.out hb (Nat.le_refl _))
  clear hb CK
  go_wp2_with fail
  go_ret
  exact ⟨rfl, HB.out⟩
end Go.Proofs.Ytojbcadkcikaoaa
