/-
  The walk of LogNames: the chapter's examples. Conditions: none.
-/
import Derived.Test.YtodmpapfnilkoaaK29
import Derived.Test.YtodmpapfnilkoaaK30
import Derived.Deep.DeepCutAuto
namespace Go.Proofs.Ytodmpapfnilkoaa
open Go.RowKit CP LP
open CM (Mg Cm)
set_option linter.unusedVariables false
set_option linter.unusedSimpArgs false
set_option maxRecDepth 100000

theorem fit_zero13 : CmFit CM.zero := ⟨⟨Int.le_refl _, by show (0 : Int) ≤ 255; omega⟩, fit_mz, in_zero, in_zero, in_zero, in_zero, in_zero⟩
theorem may_1 : QM.may [1] = true := by decide +kernel
theorem may_2 : QM.may [2] = true := by decide +kernel
theorem er_what : LM.er ⟨#[119, 104, 97, 116]⟩ = 8 := by decide +kernel
theorem chk_what : LM.chk [⟨#[119, 104, 97, 116]⟩] = 8 := by
  show (if 200 < 1 then (4 : Int) else if LM.er ⟨#[119, 104, 97, 116]⟩ = 0 then LM.chkF [] else 8) = 8
  rw [if_neg (by omega), er_what]
  rfl
theorem chk_two {s t : ByteArray} (hs : LM.er s = 0) (ht : LM.er t = 0) : LM.chk [s, t] = 0 := LM.chk_zero.2 ⟨by simp, fun x hx => by
  rcases List.mem_cons.1 hx with rfl | hx
  · exact hs
  · obtain rfl := List.mem_singleton.1 hx
    exact ht⟩
theorem chk_rep {s : ByteArray} (hs : LM.er s = 0) : LM.chk (List.replicate 200 s) = 0 := LM.chk_zero.2 ⟨by simp, fun x hx => by obtain rfl := (List.mem_replicate.1 hx).2; exact hs⟩
theorem chk_rep1 (s : ByteArray) : LM.chk (List.replicate 201 s) = 4 := by unfold LM.chk; rw [if_pos (by simp)]
theorem grp_nil : QM.GrpIs [] [] 60 := .inl ⟨.inr (.inl ⟨by simp, rfl, rfl⟩), by decide⟩
/-- what Write answers for nothing at all -/
def NopIs (t : ByteArray) (w : World) (e : Ending) (w' : World) : Prop := e = .returned (.tuple #[.string t, .int .i64 0]) ∧ Below w.heap.size w w'
theorem write_nop (w : World) : Calls Try.prog 7 #[.agg #[.int .u8 0, .int .i64 0, .slice none 0 0, .int .i64 0, .string ⟨#[]⟩, .string ⟨#[]⟩, .int .i64 0, .int .i64 0, .slice none 0 0, .int .i64 0, .int .i64 0, .int .i64 0]] w (NopIs (txt CM.zero) w) := by
  have := pwrite_any CM.zero (.agg #[.int .u8 0, .int .i64 0, .slice none 0 0, .int .i64 0, .string ⟨#[]⟩, .string ⟨#[]⟩, .int .i64 0, .int .i64 0, .slice none 0 0, .int .i64 0, .int .i64 0, .int .i64 0]) w ⟨none, 0, none, 0, rfl, RowIs.none _, RowIs.none _⟩ fit_zero13
  unfold WrIs at this
  rw [if_pos (.inl rfl), if_pos (.inl rfl)] at this
  exact this
/-- the values: a CmdNop, changes to 1 and to 2 -/
structure NmV (t0 t1 t2 : ByteArray) : Prop where
  e0 : LM.er t0 = 0
  e1 : LM.er t1 = 0
  e2 : LM.er t2 = 0
  ne : t0 ≠ t1
  k2 : (LM.cm t2).k = 3
  s0 : t0.size ≤ maxLen
  s1 : t1.size ≤ maxLen
  s2 : t2.size ≤ maxLen
theorem nmV : NmV (txt CM.zero) (txt (chg [1])) (txt (chg [2])) := by
  obtain ⟨a0, a1⟩ := cm_txt (c := CM.zero) (.inl rfl)
  obtain ⟨b0, b1⟩ := cm_txt (may_chg may_1)
  obtain ⟨c0, c1⟩ := cm_txt (may_chg may_2)
  refine ⟨a1, b1, c1, fun h => ?_, by rw [c0]; rfl, txt_size (by decide +kernel), txt_size (by decide +kernel), txt_size (by decide +kernel)⟩
  rw [h, b0] at a0
  exact absurd (congrArg Cm.k a0) (by decide)
theorem place_two {t0 t1 : ByteArray} (h : t0 ≠ t1) : LM.place [t0, t1] t1 = 2 := by
  show (if t0 = t1 then 0 + 1 else if t1 = t1 then 0 + 1 + 1 else LM.placeF t1 (0 + 1 + 1) []) = 2
  rw [if_neg h, if_pos rfl]
theorem tx_none (w : World) : TxIs w none 0 0 [] := ⟨Rd.nil, Nat.le_refl _, Nat.zero_le _, fun s hs => by cases hs⟩
theorem tx_pre {w : World} {A : Option Addr} {c : Nat} {t : ByteArray} (h : TxIs w A 201 c (List.replicate 201 t)) : TxIs w A 200 c (List.replicate 200 t) := by
  obtain ⟨⟨h1, h2⟩, h3, h4, h5⟩ := h
  refine ⟨⟨by simp [tcx], fun _ => ?_⟩, by omega, h4, fun s hs => h5 s (by obtain rfl := (List.mem_replicate.1 hs).2; simp)⟩
  obtain ⟨a, e, hb, hc⟩ := h2 (by omega)
  refine ⟨a, e, hb, fun j u hu => hc j u ?_⟩
  unfold tcx at hu ⊢
  rw [List.getElem?_map, List.getElem?_replicate] at hu ⊢
  by_cases hj : j < 200
  · rw [if_pos hj] at hu
    rw [if_pos (by omega)]
    exact hu
  · rw [if_neg hj] at hu
    cases hu
set_option maxHeartbeats 4000000 in
theorem logNames_walk (w : World) :
    Calls Try.prog 3 #[] w fun e w' => e = .returned (.bool true) ∧ Below w.heap.size w w' := by
  have KW := Lib.hid (fun W => write_nop W)
  obtain ⟨i0, hi, hz0, hz1, hz2⟩ := info_parts info_st
  have K1 := Lib.hid (fun W A (h : RowIs W A 1 [1]) => change13_any A 1 [1] W h may_1)
  have K2 := Lib.hid (fun W A (h : RowIs W A 1 [2]) => change13_any A 1 [2] W h may_2)
  have hN := nmV
  unfold TxtIs at K1 K2
  generalize txt CM.zero = t0 at KW hN
  generalize txt (chg [1]) = t1 at K1 hN
  generalize txt (chg [2]) = t2 at K2 hN
  have HN := Lib.hid hN
  clear hN
  go_enter Try.func3, Try.ntmps3
  go_wp2_with fail
  refine (KW.out w).mono ?_
  rintro e w1 ⟨rfl, hb⟩
  have HB := Lib.hid hb
  clear hb KW
  go_wp2_with fail
  refine (group13_any w1).mono ?_
  rintro e w2 ⟨gv, rfl, hg, hb⟩
  replace HB := Lib.hid (bmore HB.out hb (Nat.le_refl _))
  have KM := Lib.hid (membersV pmem gv [0, 1, 2, 3] [0, 1, 2] none 0 0 [] 0 w2 hg (tx_none _) grp13)
  rw [if_pos rfl, show LM.chk [] = 0 by rfl, show mbz 0 [0, 1, 2, 3] [0, 1, 2] [] = [0, 1, 2] by rfl] at KM
  clear hb hg
  go_wp2_with fail
  refine (KM.out).mono ?_
  rintro e w3 ⟨vm, rfl, hm, hb⟩
  obtain ⟨M, cm, rfl, hrm, _⟩ := mb_form hm
  replace HB := Lib.hid (bmore HB.out hb (Nat.le_refl _))
  have HRM := Lib.hid hrm
  simp only [List.length_cons, List.length_nil, Nat.reduceAdd]
  have r1 := LP.row_lit w3 #[.int .i64 1] [1] 1 rfl rfl (by omega)
  have HR := Lib.hid r1
  have hl := (show Below w3.heap.size w3 (w3.alloc (.cells #[.int .i64 1] 3)) from (Below.refl _ _).alloc (Nat.le_refl _) _)
  replace HB := Lib.hid (bmore HB.out hl (Nat.le_refl _))
  replace HRM := Lib.hid (HRM.out.below hl)
  clear hb KM hm hrm r1 hl
  go_wp2_with fail
  generalize w3.alloc (.cells #[.int .i64 1] 3) = w4 at HR HB HRM ⊢
  refine (K1.out w4 _ HR.out).mono ?_
  rintro e w5 ⟨rfl, hb⟩
  have hl := (show Below w5.heap.size w5 ((w5.alloc (.cells #[.string t0, .string t1] 9)).alloc (.cells #[.int .i64 1] 3)) from ((Below.refl _ _).alloc (Nat.le_refl _) _).alloc (by simp) _)
  have r1 := LP.row_lit (w5.alloc (.cells #[.string t0, .string t1] 9)) #[.int .i64 1] [1] 1 rfl rfl (by omega)
  rw [World.size_alloc] at r1
  have HR2 := Lib.hid r1
  have HT := Lib.hid ((tx_lit w5 #[.string t0, .string t1] [t0, t1] 2 rfl rfl (by omega) (fun s hs => by
    rcases List.mem_cons.1 hs with rfl | hs
    · exact HN.out.s0
    · obtain rfl := List.mem_singleton.1 hs
      exact HN.out.s1)).below ((Below.refl _ _).alloc (Nat.le_refl _) (.cells #[.int .i64 1] 3)))
  replace HB := Lib.hid (bmore (bmore HB.out hb (Nat.le_refl _)) hl (Nat.le_refl _))
  replace HRM := Lib.hid ((HRM.out.below hb).below hl)
  clear hb r1 hl HR
  go_wp2_with fail
  generalize (w5.alloc (.cells #[.string t0, .string t1] 9)).alloc (.cells #[.int .i64 1] 3) = w6 at HR2 HT HB HRM ⊢
  refine (K1.out w6 _ HR2.out).mono ?_
  rintro e w7 ⟨rfl, hb⟩
  have KF := Lib.hid (findV _ 2 2 [t0, t1] t1 w7 (HT.out.below hb))
  rw [chk_two HN.out.e0 HN.out.e1, place_two HN.out.ne, if_pos rfl, if_pos rfl, show decide (0 < 2) = true by rfl] at KF
  replace HB := Lib.hid (bmore HB.out hb (Nat.le_refl _))
  replace HRM := Lib.hid (HRM.out.below hb)
  clear hb HR2 HT K1
  go_wp2_with fail
  refine (KF.out).mono ?_
  rintro e w8 ⟨rfl, hb⟩
  have KF2 := Lib.hid (findV none 0 0 [] t0 w8 (tx_none _))
  rw [show LM.chk [] = 0 by rfl, show LM.place [] t0 = 0 by rfl, if_pos rfl, if_pos rfl, show decide (0 < 0) = false by rfl] at KF2
  replace HB := Lib.hid (bmore HB.out hb (Nat.le_refl _))
  replace HRM := Lib.hid (HRM.out.below hb)
  clear hb KF
  go_wp2_with fail
  refine (KF2.out).mono ?_
  rintro e w9 ⟨rfl, hb⟩
  replace HB := Lib.hid (bmore HB.out hb (Nat.le_refl _))
  replace HRM := Lib.hid (HRM.out.below hb)
  clear hb KF2
  go_wp2_with fail
  go_loopw [11, 12] (fun u i wr => ∃ k : Nat, k ≤ 201 ∧ i = .int .i64 k ∧ Below w9.heap.size w9 wr ∧ wr.ownsRow w9.heap.size 9 1 u k (tcx (List.replicate k t0))) (fun _ i _ => 201 - (intOf i).toNat)
  case atStart => exact ⟨0, by omega, rfl, Below.refl _ _, World.ownsRow_nil _ _ _ _⟩
  case round =>
    obtain ⟨k, hk, rfl, hB, hO⟩ := hrel
    have HBk := Lib.hid hB
    have HO := Lib.hid hO
    clear hB hO
    by_cases hlt : k < 201
    · have hr := (rd_row wr [.string t0] 9)
      have HRd := Lib.hid hr
      have HO1 := Lib.hid (own_below3 HO.out (show Below wr.heap.size wr (wr.alloc (.cells #[.string t0] 9)) from (Below.refl _ _).alloc (Nat.le_refl _) _))
      clear hr
      go_wp2_with (at_builtin; refine wpList_append_rd _ rfl _ _ 38 rfl w9.heap.size 9 i0 (.string ⟨#[]⟩) 16 Try.underlying38 hi hz0 hz1 hz2 rfl _ k _ rfl HO1.out _ 1 1 [.string t0] rfl HRd.out (by intro u hu; obtain rfl := List.mem_singleton.1 hu; rfl) (by unfold maxLen; omega) (by omega) (by have := HBk.out.size; simp; omega) ?_; intro v2 w10 hown2 hg2 hob2)
      have hb2 := below_row (HBk.out.alloc HBk.out.size (.cells #[.string t0] 9)) HO1.out (by have := HBk.out.size; simp; omega) hg2
      have ho2 : w10.ownsRow w9.heap.size 9 1 v2 (k + 1) (tcx (List.replicate (k + 1) t0)) := by rw [List.replicate_succ', show tcx (List.replicate k t0 ++ [t0]) = tcx (List.replicate k t0) ++ [.string t0] by simp [tcx]]; exact hown2
      clear hown2 hg2 hob2
      go_roundw
      case rel => exact ⟨k + 1, by omega, by go_num, hb2, ho2⟩
      case measure => simp [intOf]; omega
    · obtain rfl : k = 201 := by omega
      obtain ⟨L, cl, rfl, hTL⟩ := txIs_own HO.out (fun s hs => by obtain rfl := (List.mem_replicate.1 hs).2; exact HN.out.s0)
      obtain ⟨Lb, rfl⟩ : ∃ b, L = some ⟨b, 0, none⟩ := by
        obtain ⟨g, cap, hv, _⟩ := HO.out.form (by omega)
        injection hv with hv
        exact ⟨g, hv⟩
      have HTL := Lib.hid hTL
      replace HB := Lib.hid (bmore HB.out HBk.out (Nat.le_refl _))
      replace HRM := Lib.hid (HRM.out.below HBk.out)
      clear hTL HO HBk hlt hk
      have KM := Lib.hid (membersV pmem (.agg #[.slice none 0 0, .slice none 0 0]) [] [] none 0 0 [] 60 wr ⟨none, 0, none, 0, rfl, RowIs.none _, RowIs.none _⟩ (tx_none _) grp_nil)
      rw [if_neg (by decide), show mbz 60 [] [] [] = [] by rfl] at KM
      go_wp2_with fail
      refine (KM.out).mono ?_
      rintro e w10 ⟨vm2, rfl, _, hb⟩
      have r1 := LP.row_lit w10 #[.int .i64 2] [2] 1 rfl rfl (by omega)
      have HR := Lib.hid r1
      have hl := (show Below w10.heap.size w10 (w10.alloc (.cells #[.int .i64 2] 3)) from (Below.refl _ _).alloc (Nat.le_refl _) _)
      replace HB := Lib.hid (bmore (bmore HB.out hb (Nat.le_refl _)) hl (Nat.le_refl _))
      replace HRM := Lib.hid ((HRM.out.below hb).below hl)
      replace HTL := Lib.hid ((HTL.out.below hb).below hl)
      clear hb KM r1 hl
      go_wp2_with fail
      generalize w10.alloc (.cells #[.int .i64 2] 3) = w11 at HR HB HRM HTL ⊢
      refine (K2.out w11 _ HR.out).mono ?_
      rintro e w12 ⟨rfl, hb⟩
      have hl := (show Below w12.heap.size w12 (w12.alloc (.cells #[.string t0, .string t2] 9)) from (Below.refl _ _).alloc (Nat.le_refl _) _)
      have HT := Lib.hid (tx_lit w12 #[.string t0, .string t2] [t0, t2] 2 rfl rfl (by omega) (fun s hs => by
        rcases List.mem_cons.1 hs with rfl | hs
        · exact HN.out.s0
        · obtain rfl := List.mem_singleton.1 hs
          exact HN.out.s2))
      replace HB := Lib.hid (bmore (bmore HB.out hb (Nat.le_refl _)) hl (Nat.le_refl _))
      replace HRM := Lib.hid ((HRM.out.below hb).below hl)
      replace HTL := Lib.hid ((HTL.out.below hb).below hl)
      clear hb hl HR K2
      go_wp2_with fail
      generalize w12.alloc (.cells #[.string t0, .string t2] 9) = w13 at HT HB HRM HTL ⊢
      have KC := Lib.hid (commandsV _ 2 2 [t0, t2] w13 HT.out)
      rw [chk_two HN.out.e0 HN.out.e2, show csz [t0, t2] = [LM.cm t0, LM.cm t2] by unfold csz; rw [if_pos (chk_two HN.out.e0 HN.out.e2)]; rfl] at KC
      refine (KC.out).mono ?_
      rintro e w14 ⟨vc, rfl, hc, hb⟩
      obtain ⟨AA, ca, es, rfl, hes, hra⟩ := rw_of hc
      replace HB := Lib.hid (bmore HB.out hb (Nat.le_refl _))
      replace HRM := Lib.hid (HRM.out.below hb)
      replace HTL := Lib.hid (HTL.out.below hb)
      obtain ⟨el, hel, hk3⟩ : ∃ el, es[1]? = some el ∧ el.x.k = 3 := by
        have h1 : (es.map (fun e : El => e.x))[1]? = some (LM.cm t2) := by rw [hes]; rfl
        rw [List.getElem?_map] at h1
        obtain ⟨el, h2, h3⟩ := Option.map_eq_some_iff.1 h1
        exact ⟨el, h2, by rw [h3]; exact HN.out.k2⟩
      obtain ⟨bc, off, rfl, hbc, hat, _⟩ := hra 1 el hel
      have HC := Lib.hid (show ∀ W, Below w14.heap.size w14 W → W.cell? ⟨bc, off + 12, none⟩ = some (.int .u8 3) from fun W hW => by
        have := (hat.below hbc hW).1
        rw [hk3] at this
        simpa using this)
      simp only [List.length_cons, List.length_nil, Nat.reduceAdd]
      clear hb KC HT hc hes hra hel hk3 hat hbc
      have HX := Lib.hid (Below.refl w14.heap.size w14)
      go_wp2_with fail
      refine (alive13_any pmem w14).mono ?_
      rintro e w15 ⟨rfl, hb⟩
      have r1 := LP.row_lit w15 #[.int .i64 0, .int .i64 1, .int .i64 2] [0, 1, 2] 3 rfl rfl (by omega)
      have HR := Lib.hid r1
      have hl := (show Below w15.heap.size w15 (w15.alloc (.cells #[.int .i64 0, .int .i64 1, .int .i64 2] 3)) from (Below.refl _ _).alloc (Nat.le_refl _) _)
      replace HX := Lib.hid (bmore (bmore HX.out hb (Nat.le_refl _)) hl (Nat.le_refl _))
      replace HRM := Lib.hid ((HRM.out.below hb).below hl)
      replace HTL := Lib.hid ((HTL.out.below hb).below hl)
      clear hb hl r1
      go_wp2_with fail
      generalize w15.alloc (.cells #[.int .i64 0, .int .i64 1, .int .i64 2] 3) = w16 at HR HX HRM HTL ⊢
      refine (same_ints_any M _ cm 3 [0, 1, 2] [0, 1, 2] w16 HRM.out.1 HR.out.1 (by unfold maxLen; decide) (by unfold maxLen; decide)).mono ?_
      rintro e w17 ⟨rfl, hb⟩
      replace HX := Lib.hid (bmore HX.out hb (Nat.le_refl _))
      replace HTL := Lib.hid (HTL.out.below hb)
      clear hb HR HRM
      have KK := Lib.hid (pcheck13_any _ 201 cl (List.replicate 201 t0) w17 HTL.out)
      rw [chk_rep1] at KK
      have hc1 := HTL.out.2.1
      have hc2 : cl ≤ 9223372036854775807 := by have := HTL.out.2.2.1; unfold maxLen at this; omega
      go_wp2_with fail
      refine (KK.out).mono ?_
      rintro e w18 ⟨rfl, hb⟩
      replace HX := Lib.hid (bmore HX.out hb (Nat.le_refl _))
      replace HTL := Lib.hid (HTL.out.below hb)
      clear hb KK
      have KK := Lib.hid (pcheck13_any _ 200 cl (List.replicate 200 t0) w18 (tx_pre HTL.out))
      rw [chk_rep HN.out.e0] at KK
      go_wp2_with fail
      refine (KK.out).mono ?_
      rintro e w19 ⟨rfl, hb⟩
      have hl := (show Below w19.heap.size w19 (w19.alloc (.cells #[.string ⟨#[119, 104, 97, 116]⟩] 9)) from (Below.refl _ _).alloc (Nat.le_refl _) _)
      have HT := Lib.hid (tx_lit w19 #[.string ⟨#[119, 104, 97, 116]⟩] [⟨#[119, 104, 97, 116]⟩] 1 rfl rfl (by omega) (fun s hs => by
        obtain rfl := List.mem_singleton.1 hs
        unfold maxLen
        decide))
      replace HX := Lib.hid (bmore (bmore HX.out hb (Nat.le_refl _)) hl (Nat.le_refl _))
      clear hb hl KK HTL
      go_wp2_with fail
      generalize w19.alloc (.cells #[.string ⟨#[119, 104, 97, 116]⟩] 9) = w20 at HT HX ⊢
      have KK := Lib.hid (pcheck13_any _ 1 1 _ w20 HT.out)
      rw [chk_what] at KK
      refine (KK.out).mono ?_
      rintro e w21 ⟨rfl, hb⟩
      replace HX := Lib.hid (bmore HX.out hb (Nat.le_refl _))
      have hcc := HC.out _ HX.out
      clear hb KK
      go_wp2_with fail
      go_ret
      exact ⟨by rfl, bmore HB.out HX.out (Nat.le_refl _)⟩
end Go.Proofs.Ytodmpapfnilkoaa
