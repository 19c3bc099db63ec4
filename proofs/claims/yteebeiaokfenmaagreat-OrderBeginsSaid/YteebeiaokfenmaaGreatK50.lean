/-
  The example that the statements of layer 16 begin with: its messages, commands, logs. Conditions: as each theorem says.
  The example that the statements of layer 16 begin with holds. Conditions: none.
  The example that the statements of layer 16 begin with holds: what its second log delivers. Conditions: none.
  What laws of layer 16 ask of beginnings of rows, of logs. No walk.
-/
import Derived.Test.YteebeiaokfenmaaGreatK49
import Derived.Test.YteebeiaokfenmaaGreatK28
import Derived.Test.YteebeiaokfenmaaGreatK01
import Derived.Test.YteebeiaokfenmaaGreatK42
import Derived.Test.YteebeiaokfenmaaGreatK44
import Derived.Test.YteebeiaokfenmaaGreatK41
namespace Go.Proofs.YteebeiaokfenmaaGreat.KP
open Go.RowKit CP TP LP SP
open CM (Mg Cm)
open TM (Sp)
open KM (Wt Sk)
set_option linter.unusedVariables false
set_option linter.unusedSimpArgs false
set_option maxRecDepth 100000
/-- what a command is written as -/
def txt (c : Cm) : ByteArray := ⟨(CM.wr c).toArray⟩
theorem cm_txt {c : Cm} (h : CM.may c) : LM.cm (txt c) = c ∧ LM.er (txt c) = 0 := LM.cm_wr h rfl
def TxtIs (c : Cm) (w : World) (e : Ending) (w' : World) : Prop := e = .returned (.string (txt c)) ∧ Below w.heap.size w w'
theorem row_lit (w : World) (xs : Array Value) (l : List Int) (n : Nat) (hx : xs = (ic l).toArray) (hn : l.length = n) (hm : n ≤ 4096) : RowIs (w.alloc (.cells xs 3)) (some ⟨w.heap.size, 0, none⟩) n l := by
  subst hx
  subst hn
  have := rd_row w (ic l) 3
  rw [ic_length] at this
  exact ⟨this, Nat.le_refl _, by unfold maxLen; omega⟩
theorem tx_lit (w : World) (xs : Array Value) (l : List ByteArray) (n : Nat) (hx : xs = (tcx l).toArray) (hn : l.length = n) (hm : n ≤ 4096) (hs : ∀ s ∈ l, s.size ≤ maxLen) : TxIs (w.alloc (.cells xs 9)) (some ⟨w.heap.size, 0, none⟩) n n l := by
  subst hx
  subst hn
  have := rd_row w (tcx l) 9
  rw [tcx_len] at this
  exact ⟨this, Nat.le_refl _, by unfold maxLen; omega, hs⟩
theorem txt_size {c : Cm} (h : (CM.wr c).length ≤ 4096) : (txt c).size ≤ maxLen := by
  have e : (txt c).size = (CM.wr c).length := rfl
  rw [e]; unfold maxLen; omega
def mE : Mg := ⟨5, [0, 1], 0, ⟨#[]⟩, ⟨#[]⟩⟩
def nE : Mg := ⟨9, [1], 0, ⟨#[]⟩, ⟨#[]⟩⟩
def asgE (m : Mg) : Cm := ⟨1, m, 0, 0, [], 0, 0, 0⟩
def finE (id t : Int) : Cm := ⟨2, CM.mz, id, t, [], 0, 0, 0⟩
theorem may_asg {m : Mg} (h : CM.mgOk m) : CM.may (asgE m) := .inr (.inl ⟨rfl, h, rfl, rfl, rfl, rfl, rfl, rfl⟩)
theorem may_fin {id t : Int} (h : CM.idOk id) (ht : 1 ≤ t ∧ t ≤ 1073741824) : CM.may (finE id t) := .inr (.inr (.inl ⟨rfl, rfl, h, ht, rfl, rfl, rfl, rfl⟩))
theorem ok_m : CM.mgOk mE := by decide +kernel
theorem ok_n : CM.mgOk nE := by decide +kernel
set_option maxHeartbeats 1000000 in
theorem m16_any (w : World) : Calls Tryz.prog 12 #[] w fun e w' => ∃ v, e = .returned v ∧ MgIs w' v mE ∧ Below w.heap.size w w' := by
  have H1 := Lib.hid (show Below w.heap.size w ((w.alloc (.cells #[.int .i64 5, .slice (some ⟨w.heap.size + 1, 0, none⟩) 2 2, .int .i64 0, .string ⟨#[]⟩, .string ⟨#[]⟩] 33)).alloc (.cells #[.int .i64 0, .int .i64 1] 3)) from ((Below.refl _ _).alloc (Nat.le_refl _) _).alloc (by simp) _)
  have H2 := Lib.hid (show Box ((w.alloc (.cells #[.int .i64 5, .slice (some ⟨w.heap.size + 1, 0, none⟩) 2 2, .int .i64 0, .string ⟨#[]⟩, .string ⟨#[]⟩] 33)).alloc (.cells #[.int .i64 0, .int .i64 1] 3)) w.heap.size 33 #[.int .i64 5, .slice (some ⟨w.heap.size + 1, 0, none⟩) 2 2, .int .i64 0, .string ⟨#[]⟩, .string ⟨#[]⟩] from (Box.new _ _ _).alloc _)
  have H3 := Lib.hid (show RowIs ((w.alloc (.cells #[.int .i64 5, .slice (some ⟨w.heap.size + 1, 0, none⟩) 2 2, .int .i64 0, .string ⟨#[]⟩, .string ⟨#[]⟩] 33)).alloc (.cells #[.int .i64 0, .int .i64 1] 3)) (some ⟨w.heap.size + 1, 0, none⟩) 2 [0, 1] by
    have := row_lit (w.alloc (.cells #[.int .i64 5, .slice (some ⟨w.heap.size + 1, 0, none⟩) 2 2, .int .i64 0, .string ⟨#[]⟩, .string ⟨#[]⟩] 33)) #[.int .i64 0, .int .i64 1] [0, 1] 2 rfl rfl (by omega)
    rw [World.size_alloc] at this
    exact this)
  go_enter Tryz.func12, Tryz.ntmps12
  go_wp2_with fail
  obtain ⟨e0, e1, e2, e3, e4⟩ := box_mg H2.out
  exact bodyPost_ret (v := .agg #[.int .i64 5, .slice (some ⟨w.heap.size + 1, 0, none⟩) 2 2, .int .i64 0, .string ⟨#[]⟩, .string ⟨#[]⟩]) (by simp [results, Tryz.results12, go_sem, e0, e1, e2, e3, e4]) rfl
    ⟨_, rfl, ⟨_, 2, rfl, H3.out⟩, H1.out⟩
set_option maxHeartbeats 1000000 in
theorem n16_any (w : World) : Calls Tryz.prog 33 #[] w fun e w' => ∃ v, e = .returned v ∧ MgIs w' v nE ∧ Below w.heap.size w w' := by
  have H1 := Lib.hid (show Below w.heap.size w ((w.alloc (.cells #[.int .i64 9, .slice (some ⟨w.heap.size + 1, 0, none⟩) 1 1, .int .i64 0, .string ⟨#[]⟩, .string ⟨#[]⟩] 33)).alloc (.cells #[.int .i64 1] 3)) from ((Below.refl _ _).alloc (Nat.le_refl _) _).alloc (by simp) _)
  have H2 := Lib.hid (show Box ((w.alloc (.cells #[.int .i64 9, .slice (some ⟨w.heap.size + 1, 0, none⟩) 1 1, .int .i64 0, .string ⟨#[]⟩, .string ⟨#[]⟩] 33)).alloc (.cells #[.int .i64 1] 3)) w.heap.size 33 #[.int .i64 9, .slice (some ⟨w.heap.size + 1, 0, none⟩) 1 1, .int .i64 0, .string ⟨#[]⟩, .string ⟨#[]⟩] from (Box.new _ _ _).alloc _)
  have H3 := Lib.hid (show RowIs ((w.alloc (.cells #[.int .i64 9, .slice (some ⟨w.heap.size + 1, 0, none⟩) 1 1, .int .i64 0, .string ⟨#[]⟩, .string ⟨#[]⟩] 33)).alloc (.cells #[.int .i64 1] 3)) (some ⟨w.heap.size + 1, 0, none⟩) 1 [1] by
    have := row_lit (w.alloc (.cells #[.int .i64 9, .slice (some ⟨w.heap.size + 1, 0, none⟩) 1 1, .int .i64 0, .string ⟨#[]⟩, .string ⟨#[]⟩] 33)) #[.int .i64 1] [1] 1 rfl rfl (by omega)
    rw [World.size_alloc] at this
    exact this)
  go_enter Tryz.func33, Tryz.ntmps33
  go_wp2_with fail
  obtain ⟨e0, e1, e2, e3, e4⟩ := box_mg H2.out
  exact bodyPost_ret (v := .agg #[.int .i64 9, .slice (some ⟨w.heap.size + 1, 0, none⟩) 1 1, .int .i64 0, .string ⟨#[]⟩, .string ⟨#[]⟩]) (by simp [results, Tryz.results33, go_sem, e0, e1, e2, e3, e4]) rfl
    ⟨_, rfl, ⟨_, 1, rfl, H3.out⟩, H1.out⟩
set_option maxHeartbeats 1000000 in
theorem assign16_any (v : Value) (m : Mg) (w : World) (h : MgIs w v m) (hm : CM.mgOk m) : Calls Tryz.prog 32 #[v] w (TxtIs (asgE m) w) := by
  obtain ⟨A, c, rfl, hr⟩ := h
  have HR := Lib.hid (fun W (hb : Below w.heap.size w W) => hr.below hb)
  obtain ⟨t, ht⟩ : ∃ t, t = txt (asgE m) := ⟨_, rfl⟩
  obtain ⟨cc, hcc⟩ : ∃ cc, cc = asgE m := ⟨_, rfl⟩
  have hmay := may_asg hm
  have hfit := (cm_fit hmay).1
  rw [← hcc] at ht hmay hfit
  have HM := Lib.hid hmay
  have HF := Lib.hid hfit
  unfold TxtIs
  rw [← hcc, ← ht]
  have HT := Lib.hid ht
  have HCC := Lib.hid hcc
  clear hr hm hmay hfit ht hcc
  obtain ⟨ai, ag, at_, ak, ab⟩ := m
  unfold mcells
  simp only at HR ⊢
  have KW := Lib.hid (fun W (hb : Below w.heap.size w W) => show Calls Tryz.prog 42 #[.agg #[.int .u8 1, .int .i64 ai, .slice A ag.length c, .int .i64 at_, .string ak, .string ab, .int .i64 0, .int .i64 0, .slice none 0 0, .int .i64 0, .int .i64 0, .int .i64 0]] W (fun e w' => e = .returned (.tuple #[.string t, .int .i64 0]) ∧ Below W.heap.size W w') from by
    have := pwrite_any cc (.agg #[.int .u8 1, .int .i64 ai, .slice A ag.length c, .int .i64 at_, .string ak, .string ab, .int .i64 0, .int .i64 0, .slice none 0 0, .int .i64 0, .int .i64 0, .int .i64 0]) W
      ⟨A, c, none, 0, by rw [HCC.out]; rfl, by rw [HCC.out]; exact HR.out W hb, by rw [HCC.out]; exact RowIs.none _⟩ HF.out
    unfold WrIs at this
    rw [if_pos HM.out, if_pos HM.out] at this
    rw [HT.out]
    exact this)
  have HB := Lib.hid (show Below w.heap.size w (w.alloc (.cells #[.int .i64 ai, .slice A ag.length c, .int .i64 at_, .string ak, .string ab] 33)) from (Below.refl _ _).alloc (Nat.le_refl _) _)
  have X := Lib.hid (Box.new w 33 #[.int .i64 ai, .slice A ag.length c, .int .i64 at_, .string ak, .string ab])
  go_enter Tryz.func32, Tryz.ntmps32
  go_upto_region 1 with (fail)
  generalize w.alloc (.cells #[.int .i64 ai, .slice A ag.length c, .int .i64 at_, .string ak, .string ab] 33) = w1 at HB X ⊢
  generalize w.heap.size = g1 at X ⊢
  obtain ⟨e0, e1, e2, e3, e4⟩ := box_mg X.out
  go_wp2_with fail
  refine (KW.out _ HB.out).mono ?_
  rintro e w2 ⟨rfl, hb⟩
  have HB2 := Lib.hid (bmore HB.out hb (Nat.le_refl _))
  clear hb KW e0 e1 e2 e3 e4
  go_wp2_with fail
  go_ret
  exact ⟨rfl, HB2.out⟩
set_option maxHeartbeats 1000000 in
theorem final16_any (id t : Int) (w : World) (h : CM.idOk id) (ht : 1 ≤ t ∧ t ≤ 1073741824) : Calls Tryz.prog 15 #[.int .i64 id, .int .i64 t] w (TxtIs (finE id t) w) := by
  have KW := Lib.hid (show Calls Tryz.prog 42 #[.agg #[.int .u8 2, .int .i64 0, .slice none 0 0, .int .i64 0, .string ⟨#[]⟩, .string ⟨#[]⟩, .int .i64 id, .int .i64 t, .slice none 0 0, .int .i64 0, .int .i64 0, .int .i64 0]] w (fun e w' => e = .returned (.tuple #[.string (txt (finE id t)), .int .i64 0]) ∧ Below w.heap.size w w') from by
    have := pwrite_any (finE id t) (.agg #[.int .u8 2, .int .i64 0, .slice none 0 0, .int .i64 0, .string ⟨#[]⟩, .string ⟨#[]⟩, .int .i64 id, .int .i64 t, .slice none 0 0, .int .i64 0, .int .i64 0, .int .i64 0]) w
      ⟨none, 0, none, 0, rfl, RowIs.none _, RowIs.none _⟩ (cm_fit (may_fin h ht)).1
    unfold WrIs at this
    rw [if_pos (may_fin h ht), if_pos (may_fin h ht)] at this
    exact this)
  unfold TxtIs
  generalize txt (finE id t) = s at KW ⊢
  clear h ht
  go_enter Tryz.func15, Tryz.ntmps15
  go_wp2_with fail
  refine (KW.out).mono ?_
  rintro e w1 ⟨rfl, hb⟩
  have HB := Lib.hid hb
  clear hb KW
  go_wp2_with fail
  go_ret
  exact ⟨rfl, HB.out⟩
/-- the example's logs -/
def lE0 : List ByteArray := [txt (asgE mE), txt (finE 5 2)]
def lE1 : List ByteArray := [txt (asgE nE), txt (asgE mE), txt (finE 9 1), txt (finE 5 2)]
theorem may_52 : CM.may (finE 5 2) := may_fin (by decide) (by decide)
theorem may_91 : CM.may (finE 9 1) := may_fin (by decide) (by decide)
theorem sz_m : (txt (asgE mE)).size ≤ maxLen := txt_size (by decide +kernel)
theorem sz_n : (txt (asgE nE)).size ≤ maxLen := txt_size (by decide +kernel)
theorem sz_52 : (txt (finE 5 2)).size ≤ maxLen := txt_size (by decide +kernel)
theorem sz_91 : (txt (finE 9 1)).size ≤ maxLen := txt_size (by decide +kernel)
theorem sz0 : ∀ s ∈ lE0, s.size ≤ maxLen := fun s hs => by
  unfold lE0 at hs
  simp only [List.mem_cons, List.not_mem_nil, or_false] at hs
  rcases hs with rfl | rfl
  · exact sz_m
  · exact sz_52
theorem sz1 : ∀ s ∈ lE1, s.size ≤ maxLen := fun s hs => by
  unfold lE1 at hs
  simp only [List.mem_cons, List.not_mem_nil, or_false] at hs
  rcases hs with rfl | rfl | rfl | rfl
  · exact sz_n
  · exact sz_m
  · exact sz_91
  · exact sz_52
theorem cmds0 : LM.cmds lE0 = [asgE mE, finE 5 2] := by
  show [LM.cm (txt (asgE mE)), LM.cm (txt (finE 5 2))] = _
  rw [(cm_txt (may_asg ok_m)).1, (cm_txt may_52).1]
theorem cmds1 : LM.cmds lE1 = [asgE nE, asgE mE, finE 9 1, finE 5 2] := by
  show [LM.cm (txt (asgE nE)), LM.cm (txt (asgE mE)), LM.cm (txt (finE 9 1)), LM.cm (txt (finE 5 2))] = _
  rw [(cm_txt (may_asg ok_n)).1, (cm_txt (may_asg ok_m)).1, (cm_txt may_91).1, (cm_txt may_52).1]
theorem chk0 : LM.chk lE0 = 0 := LM.chk_zero.2 ⟨by decide, fun s hs => by
  unfold lE0 at hs
  simp only [List.mem_cons, List.not_mem_nil, or_false] at hs
  rcases hs with rfl | rfl
  · exact (cm_txt (may_asg ok_m)).2
  · exact (cm_txt may_52).2⟩
theorem chk1 : LM.chk lE1 = 0 := LM.chk_zero.2 ⟨by decide, fun s hs => by
  unfold lE1 at hs
  simp only [List.mem_cons, List.not_mem_nil, or_false] at hs
  rcases hs with rfl | rfl | rfl | rfl
  · exact (cm_txt (may_asg ok_n)).2
  · exact (cm_txt (may_asg ok_m)).2
  · exact (cm_txt may_91).2
  · exact (cm_txt may_52).2⟩
end Go.Proofs.YteebeiaokfenmaaGreat.KP

namespace Go.Proofs.YteebeiaokfenmaaGreat.KP
open Go.RowKit CP TP LP SP
open CM (Mg Cm)
open TM (Sp)
open KM (Wt Sk)
set_option linter.unusedVariables false
set_option linter.unusedSimpArgs false
set_option maxRecDepth 100000
/-- two rows of texts, just laid -/
theorem logs_two {w w' : World} {B1 B2 : Option Addr} {l1 l2 : List ByteArray} {n1 n2 c1 c2 : Nat} (xs : Array Value) (h1 : TxIs w B1 n1 c1 l1) (h2 : TxIs w B2 n2 c2 l2) (hx : xs = #[.slice B1 n1 c1, .slice B2 n2 c2]) (hw : w' = w.alloc (.cells xs 26)) : LogsIs w' (some ⟨w.heap.size, 0, none⟩) 2 2 [l1, l2] := by
  subst hx hw
  have hal : Below w.heap.size w (w.alloc (.cells #[.slice B1 n1 c1, .slice B2 n2 c2] 26)) := (Below.refl _ _).alloc (Nat.le_refl _) _
  have e1 := h1.len
  have e2 := h2.len
  have hr := rd_row w [.slice B1 n1 c1, .slice B2 n2 c2] 26
  refine ⟨[.slice B1 n1 c1, .slice B2 n2 c2], hr, ⟨rfl, fun i l hi => ?_⟩, rfl, Nat.le_refl _, by unfold maxLen; omega⟩
  match i, hi with
  | 0, hi =>
    simp at hi
    subst hi
    refine ⟨B1, c1, by rw [e1]; rfl, by rw [e1]; exact h1.1.below hal, by rw [e1]; exact h1.2.1, h1.2.2.1⟩
  | 1, hi =>
    simp at hi
    subst hi
    refine ⟨B2, c2, by rw [e2]; rfl, by rw [e2]; exact h2.1.below hal, by rw [e2]; exact h2.2.1, h2.2.2.1⟩
  | i + 2, hi => simp at hi
def BothQ (L : List (List ByteArray)) (w : World) (e : Ending) (w' : World) : Prop := ∃ q : Nat, e = .returned (.slice (some ⟨q, 0, none⟩) 2 2) ∧ LogsIs w' (some ⟨q, 0, none⟩) 2 2 L ∧ Below w.heap.size w w'
set_option maxHeartbeats 4000000 in
theorem both16_any (w : World) : Calls Tryz.prog 10 #[] w (BothQ [lE0, lE1] w) := by
  have KM := Lib.hid (fun v W (h : MgIs W v mE) => assign16_any v mE W h ok_m)
  have KN := Lib.hid (fun v W (h : MgIs W v nE) => assign16_any v nE W h ok_n)
  have K52 := Lib.hid (fun W => final16_any 5 2 W (by decide) (by decide))
  have K91 := Lib.hid (fun W => final16_any 9 1 W (by decide) (by decide))
  have S0 := Lib.hid sz0
  have S1 := Lib.hid sz1
  unfold lE0 lE1 at *
  unfold TxtIs at KM KN K52 K91
  generalize txt (asgE mE) = sm at *
  generalize txt (asgE nE) = sn at *
  generalize txt (finE 5 2) = s5 at *
  generalize txt (finE 9 1) = s9 at *
  go_enter Tryz.func10, Tryz.ntmps10
  go_wp2_with fail
  refine (m16_any w).mono ?_
  rintro e w1 ⟨v, rfl, hm, hb⟩
  have HM := Lib.hid hm
  have HB := Lib.hid hb
  clear hm hb
  go_wp2_with fail
  refine (KM.out v w1 HM.out).mono ?_
  rintro e w2 ⟨rfl, hb⟩
  replace HB := Lib.hid (bmore HB.out hb (Nat.le_refl _))
  clear hb HM
  go_wp2_with fail
  refine (K52.out w2).mono ?_
  rintro e w3 ⟨rfl, hb⟩
  have R0 := Lib.hid (tx_lit w3 #[.string sm, .string s5] [sm, s5] 2 rfl rfl (by omega) S0.out)
  replace HB := Lib.hid (bmore (bmore HB.out hb (Nat.le_refl _)) ((Below.refl w3.heap.size w3).alloc (Nat.le_refl _) (.cells #[.string sm, .string s5] 9)) (Nat.le_refl _))
  clear hb
  go_wp2_with fail
  generalize w3.alloc (.cells #[.string sm, .string s5] 9) = w4 at R0 HB ⊢
  generalize w3.heap.size = g3 at R0 ⊢
  refine (n16_any w4).mono ?_
  rintro e w5 ⟨v5, rfl, hm, hb⟩
  have HM := Lib.hid hm
  replace R0 := Lib.hid (R0.out.below hb)
  replace HB := Lib.hid (bmore HB.out hb (Nat.le_refl _))
  clear hm hb
  go_wp2_with fail
  refine (KN.out v5 w5 HM.out).mono ?_
  rintro e w6 ⟨rfl, hb⟩
  replace R0 := Lib.hid (R0.out.below hb)
  replace HB := Lib.hid (bmore HB.out hb (Nat.le_refl _))
  clear hb HM
  go_wp2_with fail
  refine (m16_any w6).mono ?_
  rintro e w7 ⟨v7, rfl, hm, hb⟩
  have HM := Lib.hid hm
  replace R0 := Lib.hid (R0.out.below hb)
  replace HB := Lib.hid (bmore HB.out hb (Nat.le_refl _))
  clear hm hb
  go_wp2_with fail
  refine (KM.out v7 w7 HM.out).mono ?_
  rintro e w8 ⟨rfl, hb⟩
  replace R0 := Lib.hid (R0.out.below hb)
  replace HB := Lib.hid (bmore HB.out hb (Nat.le_refl _))
  clear hb HM
  go_wp2_with fail
  refine (K91.out w8).mono ?_
  rintro e w9 ⟨rfl, hb⟩
  replace R0 := Lib.hid (R0.out.below hb)
  replace HB := Lib.hid (bmore HB.out hb (Nat.le_refl _))
  clear hb
  go_wp2_with fail
  refine (K52.out w9).mono ?_
  rintro e wa ⟨rfl, hb⟩
  have hal := (Below.refl wa.heap.size wa).alloc (Nat.le_refl _) (.cells #[.string sn, .string sm, .string s9, .string s5] 9)
  have R1 := Lib.hid (tx_lit wa #[.string sn, .string sm, .string s9, .string s5] [sn, sm, s9, s5] 4 rfl rfl (by omega) S1.out)
  replace R0 := Lib.hid ((R0.out.below hb).below hal)
  replace HB := Lib.hid (bmore (bmore HB.out hb (Nat.le_refl _)) hal (Nat.le_refl _))
  clear hb hal
  obtain ⟨ga, hga⟩ : ∃ ga, wa.heap.size = ga := ⟨_, rfl⟩
  obtain ⟨wb, hwb⟩ : ∃ wb, wb = wa.alloc (.cells #[.string sn, .string sm, .string s9, .string s5] 9) := ⟨_, rfl⟩
  have hsz : wb.heap.size = ga + 1 := by rw [hwb, World.size_alloc, hga]
  rw [← hwb, hga] at R1
  rw [← hwb] at R0 HB
  have HF := Lib.hid (show BothQ [[sm, s5], [sn, sm, s9, s5]] w (.returned (.slice (some ⟨ga + 1, 0, none⟩) 2 2)) (wb.alloc (.cells #[.slice (some ⟨g3, 0, none⟩) 2 2, .slice (some ⟨ga, 0, none⟩) 4 4] 26)) from by
    have := logs_two _ R0.out R1.out rfl rfl
    rw [hsz] at this
    exact ⟨_, rfl, this, bmore HB.out ((Below.refl _ _).alloc (Nat.le_refl _) _) (Nat.le_refl _)⟩)
  rw [hwb] at HF
  clear hwb hsz
  go_wp2_with fail
  go_ret
  exact HF.out
end Go.Proofs.YteebeiaokfenmaaGreat.KP

namespace Go.Proofs.YteebeiaokfenmaaGreat.KP
open Go.RowKit CP TP LP SP
open CM (Mg Cm)
open TM (Sp)
open KM (Wt Sk)
set_option linter.unusedVariables false
set_option linter.unusedSimpArgs false
set_option maxRecDepth 100000
def S1E : Sk := ⟨2, [], [⟨1, 9⟩, ⟨2, 5⟩]⟩
theorem play1E : OM.play 1 [asgE nE, asgE mE, finE 9 1, finE 5 2] = (S1E, [nE, mE], [(1, nE), (2, mE)]) := by decide +kernel
theorem play0E : OM.play 0 [asgE mE, finE 5 2] = (⟨2, [], [⟨2, 5⟩]⟩, [mE], [(1, mE)]) := by decide +kernel
theorem playR1 : playR 1 lE1 = (S1E, [nE, mE], 0) := by
  have h : asked 1 lE1 = 0 := by unfold asked; rw [if_pos (by decide), chk1]
  unfold playR
  rw [if_pos h, cmds1, play1E]
theorem playR0 : playR 0 lE0 = (⟨2, [], [⟨2, 5⟩]⟩, [mE], 0) := by
  have h : asked 0 lE0 = 0 := by unfold asked; rw [if_pos (by decide), chk0]
  unfold playR
  rw [if_pos h, cmds0, play0E]
set_option maxHeartbeats 4000000 in
theorem alive16_any (w : World) : Calls Tryz.prog 16 #[] w (IsB true w) := by
  have KB := Lib.hid (both16_any w)
  unfold BothQ at KB
  go_enter Tryz.func16, Tryz.ntmps16
  go_wp2_with fail
  refine (KB.out).mono ?_
  rintro e w1 ⟨qb, rfl, hl, hb⟩
  obtain ⟨ad, B, d, e0, _, q1, q2, q3, q4⟩ := logs_get hl (show [lE0, lE1][1]? = some lE1 from rfl)
  injection e0 with e0
  subst e0
  have eq1 : (⟨qb, 0, none⟩ : Addr).add 1 = ⟨qb, 1, none⟩ := by unfold Addr.add; split <;> simp_all
  rw [eq1] at q1
  have HP := Lib.hid (pplay16_any 1 B lE1.length d lE1 w1 ⟨q2, q3, q4, sz1⟩)
  rw [playR1] at HP
  have HB := Lib.hid hb
  have e4 : lE1.length = 4 := rfl
  rw [e4] at q1 HP
  clear hl hb q2 q3 q4 KB eq1
  go_wp2_with fail
  refine (HP.out).mono ?_
  rintro e w2 ⟨v, vm, rfl, ⟨vw, vd, rfl, k1, k2⟩, km, hb⟩
  obtain ⟨A4, c4, rfl, _⟩ := k1.g
  obtain ⟨B4, d4, rfl, k3, k4⟩ := own_form k2
  obtain ⟨C4, e4', rfl, kg⟩ := km.g
  have hs : SpsIs w2 B4 2 d4 [⟨1, 9⟩, ⟨2, 5⟩] := ⟨rdg_own k2, rfl, k3, k4⟩
  obtain ⟨bl, o, E0, f0, rfl, _, hbl, ⟨x0, _⟩, _⟩ := mgs_at kg.r (show [nE, mE][0]? = some nE from rfl)
  obtain ⟨bl', o', E1, f1, e5, _, _, ⟨x1, _⟩, _⟩ := mgs_at kg.r (show [nE, mE][1]? = some mE from rfl)
  injection e5 with e5
  injection e5 with e5 e6 _
  subst e5 e6
  obtain ⟨b2, o2, rfl, _, hb2, y0, y1⟩ := hs.at_ (show ([⟨1, 9⟩, ⟨2, 5⟩] : List Sp)[1]? = some ⟨2, 5⟩ from rfl)
  have HB2 := Lib.hid (bmore HB.out hb (Nat.le_refl _))
  unfold vsk
  simp only [S1E, List.length_nil, List.length_cons] at *
  have hal : Below w2.heap.size w2 (w2.alloc (.cells #[.int .i64 2, .slice A4 0 c4, .slice (some ⟨b2, o2, none⟩) 2 d4] 39)) := (Below.refl _ _).alloc (Nat.le_refl _) _
  have X := Lib.hid (Box.new w2 39 #[.int .i64 2, .slice A4 0 c4, .slice (some ⟨b2, o2, none⟩) 2 d4])
  have z0 := (hal.cell (p := ⟨bl, o + 0 * 5, none⟩) hbl).trans x0
  have z1 := (hal.cell (p := ⟨bl, o + 1 * 5, none⟩) hbl).trans x1
  have z2 := (hal.cell (p := ⟨b2, o2 + 1 * 2, none⟩) hb2).trans y0
  have z3 := (hal.cell (p := ⟨b2, o2 + 1 * 2 + 1, none⟩) hb2).trans y1
  have HB3 := Lib.hid (bmore HB2.out hal (Nat.le_refl _))
  clear x0 x1 y0 y1 hb hal k1 k2 km kg hs HP q1 hbl hb2
  go_upto_region 2 with (fail)
  generalize w2.alloc (.cells #[.int .i64 2, .slice A4 0 c4, .slice (some ⟨b2, o2, none⟩) 2 d4] 39) = w3 at X z0 z1 z2 z3 HB3 ⊢
  generalize w2.heap.size = g2 at X ⊢
  obtain ⟨u0, u1, u2⟩ := box_sk X.out
  unfold nE at z0
  unfold mE at z1
  simp at z0 z1 z2 z3
  trace_state
  go_wp2_with fail
  go_ret
  exact ⟨rfl, HB3.out⟩
end Go.Proofs.YteebeiaokfenmaaGreat.KP

namespace Go.Proofs.YteebeiaokfenmaaGreat.KP
open Go.RowKit CP TP LP SP
open CM (Mg Cm)
open TM (Sp)
open KM (Wt Sk)
set_option linter.unusedVariables false
set_option linter.unusedSimpArgs false
theorem tx_cut {w : World} {A : Option Addr} {n c k : Nat} {l : List ByteArray} (h : TxIs w A n c l) (hk : k ≤ n) : TxIs w A k c (l.take k) := by
  have hl := h.len
  obtain ⟨⟨h1, h2⟩, h3, h4, h5⟩ := h
  have e : tcx (l.take k) = (tcx l).take k := by unfold tcx; rw [List.map_take]
  refine ⟨⟨by rw [tcx_len, List.length_take]; omega, fun hp => ?_⟩, by omega, h4, fun s hs => h5 s (List.mem_of_mem_take hs)⟩
  obtain ⟨ad, ea, hb, hc⟩ := h2 (by omega)
  refine ⟨ad, ea, hb, fun j u hu => hc j u ?_⟩
  rw [e, List.getElem?_take] at hu
  split at hu
  · exact hu
  · cases hu
theorem kr_cut {α : Type} {K : Kd α} {w : World} {A : Option Addr} {n c k : Nat} {l : List α} (h : KR K w A n c l) (hk : k ≤ n) : KR K w A k c (l.take k) := by
  obtain ⟨es, h1, ⟨h2, h3⟩, h4, h5, h6, h7⟩ := h
  have he : flat (exc K) (es.take k) = (flat (exc K) es).take (k * K.s) := (flat_cut (f := exc K) (s := K.s) es k (exc_len K es)).symm
  have hl : (es.take k).length = k := by rw [List.length_take]; omega
  refine ⟨es.take k, by rw [List.map_take, h1], ⟨by rw [flat_exc, hl], fun hp => ?_⟩, hl, by omega, h6, fun e he => h7 e (List.mem_of_mem_take he)⟩
  have hs := K.pos
  obtain ⟨ad, ea, hb, hc⟩ := h3 (by omega)
  refine ⟨ad, ea, hb, fun j u hu => hc j u ?_⟩
  rw [he, List.getElem?_take] at hu
  split at hu
  · exact hu
  · cases hu
theorem logs_one {w : World} {B : Option Addr} {l : List ByteArray} {n c : Nat} (h : TxIs w B n c l) : LogsIs (w.alloc (.cells #[.slice B n c] 26)) (some ⟨w.heap.size, 0, none⟩) 1 1 [l] := by
  have hal : Below w.heap.size w (w.alloc (.cells #[.slice B n c] 26)) := (Below.refl _ _).alloc (Nat.le_refl _) _
  have e1 := h.len
  have hr := rd_row w [.slice B n c] 26
  refine ⟨[.slice B n c], hr, ⟨rfl, fun i l' hi => ?_⟩, rfl, Nat.le_refl _, by unfold maxLen; omega⟩
  match i, hi with
  | 0, hi =>
    simp at hi
    subst hi
    exact ⟨B, c, by rw [e1]; rfl, by rw [e1]; exact h.1.below hal, by rw [e1]; exact h.2.1, h.2.2.1⟩
  | i + 1, hi => simp at hi
theorem playR_err (g : Int) (l : List ByteArray) : (playR g l).2.2 = asked g l := by
  unfold playR
  by_cases h : asked g l = 0
  · rw [if_pos h, h]
  · rw [if_neg h]
theorem asked_take {g : Int} {l : List ByteArray} (h : asked g l = 0) (k : Nat) : asked g (l.take k) = 0 := by
  obtain ⟨hg, hc⟩ := asked_zero h
  unfold asked
  rw [if_pos hg]
  have := LM.chk_zero.1 hc
  exact LM.chk_zero.2 ⟨by rw [List.length_take]; omega, fun s hs => this.2 s (List.mem_of_mem_take hs)⟩
theorem play_begins {g : Int} {l : List ByteArray} (h : asked g l = 0) (k : Nat) : OM.Bg (OM.play g (LM.cmds (l.take k))) (OM.play g (LM.cmds l)) := by
  obtain ⟨hg, hc⟩ := asked_zero h
  have e : LM.cmds l = LM.cmds (l.take k) ++ (LM.cmds l).drop k := by
    unfold LM.cmds
    rw [List.map_take, List.take_append_drop]
  have := OM.begins (a := LM.cmds (l.take k)) (b := (LM.cmds l).drop k) hg (by rw [← e]; exact (log_may hc).1)
  rwa [← e] at this
/-- what a beginning makes begins what all of it makes -/
theorem begin_all {g : Int} {l : List ByteArray} (h : asked g l = 0) (k : Nat) :
    (playR g (l.take k)).2.1.length ≤ (playR g l).2.1.length ∧ (playR g l).2.1.take (playR g (l.take k)).2.1.length = (playR g (l.take k)).2.1 ∧
    (playR g (l.take k)).1.ds.length ≤ (playR g l).1.ds.length ∧ (playR g l).1.ds.take (playR g (l.take k)).1.ds.length = (playR g (l.take k)).1.ds ∧
    (playR g (l.take k)).1.c ≤ (playR g l).1.c ∧ (locS g (l.take k)).length ≤ (locS g l).length ∧ (locS g l).take (locS g (l.take k)).length = locS g (l.take k) := by
  have h2 := asked_take h k
  obtain ⟨⟨D, d⟩, ⟨O, o⟩, ⟨T, t⟩, c⟩ := play_begins h k
  unfold playR locS
  rw [if_pos h, if_pos h2, if_pos h, if_pos h2]
  simp only
  rw [d, o, t]
  unfold stps
  refine ⟨by rw [List.length_append]; omega, List.take_left, by rw [List.length_append]; omega, List.take_left, c, by rw [List.length_map, List.length_map, List.length_append]; omega, ?_⟩
  rw [List.map_append]
  exact List.take_left
end Go.Proofs.YteebeiaokfenmaaGreat.KP
