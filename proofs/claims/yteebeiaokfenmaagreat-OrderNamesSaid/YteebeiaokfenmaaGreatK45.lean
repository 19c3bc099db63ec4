/-
  What the walk of OrderNames stands on: the example's logs, in blocks known whole, and what is answered of them. Conditions: as each theorem says.
-/
import Derived.Test.YteebeiaokfenmaaGreatK01
import Derived.Test.YteebeiaokfenmaaGreatK39
import Derived.Test.YteebeiaokfenmaaGreatK40
namespace Go.Proofs.YteebeiaokfenmaaGreat.KP
open Go.RowKit CP TP LP SP
open CM (Mg Cm)
open TM (Sp)
open KM (Wt Sk)
set_option linter.unusedVariables false
set_option linter.unusedSimpArgs false
set_option maxRecDepth 100000
theorem tx_box {W : World} {g : Nat} {l : List ByteArray} {xs : Array Value} (h : Box W g 9 xs) (hx : xs.toList = tcx l) (hm : l.length ≤ 4096) : Rd W (some ⟨g, 0, none⟩) l.length (tc l) := by
 have hr := rdG_box (s := 1) (n := l.length) h hx (by rw [tcx_len]; omega)
 exact ⟨by rw [tc_length], hr.2⟩
structure Bx2 (W : World) (q g0 ga : Nat) (a b c d e f : ByteArray) : Prop where
 bq : Box W q 26 #[.slice (some ⟨g0, 0, none⟩) 2 2, .slice (some ⟨ga, 0, none⟩) 4 4]
 b0 : Box W g0 9 #[.string a, .string b]
 b1 : Box W ga 9 #[.string c, .string d, .string e, .string f]
section
variable {W W' : World} {q g0 ga : Nat} {a b c d e f : ByteArray}
theorem Bx2.below (h : Bx2 W q g0 ga a b c d e f) (hb : Below W.heap.size W W') : Bx2 W' q g0 ga a b c d e f := ⟨h.bq.below hb h.bq.lt, h.b0.below hb h.b0.lt, h.b1.below hb h.b1.lt⟩
theorem Bx2.logs (h : Bx2 W q g0 ga a b c d e f) : LogsIs W (some ⟨q, 0, none⟩) 2 2 [[a, b], [c, d, e, f]] := by
 have hr := rdG_box (s := 1) (n := 2) h.bq (xs := [.slice (some ⟨g0, 0, none⟩) 2 2, .slice (some ⟨ga, 0, none⟩) 4 4]) rfl rfl
 refine ⟨_, ⟨rfl, hr.2⟩, ⟨rfl, fun i l hi => ?_⟩, rfl, Nat.le_refl _, by unfold maxLen; omega⟩
 match i, hi with
 | 0, hi =>
  simp at hi
  subst hi
  exact ⟨_, 2, rfl, tx_box h.b0 (l := [a, b]) rfl (by simp), by simp, by unfold maxLen; omega⟩
 | 1, hi =>
  simp at hi
  subst hi
  exact ⟨_, 4, rfl, tx_box h.b1 (l := [c, d, e, f]) rfl (by simp), by simp, by unfold maxLen; omega⟩
 | i + 2, hi => simp at hi
theorem Bx2.put (h : Bx2 W q g0 ga a b c d e f) (h1 : q ≠ g0) (h2 : ga ≠ g0) (z : ByteArray) : Bx2 (W.setCell ⟨g0, 1, none⟩ (.string z)) q g0 ga a z c d e f :=
 ⟨(Below.heap_setCell _ ⟨g0, 1, none⟩ _ q h1).trans h.bq, h.b0.stored 1 _, (Below.heap_setCell _ ⟨g0, 1, none⟩ _ ga h2).trans h.b1⟩
end
def BoB (a b c d e f : ByteArray) (w : World) (x : Ending) (w' : World) : Prop := ∃ q g0 ga : Nat, x = .returned (.slice (some ⟨q, 0, none⟩) 2 2) ∧ w.heap.size ≤ g0 ∧ q ≠ g0 ∧ ga ≠ g0 ∧ Bx2 w' q g0 ga a b c d e f ∧ Below w.heap.size w w'
set_option maxHeartbeats 4000000 in
theorem bothB_any (w : World) : Calls Tryz.prog 10 #[] w (BoB (txt (asgE mE)) (txt (finE 5 2)) (txt (asgE nE)) (txt (asgE mE)) (txt (finE 9 1)) (txt (finE 5 2)) w) := by
 have KM := h! (fun v W (h : MgIs W v mE) => assign16_any v mE W h ok_m)
 have KN := h! (fun v W (h : MgIs W v nE) => assign16_any v nE W h ok_n)
 have K52 := h! (fun W => final16_any 5 2 W (by decide) (by decide))
 have K91 := h! (fun W => final16_any 9 1 W (by decide) (by decide))
 unfold TxtIs at KM KN K52 K91
 generalize txt (asgE mE) = sm at *
 generalize txt (asgE nE) = sn at *
 generalize txt (finE 5 2) = s5 at *
 generalize txt (finE 9 1) = s9 at *
 go_enter Tryz.func10, Tryz.ntmps10
 go_wp2_with fail
 refine (m16_any w).mono ?_
 rintro e w1 ⟨v, rfl, hm, hb⟩
 have HM := h! hm
 have HB := h! hb
 clear hm hb
 go_wp2_with fail
 refine (KM.out v w1 HM.out).mono ?_
 rintro e w2 ⟨rfl, hb⟩
 replace HB := h! (bmore HB.out hb n!)
 clear hb HM
 go_wp2_with fail
 refine (K52.out w2).mono ?_
 rintro e w3 ⟨rfl, hb⟩
 have R0 := h! (Box.new w3 9 #[.string sm, .string s5])
 have HG3 := h! (bmore HB.out hb n!).size
 replace HB := h! (bmore (bmore HB.out hb n!) ((Below.refl w3.heap.size w3).alloc n! (.cells #[.string sm, .string s5] 9)) n!)
 clear hb
 go_wp2_with fail
 generalize w3.alloc (.cells #[.string sm, .string s5] 9) = w4 at R0 HB ⊢
 generalize w3.heap.size = g3 at R0 HG3 ⊢
 refine (n16_any w4).mono ?_
 rintro e w5 ⟨v5, rfl, hm, hb⟩
 have HM := h! hm
 replace R0 := h! (R0.out.below hb R0.out.lt)
 replace HB := h! (bmore HB.out hb n!)
 clear hm hb
 go_wp2_with fail
 refine (KN.out v5 w5 HM.out).mono ?_
 rintro e w6 ⟨rfl, hb⟩
 replace R0 := h! (R0.out.below hb R0.out.lt)
 replace HB := h! (bmore HB.out hb n!)
 clear hb HM
 go_wp2_with fail
 refine (m16_any w6).mono ?_
 rintro e w7 ⟨v7, rfl, hm, hb⟩
 have HM := h! hm
 replace R0 := h! (R0.out.below hb R0.out.lt)
 replace HB := h! (bmore HB.out hb n!)
 clear hm hb
 go_wp2_with fail
 refine (KM.out v7 w7 HM.out).mono ?_
 rintro e w8 ⟨rfl, hb⟩
 replace R0 := h! (R0.out.below hb R0.out.lt)
 replace HB := h! (bmore HB.out hb n!)
 clear hb HM
 go_wp2_with fail
 refine (K91.out w8).mono ?_
 rintro e w9 ⟨rfl, hb⟩
 replace R0 := h! (R0.out.below hb R0.out.lt)
 replace HB := h! (bmore HB.out hb n!)
 clear hb
 go_wp2_with fail
 refine (K52.out w9).mono ?_
 rintro e wa ⟨rfl, hb⟩
 have hal := (Below.refl wa.heap.size wa).alloc n! (.cells #[.string sn, .string sm, .string s9, .string s5] 9)
 have R1 := h! (Box.new wa 9 #[.string sn, .string sm, .string s9, .string s5])
 replace R0 := h! (R0.out.below hb R0.out.lt)
 have HLT := h! R0.out.lt
 replace R0 := h! (R0.out.below hal R0.out.lt)
 replace HB := h! (bmore (bmore HB.out hb n!) hal n!)
 clear hb hal
 obtain ⟨ga, hga⟩ : ∃ ga, wa.heap.size = ga := ⟨_, rfl⟩
 obtain ⟨wb, hwb⟩ : ∃ wb, wb = wa.alloc (.cells #[.string sn, .string sm, .string s9, .string s5] 9) := ⟨_, rfl⟩
 have hsz : wb.heap.size = ga + 1 := by rw [hwb, World.size_alloc, hga]
 rw [← hwb, hga] at R1
 rw [← hwb] at R0 HB
 rw [hga] at HLT
 have HF := h! (show BoB sm s5 sn sm s9 s5 w (.returned (.slice (some ⟨ga + 1, 0, none⟩) 2 2)) (wb.alloc (.cells #[.slice (some ⟨g3, 0, none⟩) 2 2, .slice (some ⟨ga, 0, none⟩) 4 4] 26)) from by
  have hal := (Below.refl wb.heap.size wb).alloc n! (.cells #[.slice (some ⟨g3, 0, none⟩) 2 2, .slice (some ⟨ga, 0, none⟩) 4 4] 26)
  have hlt := HLT.out
  exact ⟨ga + 1, g3, ga, rfl, HG3.out, by omega, by omega, ⟨Box.new_at _ hsz, R0.out.below hal R0.out.lt, R1.out.below hal R1.out.lt⟩, bmore HB.out hal n!⟩)
 rw [hwb] at HF
 clear hwb hsz
 go_wp2_with fail
 go_ret
 exact HF.out
theorem tg0E : OM.tg [[asgE mE, finE 5 2], [asgE nE, asgE mE, finE 9 1, finE 5 2]] 0 = [(1, mE)] := by decide +kernel
theorem tg1E : OM.tg [[asgE mE, finE 5 2], [asgE nE, asgE mE, finE 9 1, finE 5 2]] 1 = [(1, nE), (2, mE)] := by decide +kernel
theorem cmL2 : cmL [lE0, lE1] = [[asgE mE, finE 5 2], [asgE nE, asgE mE, finE 9 1, finE 5 2]] := by
 show [LM.cmds lE0, LM.cmds lE1] = _
 rw [cmds0, cmds1]
theorem allE2 : allE [lE0, lE1] = 0 := by
 unfold allE
 rw [if_neg (by decide)]
 exact firstE_of fun l hl => by
  simp only [List.mem_cons, List.not_mem_nil, or_false] at hl
  rcases hl with rfl | rfl
  ·exact chk0
  ·exact chk1
def lX0 : List ByteArray := [txt (asgE mE), txt (finE 5 3)]
theorem may_53 : CM.may (finE 5 3) := may_fin (by decide) (by decide)
theorem cmdsX : LM.cmds lX0 = [asgE mE, finE 5 3] := by
 show [LM.cm (txt (asgE mE)), LM.cm (txt (finE 5 3))] = _
 rw [(cm_txt (may_asg ok_m)).1, (cm_txt may_53).1]
theorem chkX : LM.chk lX0 = 0 := LM.chk_zero.2 ⟨by decide, fun s hs => by
 unfold lX0 at hs
 simp only [List.mem_cons, List.not_mem_nil, or_false] at hs
 rcases hs with rfl | rfl
 ·exact (cm_txt (may_asg ok_m)).2
 ·exact (cm_txt may_53).2⟩
theorem szX : ∀ s ∈ lX0, s.size ≤ maxLen := fun s hs => by
 unfold lX0 at hs
 simp only [List.mem_cons, List.not_mem_nil, or_false] at hs
 rcases hs with rfl | rfl
 ·exact sz_m
 ·exact txt_size (by decide +kernel)
theorem cmLX : cmL [lX0, lE1] = [[asgE mE, finE 5 3], [asgE nE, asgE mE, finE 9 1, finE 5 2]] := by
 show [LM.cmds lX0, LM.cmds lE1] = _
 rw [cmdsX, cmds1]
theorem allEX : allE [lX0, lE1] = 0 := by
 unfold allE
 rw [if_neg (by decide)]
 exact firstE_of fun l hl => by
  simp only [List.mem_cons, List.not_mem_nil, or_false] at hl
  rcases hl with rfl | rfl
  ·exact chkX
  ·exact chk1
theorem fin2 : finR [lE0, lE1] mE = (2, true, 0) := by
 unfold finR
 rw [if_neg (fun k => k allE2), if_pos ok_m, cmL2]
 decide +kernel
theorem allE1 : allE [lE0] = 0 := by
 unfold allE
 rw [if_neg (by decide)]
 exact firstE_of fun l hl => by rw [List.mem_singleton.1 hl]; exact chk0
theorem fin1 : finR [lE0] mE = (0, false, 0) := by
 unfold finR
 rw [if_neg (fun k => k allE1), if_pos ok_m]
 have e : cmL [lE0] = [[asgE mE, finE 5 2]] := by show [LM.cmds lE0] = _; rw [cmds0]
 rw [e]
 decide +kernel
theorem hon2 : OM.honest (cmL [lE0, lE1]) := by
 have hL := (allE_zero allE2).1
 rw [cmL2] at hL ⊢
 refine (OM.honest_iff hL).2 ⟨fun g h hg hl p hp q hq => ?_, fun g hl c hc => ?_⟩
 ·have hg2 : g = 1 ∧ h = 0 := by simp at hl; omega
  obtain ⟨rfl, rfl⟩ := hg2
  rw [show ((1 : Nat) : Int) = 1 from rfl, tg1E] at hp
  rw [show ((0 : Nat) : Int) = 0 from rfl, tg0E] at hq
  simp only [List.mem_cons, List.not_mem_nil, or_false] at hp
  rcases hp with rfl | rfl
  ·rw [show OM.fd [(1, mE)] nE.id = none by decide +kernel] at hq
   cases hq
  ·rw [show OM.fd [(1, mE)] mE.id = some (1, mE) by decide +kernel] at hq
   injection hq with hq
   rw [← hq]
 ·match g, hl with
  | 0, _ =>
   rw [show OM.fins ((0 : Nat) : Int) (OM.lg [[asgE mE, finE 5 2], [asgE nE, asgE mE, finE 9 1, finE 5 2]] ((0 : Nat) : Int)) = [finE 5 2] by decide +kernel] at hc
   rw [List.mem_singleton.1 hc]
   decide +kernel
  | 1, _ =>
   rw [show OM.fins ((1 : Nat) : Int) (OM.lg [[asgE mE, finE 5 2], [asgE nE, asgE mE, finE 9 1, finE 5 2]] ((1 : Nat) : Int)) = [finE 9 1, finE 5 2] by decide +kernel] at hc
   simp only [List.mem_cons, List.not_mem_nil, or_false] at hc
   rcases hc with rfl | rfl <;> decide +kernel
  | g + 2, hl => exact absurd hl (by simp)
theorem honX : ¬ OM.honest (cmL [lX0, lE1]) := by
 have hL := (allE_zero allEX).1
 rw [cmLX] at hL ⊢
 intro h
 have h2 := ((OM.honest_iff hL).1 h).2 0 (by decide) (finE 5 3) (by decide +kernel)
 exact absurd h2 (by decide +kernel)
theorem loc1 : locS 1 lE1 = [⟨1, 9⟩, ⟨2, 5⟩] := by
 have h : asked 1 lE1 = 0 := by unfold asked; rw [if_pos (by decide), chk1]
 unfold locS
 rw [if_pos h, cmds1]
 decide +kernel
theorem asked1 : asked 1 lE1 = 0 := by unfold asked; rw [if_pos (by decide), chk1]
theorem play4 : playR 4 [] = (KM.zero, [], 2) := by decide +kernel
theorem ag1 : OM.agreeF [⟨2, 5⟩] [⟨1, 9⟩, ⟨2, 5⟩] = true := by decide +kernel
theorem ag2 : OM.agreeF [⟨1, 1⟩, ⟨2, 2⟩] [⟨2, 2⟩, ⟨3, 1⟩] = false := by decide +kernel
end Go.Proofs.YteebeiaokfenmaaGreat.KP
