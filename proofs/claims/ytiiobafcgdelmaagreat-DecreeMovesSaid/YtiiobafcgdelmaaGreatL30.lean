/- Contracts of functions of towncrier, layers 5 to 9, and of the document's own ones, part 30; each as its theorem says. -/
import Derived.Test.YtiiobafcgdelmaaGreatL01
import Derived.Test.YtiiobafcgdelmaaGreatL27
import Derived.Test.YtiiobafcgdelmaaGreatL08
import Derived.Test.YtiiobafcgdelmaaGreatL10
import Derived.Test.YtiiobafcgdelmaaGreatL29
import Derived.Test.YtiiobafcgdelmaaGreatL28
import Derived.Test.YtiiobafcgdelmaaGreatL03
set_option linter.unusedVariables false
set_option linter.unusedSimpArgs false
namespace Go.Proofs.YtiiobafcgdelmaaGreat
open Go.RowKit
def mayEnd (ph ba : Int) (ms : List Int) (wi va : ByteArray) (ps : List AM.Pr) (ac : List Int) : Bool :=
 ps.all (AM.okP ba) && (if ph = 1 then !AM.most ms (AM.nodes ps) && (decide (va = .empty) && ac.isEmpty) else AM.most ms (AM.nodes ps) && (decide (va = AM.best ps wi) && (AM.most ms ac == decide (ph = 3))))
theorem mayEnd_1 {ph ba : Int} {ms : List Int} {wi va : ByteArray} {ps : List AM.Pr} {ac : List Int} {k : Nat} (h : ph = 1) (hk : ac.length = k) :
  mayEnd ph ba ms wi va ps ac = (ps.all (AM.okP ba) && (!AM.most ms (AM.nodes ps) && (va.toList.isEmpty && decide (k = 0)))) := by
 unfold mayEnd
 rw [if_pos h, str_no]
 subst hk
 congr 3
 rcases ac with _ | ⟨x, l⟩ <;> simp
theorem mayEnd_2 {ph ba : Int} {ms : List Int} {wi va : ByteArray} {ps : List AM.Pr} {ac : List Int} (h : ¬ ph = 1) :
  mayEnd ph ba ms wi va ps ac = (ps.all (AM.okP ba) && (AM.most ms (AM.nodes ps) && ((va.toList == (AM.best ps wi).toList) && (AM.most ms ac == (ph == 3))))) := by
 unfold mayEnd
 rw [if_neg h, str_eq2]
 congr 4
theorem mayEnd_f {ph ba : Int} {ms : List Int} {wi va : ByteArray} {ps : List AM.Pr} {ac : List Int} (h : ps.all (AM.okP ba) = false) : mayEnd ph ba ms wi va ps ac = false := by unfold mayEnd; rw [h]; rfl
theorem all_at {ba : Int} {ps : List AM.Pr} {j : Nat} {p : AM.Pr} (h : ps[j]? = some p) : (ps.drop j).all (AM.okP ba) = (AM.okP ba p && (ps.drop (j + 1)).all (AM.okP ba)) := by
 obtain ⟨hj, rfl⟩ := List.getElem?_eq_some_iff.1 h
 rw [List.drop_eq_getElem_cons hj, List.all_cons]
set_option maxRecDepth 100000 in
set_option maxHeartbeats 4000000 in
theorem rmay_7 (ph ba : Int) (ms : List Int) (wi va : ByteArray) (ps : List AM.Pr) (ac : List Int) (A : Option Addr) (n c : Nat) (B : Option Addr) (m d : Nat) (C : Option Addr) (k f : Nat) (w : World) (h1 : Rd w A n (ic ms)) (h2 : RdP w B m ps) (h3 : Rd w C k (ic ac)) (F : Fit ⟨ph, ba, ms, wi, va, ps, ac⟩) (hp : ¬ ph = 0) (p3 : ph ≤ 3) (p0 : 0 ≤ ph) (hg : BM.good ba) (hm : QM.may ms = true) (hw : wi.size ≤ 1024) (hs1 : (AM.adj (AM.nodes ps) && QM.within (AM.nodes ps) ms) = true) (hs2 : (AM.adj ac && QM.within ac ms) = true) :
  Calls Tryz.prog 42 #[.agg #[.int .u8 ph, .int .i64 ba, .slice A n c, .string wi, .string va, .slice B m d, .slice C k f]] w (BoolIs (mayEnd ph ba ms wi va ps ac) w) := by
 have E1 := h! (fun h => mayEnd_1 (ph := ph) (ba := ba) (ms := ms) (wi := wi) (va := va) (ps := ps) (ac := ac) (k := k) h (by have := h3.1; rwa [ic_length] at this))
 have E2 := h! (fun h => mayEnd_2 (ph := ph) (ba := ba) (ms := ms) (wi := wi) (va := va) (ps := ps) (ac := ac) h)
 have EF := h! (fun h => mayEnd_f (ph := ph) (ba := ba) (ms := ms) (wi := wi) (va := va) (ps := ps) (ac := ac) h)
 generalize mayEnd ph ba ms wi va ps ac = r at E1 E2 EF ⊢
 obtain ⟨f1, f2, f3⟩ := AtIs.fit_n (a := ⟨ph, ba, ms, wi, va, ps, ac⟩) h1 h2 h3 F
 have l1 : ms.length = n := by have := h1.1; rwa [ic_length] at this
 have l2 : ps.length = m := h2.1
 have l3 : ac.length = k := by have := h3.1; rwa [ic_length] at this
 obtain ⟨W0, hW0⟩ : ∃ W0, W0 = w.alloc (.cells #[.int .u8 ph, .int .i64 ba, .slice A n c, .string wi, .string va, .slice B m d, .slice C k f] 57) := ⟨_, rfl⟩
 have hb0 : Below w.heap.size w W0 := by rw [hW0]; exact (Below.refl _ _).alloc n! _
 have X0 := h! (show Box W0 w.heap.size 57 #[.int .u8 ph, .int .i64 ba, .slice A n c, .string wi, .string va, .slice B m d, .slice C k f] by rw [hW0]; exact Box.new _ _ _)
 have B0 := h! hb0
 have q0 : (ph == 0) = false := by simpa using hp
 have q3 : decide (3 < ph) = false := by simp; omega
 have HB := h! (fun W => rMay_yes ba W hg)
 have HM : Hid (∀ W, Below w.heap.size w W → Calls Tryz.prog 40 #[.slice A n c] W (BoolIs true W)) := h! fun W hb => by have := may_bool (rMay_any A n c ms W (h1.below hb) (by omega)); rwa [hm] at this
 have hwl : wi.size ≤ 9223372036854775807 := by have := F.wi; simp only [maxLen] at this; omega
 have q4 : decide ((1024 : Int) < (wi.size : Int)) = false := by simp; omega
 have q5 : decide (1024 < wi.size) = false := by simp; omega
 have HN := h! (fun (W : World) (hb : Below w.heap.size w W) => rnodes_any B m d ps W (h2.below hb) f2)
 have HR1 : Hid (∀ W, Below w.heap.size w W → ∀ (D : Option Addr) (r : Nat), Rd W D m (ic (AM.nodes ps)) → Calls Tryz.prog 69 #[.slice D m r, .slice A n c] W (BoolIs true W)) := h! fun W hb D r hd => by have := may_bool (rising_any D m r (AM.nodes ps) A n c ms W hd (h1.below hb) f2 f1); rwa [hs1] at this
 have HR2 : Hid (∀ W, Below w.heap.size w W → Calls Tryz.prog 69 #[.slice C k f, .slice A n c] W (BoolIs true W)) := h! fun W hb => by have := may_bool (rising_any C k f ac A n c ms W (h3.below hb) (h1.below hb) f3 f1); rwa [hs2] at this
 have HP := h! (fun (W : World) (j : Nat) (p : AM.Pr) (hj : ps[j]? = some p) => mayPromise_any ba p W (F.all p (List.mem_of_getElem? hj)))
 have H2 := h! (h2.below hb0)
 have HL2 := h! l2
 have HC1 : Hid (∀ W, Below w.heap.size w W → ∀ (D : Option Addr) (r : Nat), Rd W D m (ic (AM.nodes ps)) → Calls Tryz.prog 72 #[.slice A n c, .slice D m r] W (fun e w' => e = .returned (.bool (AM.most ms (AM.nodes ps))) ∧ W = w')) := h! fun W hb D r hd => by have := rCounts_any A n c ms D m r (AM.nodes ps) W (h1.below hb) (by omega) hd (by omega); rw [← l1] at this; rw [← l1]; exact this
 have HC2 : Hid (∀ W, Below w.heap.size w W → Calls Tryz.prog 72 #[.slice A n c, .slice C k f] W (fun e w' => e = .returned (.bool (AM.most ms ac)) ∧ W = w')) := h! fun W hb => by have := rCounts_any A n c ms C k f ac W (h1.below hb) (by omega) (h3.below hb) (by omega); rw [← l1] at this; rw [← l1]; exact this
 have HBe := h! (fun (W : World) (hb : Below w.heap.size w W) => rbest_any B m d ps wi W (h2.below hb) (by omega))
 have HPH := h! (show ph = 1 ∨ ph = 2 ∨ ph = 3 by omega)
 generalize AM.most ms (AM.nodes ps) = mo at E1 E2 HC1
 generalize AM.most ms ac = ma at E2 HC2
 generalize AM.best ps wi = be at E2 HBe
 obtain ⟨pa, hpa⟩ : ∃ pa, pa = ps.all (AM.okP ba) := ⟨_, rfl⟩
 rw [← hpa] at E1 E2 EF
 have HS := h! (show (ps.drop 0).all (AM.okP ba) = pa by rw [hpa]; rfl)
 clear p3 p0 hb0 h1 h2 h3 F l1 l2 l3 hp hg hm hw hs1 hs2 hpa
 go_enter Tryz.func42, Tryz.ntmps42
 go_upto_region 1 with (fail)
 rw [← hW0]
 clear hW0
 obtain ⟨⟨s0, s1, s2, s3, s4, s5, s6⟩, _⟩ := X0.out.seven
 go_upto_region 3 with (fail)
 clear s0 s1 s2 s3 s4 s5 s6
 go_cut [76] (fun u wx => LateMid W0 false u wx)
 case first =>
  have hS : ∀ w', Below W0.heap.size W0 w' → w'.cell? ⟨w.heap.size, 0, none⟩ = some (.int .u8 ph) ∧ w'.cell? ⟨w.heap.size, 1, none⟩ = some (.int .i64 ba) ∧ w'.cell? ⟨w.heap.size, 2, none⟩ = some (.slice A n c) ∧ w'.cell? ⟨w.heap.size, 3, none⟩ = some (.string wi) ∧ w'.cell? ⟨w.heap.size, 4, none⟩ = some (.string va) ∧ w'.cell? ⟨w.heap.size, 5, none⟩ = some (.slice B m d) ∧ w'.cell? ⟨w.heap.size, 6, none⟩ = some (.slice C k f) := fun w' h => ⟨(X0.out.below h X0.out.lt).cell 0, (X0.out.below h X0.out.lt).cell 1, (X0.out.below h X0.out.lt).cell 2, (X0.out.below h X0.out.lt).cell 3, (X0.out.below h X0.out.lt).cell 4, (X0.out.below h X0.out.lt).cell 5, (X0.out.below h X0.out.lt).cell 6⟩
  have HSS := h! hS; clear hS
  have bb1 : Below W0.heap.size W0 W0.drew := (Below.refl _ _).drew
  refine wp_region_held_drew (S := fun w' => w'.cell? ⟨w.heap.size, 0, none⟩ = some (.int .u8 ph) ∧ w'.cell? ⟨w.heap.size, 1, none⟩ = some (.int .i64 ba) ∧ w'.cell? ⟨w.heap.size, 2, none⟩ = some (.slice A n c) ∧ w'.cell? ⟨w.heap.size, 3, none⟩ = some (.string wi) ∧ w'.cell? ⟨w.heap.size, 4, none⟩ = some (.string va) ∧ w'.cell? ⟨w.heap.size, 5, none⟩ = some (.slice B m d) ∧ w'.cell? ⟨w.heap.size, 6, none⟩ = some (.slice C k f)) (by kernel_rfl) (HSS.out _ bb1) (fun hHeld => ?_)
  refine qT 0 ?_
  try simp only [Act.put, qq]
  refine qT 1 ?_
  try simp only [Act.put, qq]
  refine qT 2 ?_
  try simp only [Act.put, qq]
  refine qT 3 ?_
  try simp only [Act.put, qq]
  refine qT 4 ?_
  try simp only [Act.put, qq]
  refine qT 5 ?_
  try simp only [Act.put, qq]
  refine qR 6 fun K hK => ?_
  go_simp
  refine (HB.out _).mono ?_
  rintro e wa1 ⟨rfl, rfl⟩
  refine hK.out _ _ (HSS.out _ bb1) (fun hHeld => ?_)
  clear hK
  try simp only [Act.put, qq]
  refine qT 7 ?_
  try simp only [Act.put, qq]
  refine qT 8 ?_
  try simp only [Act.put, qq]
  refine qT 9 ?_
  try simp only [Act.put, qq]
  refine qT 10 ?_
  try simp only [Act.put, qq]
  refine qT 11 ?_
  try simp only [Act.put, qq]
  refine qR 12 fun K hK => ?_
  go_simp
  refine (HM.out _ (bmore B0.out bb1 n!)).mono ?_
  rintro e wa2 ⟨rfl, ha2⟩
  have bb2 : Below W0.heap.size W0 wa2 := bmore bb1 ha2 n!
  refine hK.out _ _ (HSS.out _ bb2) (fun hHeld => ?_)
  clear hK
  try simp only [Act.put, qq]
  refine qT 13 ?_
  try simp only [Act.put, qq]
  refine qT 14 ?_
  try simp only [Act.put, qq]
  refine qT 15 ?_
  try simp only [Act.put, qq]
  refine qT 16 ?_
  try simp only [Act.put, qq]
  refine qT 17 ?_
  try simp only [Act.put, qq]
  refine qT 18 ?_
  try simp only [Act.put, qq]
  refine qT 19 ?_
  try simp only [Act.put, qq]
  refine qT 20 ?_
  try simp only [Act.put, qq]
  refine qT 21 ?_
  try simp only [Act.put, qq]
  refine qT 22 ?_
  try simp only [Act.put, qq]
  refine qT 23 ?_
  try simp only [Act.put, qq]
  refine qT 25 ?_
  try simp only [Act.put, qq]
  refine qT 26 ?_
  try simp only [Act.put, qq]
  refine qR 24 fun K hK => ?_
  go_simp
  refine (HN.out _ (bmore B0.out bb2 n!)).mono ?_
  rintro e wb ⟨A', c', rfl, ho, hb⟩
  have bb3 : Below W0.heap.size W0 wb := bmore bb2 hb n!
  have hrd := Rd.of_own ho
  refine hK.out _ _ (HSS.out _ bb3) (fun hHeld => ?_)
  clear hK
  try simp only [Act.put, qq]
  refine qR 27 fun K hK => ?_
  go_simp
  refine (HR1.out _ (bmore B0.out bb3 n!) _ _ hrd).mono ?_
  rintro e wc' ⟨rfl, hc'⟩
  have bb4 : Below W0.heap.size W0 wc' := bmore bb3 hc' n!
  refine hK.out _ _ (HSS.out _ bb4) (fun hHeld => ?_)
  clear hK
  try simp only [Act.put, qq]
  refine qT 28 ?_
  try simp only [Act.put, qq]
  refine qT 29 ?_
  try simp only [Act.put, qq]
  refine qT 30 ?_
  try simp only [Act.put, qq]
  refine qT 31 ?_
  try simp only [Act.put, qq]
  refine qT 32 ?_
  try simp only [Act.put, qq]
  refine qT 33 ?_
  try simp only [Act.put, qq]
  refine qT 34 ?_
  try simp only [Act.put, qq]
  refine qR 35 fun K hK => ?_
  go_simp
  refine (HR2.out _ (bmore B0.out bb4 n!)).mono ?_
  rintro e wd ⟨rfl, hd⟩
  have bb5 : Below W0.heap.size W0 wd := bmore bb4 hd n!
  refine hK.out _ _ (HSS.out _ bb5) (fun hHeld => ?_)
  clear hK
  try simp only [Act.put, qq]
  refine qT 36 ?_
  try simp only [Act.put, qq]
  refine qT 37 ?_
  try simp only [Act.put, qq]
  refine wpAnyH_done (by kernel_rfl) ?_ _
  go_wp2_with fail
  go_meet
  case rel => exact ⟨rfl, bb5⟩
 case rest =>
  obtain ⟨rfl, hmb⟩ := hcut
  clear HB HM HR1 HR2 q3 q4 q5 hwl
  have BMM := h! hmb
  clear hmb
  go_wp2_with fail
  go_loopw [3] (fun i wr => ∃ j : Nat, j ≤ m ∧ i = .int .i64 j ∧ Below W0.heap.size W0 wr ∧ Hid ((ps.drop j).all (AM.okP ba) = pa)) (fun i _ => m - (intOf i).toNat)
  case atStart => exact ⟨0, by omega, rfl, BMM.out, HS⟩
  case round =>
   clear HS BMM
   obtain ⟨j, hj, rfl, hwr, HT⟩ := hrel
   have BR := h! hwr
   obtain ⟨⟨s0, s1, s2, s3, s4, s5, s6⟩, _⟩ := (X0.out.below hwr X0.out.lt).seven
   clear hwr
   by_cases hlt : j < m
   ·have hj0 : (0 : Int) ≤ (j : Int) := by omega
    have hjm : (j : Int) < (m : Int) := by omega
    obtain ⟨bl, o, p, rfl, hbl, g1, c0, c1, c2⟩ := H2.out.at_ hlt
    have HPp := h! (fun W => HP.out W j p g1)
    have hst := HT.out
    rw [all_at g1] at hst
    clear HT g1
    generalize AM.okP ba p = okp at hst HPp
    obtain ⟨pn, pb, pv⟩ := p
    simp only at c0 c1 c2 HPp
    have HT := h! hst
    have CC := h! (fun (W : World) (hb : Below W0.heap.size W0 W) => (⟨(X0.out.below hb X0.out.lt).cell 5, (X0.out.below hb X0.out.lt).cell 1, (hb.cell hbl).trans c0, (hb.cell hbl).trans c1, (hb.cell hbl).trans c2⟩ : W.cell? ⟨w.heap.size, 5, none⟩ = some (.slice (some ⟨bl, o, none⟩) m d) ∧ W.cell? ⟨w.heap.size, 1, none⟩ = some (.int .i64 ba) ∧ W.cell? ⟨bl, o + j * 3, none⟩ = some (.int .i64 pn) ∧ W.cell? ⟨bl, o + j * 3 + 1, none⟩ = some (.int .i64 pb) ∧ W.cell? ⟨bl, o + j * 3 + 2, none⟩ = some (.string pv)))
    clear hst c0 c1 c2 hbl
    go_upto_region 8 with (fail)
    clear s0 s1 s2 s3 s4 s5 s6
    go_cut [92] (fun u wx => LateMid wr (!okp) u wx)
    case first =>
     have bd : Below W0.heap.size W0 wr.drew := BR.out.drew
     refine wp_region_held_drew (S := fun w' => w'.cell? ⟨w.heap.size, 5, none⟩ = some (.slice (some ⟨bl, o, none⟩) m d) ∧ w'.cell? ⟨w.heap.size, 1, none⟩ = some (.int .i64 ba) ∧ w'.cell? ⟨bl, o + j * 3, none⟩ = some (.int .i64 pn) ∧ w'.cell? ⟨bl, o + j * 3 + 1, none⟩ = some (.int .i64 pb) ∧ w'.cell? ⟨bl, o + j * 3 + 2, none⟩ = some (.string pv)) (by kernel_rfl) (CC.out _ bd) (fun hHeld => ?_)
     refine qT 0 ?_
     try simp only [Act.put, qq]
     refine qT 1 ?_
     try simp only [Act.put, qq]
     refine qT 2 ?_
     try simp only [Act.put, qq]
     refine qT 3 ?_
     try simp only [Act.put, qq]
     refine qT 4 ?_
     try simp only [Act.put, qq]
     refine qT 5 ?_
     try simp only [Act.put, qq]
     refine qT 6 ?_
     try simp only [Act.put, qq]
     refine qR 7 fun K hK => ?_
     go_simp
     refine (HPp.out _).mono ?_
     rintro e wa ⟨rfl, ha⟩
     have ba' : Below W0.heap.size W0 wa := bmore bd ha n!
     refine hK.out _ _ (CC.out _ ba') (fun hHeld => ?_)
     clear hK
     try simp only [Act.put, qq]
     refine qT 8 ?_
     try simp only [Act.put, qq]
     refine wpAnyH_done (by kernel_rfl) ?_ _
     go_wp2_with fail
     go_meet
     case rel => exact ⟨rfl, bmore (Below.refl _ _).drew ha n!⟩
    case rest =>
     obtain ⟨rfl, hmb⟩ := hcut
     have BN := h! (bmore BR.out hmb n!)
     clear hmb
     cases okp
     ·have HF := h! (EF.out (by rw [← HT.out]; rfl))
      go_wp2_with fail
      go_ret
      exact bool_ret (by rw [HF.out]) (bmore B0.out BN.out n!)
     ·have HT2 := h! (show (ps.drop (j + 1)).all (AM.okP ba) = pa by rw [← HT.out, Bool.true_and])
      clear HT
      go_wp2_with fail
      go_roundw
      case rel => exact ⟨j + 1, by omega, by go_num, BN.out, HT2⟩
      case measure => simp [intOf]; omega
   ·have hpt : pa = true := by rw [← HT.out, List.drop_eq_nil_of_le (by have := HL2.out; omega)]; rfl
    subst hpt
    have hjm : decide ((j : Int) < (m : Int)) = false := by simp; omega
    clear HT EF HP
    go_upto_region 10 with (fail)
    go_cut [4] (fun u wx => LateMid wr mo u wx)
    case first =>
     have bd : Below W0.heap.size W0 wr.drew := BR.out.drew
     have CS := h! (fun (W : World) (hb : Below W0.heap.size W0 W) => (⟨(X0.out.below hb X0.out.lt).cell 2, (X0.out.below hb X0.out.lt).cell 5⟩ : W.cell? ⟨w.heap.size, 2, none⟩ = some (.slice A n c) ∧ W.cell? ⟨w.heap.size, 5, none⟩ = some (.slice B m d)))
     clear s0 s1 s2 s3 s4 s5 s6
     refine wp_region_held_drew (S := fun w' => w'.cell? ⟨w.heap.size, 2, none⟩ = some (.slice A n c) ∧ w'.cell? ⟨w.heap.size, 5, none⟩ = some (.slice B m d)) (by kernel_rfl) (CS.out _ bd) (fun hHeld => ?_)
     refine qT 0 ?_
     try simp only [Act.put, qq]
     refine qT 1 ?_
     try simp only [Act.put, qq]
     refine qT 2 ?_
     try simp only [Act.put, qq]
     refine qT 3 ?_
     try simp only [Act.put, qq]
     refine qR 4 fun K hK => ?_
     go_simp
     refine (HN.out _ (bmore B0.out bd n!)).mono ?_
     rintro e wb ⟨A', c', rfl, ho, hb⟩
     have bb3 : Below W0.heap.size W0 wb := bmore bd hb n!
     have hrd := Rd.of_own ho
     refine hK.out _ _ (CS.out _ bb3) (fun hHeld => ?_)
     clear hK
     try simp only [Act.put, qq]
     refine qR 5 fun K hK => ?_
     go_simp
     refine (HC1.out _ (bmore B0.out bb3 n!) _ _ hrd).mono ?_
     rintro e wc' ⟨rfl, rfl⟩
     refine hK.out _ _ (CS.out _ bb3) (fun hHeld => ?_)
     clear hK
     try simp only [Act.put, qq]
     refine qT 6 ?_
     try simp only [Act.put, qq]
     refine wpAnyH_done (by kernel_rfl) ?_ _
     go_wp2_with fail
     go_meet
     case rel => exact ⟨rfl, bmore (Below.refl _ _).drew hb n!⟩
    case rest =>
     obtain ⟨rfl, hmb⟩ := hcut
     have BN := h! (bmore BR.out hmb n!)
     obtain ⟨⟨t0, t1, t2, t3, t4, t5, t6⟩, _⟩ := (X0.out.below BN.out X0.out.lt).seven
     clear hmb s0 s1 s2 s3 s4 s5 s6 HN HC1
     have BF := h! (bmore B0.out BN.out n!)
     rcases HPH.out with rfl | rfl | rfl
     ·have ER := h! (E1.out rfl)
      clear E1 E2 HC2 HBe HPH q0
      cases mo
      ·rcases e1 : va.toList.isEmpty with _ | _
       ·go_wp2_with fail
        go_ret
        exact bool_ret (by rw [ER.out]; simp [e1]) BF.out
       ·have G1 := h! e1
        by_cases hk : k = 0
        ·subst hk
         go_wp2_with fail
         go_ret
         exact bool_ret (by rw [ER.out]; simp [G1.out]) BF.out
        ·have d1 : (((k : Nat) : Int) == 0) = false := by simp; omega
         have d2 : (k == 0) = false := by simpa using hk
         have d3 : decide (k = 0) = false := by simpa using hk
         have GK := h! hk
         clear hk
         go_wp2_with fail
         go_ret
         exact bool_ret (by rw [ER.out]; simp [GK.out]) BF.out
      ·go_wp2_with fail
       go_ret
       exact bool_ret (by rw [ER.out]; simp) BF.out
     ·have ER := h! (E2.out (by decide))
      clear E1 E2 HPH q0
      have bd := BN.out.drew
      go_upto_region 13 with (fail)
      clear t0 t1 t2 t3 t4 t5 t6
      have CS : Hid (∀ w', Below W0.heap.size W0 w' → w'.cell? ⟨w.heap.size, 0, none⟩ = some (.int .u8 2) ∧ w'.cell? ⟨w.heap.size, 1, none⟩ = some (.int .i64 ba) ∧ w'.cell? ⟨w.heap.size, 2, none⟩ = some (.slice A n c) ∧ w'.cell? ⟨w.heap.size, 3, none⟩ = some (.string wi) ∧ w'.cell? ⟨w.heap.size, 4, none⟩ = some (.string va) ∧ w'.cell? ⟨w.heap.size, 5, none⟩ = some (.slice B m d) ∧ w'.cell? ⟨w.heap.size, 6, none⟩ = some (.slice C k f)) := h! (fun W hb => ⟨(X0.out.below hb X0.out.lt).cell 0, (X0.out.below hb X0.out.lt).cell 1, (X0.out.below hb X0.out.lt).cell 2, (X0.out.below hb X0.out.lt).cell 3, (X0.out.below hb X0.out.lt).cell 4, (X0.out.below hb X0.out.lt).cell 5, (X0.out.below hb X0.out.lt).cell 6⟩)
      refine wp_region_held_drew (S := fun w' => w'.cell? ⟨w.heap.size, 0, none⟩ = some (.int .u8 2) ∧ w'.cell? ⟨w.heap.size, 1, none⟩ = some (.int .i64 ba) ∧ w'.cell? ⟨w.heap.size, 2, none⟩ = some (.slice A n c) ∧ w'.cell? ⟨w.heap.size, 3, none⟩ = some (.string wi) ∧ w'.cell? ⟨w.heap.size, 4, none⟩ = some (.string va) ∧ w'.cell? ⟨w.heap.size, 5, none⟩ = some (.slice B m d) ∧ w'.cell? ⟨w.heap.size, 6, none⟩ = some (.slice C k f)) (by kernel_rfl) (CS.out _ bd) (fun hHeld => ?_)
      cases mo
      ·refine qT 0 ?_
       try simp only [Act.put, qq]
       refine qT 1 ?_
       try simp only [Act.put, qq]
       refine qS 2 ?_
       try simp only [Act.put, qq]
       refine qS 3 ?_
       try simp only [Act.put, qq]
       refine qS 4 ?_
       try simp only [Act.put, qq]
       refine qS 5 ?_
       try simp only [Act.put, qq]
       refine qS 6 ?_
       try simp only [Act.put, qq]
       refine qS 7 ?_
       try simp only [Act.put, qq]
       refine qS 8 ?_
       try simp only [Act.put, qq]
       refine qS 9 ?_
       try simp only [Act.put, qq]
       refine qT 10 ?_
       try simp only [Act.put, qq]
       refine qT 11 ?_
       try simp only [Act.put, qq]
       refine qS 12 ?_
       try simp only [Act.put, qq]
       refine qS 13 ?_
       try simp only [Act.put, qq]
       refine qS 14 ?_
       try simp only [Act.put, qq]
       refine qS 15 ?_
       try simp only [Act.put, qq]
       refine qS 16 ?_
       try simp only [Act.put, qq]
       refine qS 17 ?_
       try simp only [Act.put, qq]
       refine qS 18 ?_
       try simp only [Act.put, qq]
       refine qS 19 ?_
       try simp only [Act.put, qq]
       refine qS 20 ?_
       try simp only [Act.put, qq]
       refine qT 21 ?_
       try simp only [Act.put, qq]
       refine qT 22 ?_
       try simp only [Act.put, qq]
       refine wpAnyH_done (by kernel_rfl) ?_ _
       go_wp2_with fail
       go_ret
       exact bool_ret (by rw [ER.out]; simp) (bmore B0.out bd n!)
      ·rcases e3 : va.toList == be.toList with _ | _
       ·have G3 := h! e3
        refine qT 0 ?_
        try simp only [Act.put, qq]
        refine qT 1 ?_
        try simp only [Act.put, qq]
        refine qT 2 ?_
        try simp only [Act.put, qq]
        refine qT 3 ?_
        try simp only [Act.put, qq]
        refine qT 4 ?_
        try simp only [Act.put, qq]
        refine qT 5 ?_
        try simp only [Act.put, qq]
        refine qT 6 ?_
        try simp only [Act.put, qq]
        refine qT 7 ?_
        try simp only [Act.put, qq]
        refine qR 8 fun K hK => ?_
        go_simp
        refine (HBe.out _ (bmore B0.out bd n!)).mono ?_
        rintro e wb ⟨rfl, rfl⟩
        refine hK.out _ _ (CS.out _ bd) (fun hHeld => ?_)
        clear hK
        try simp only [Act.put, qq]
        refine qT 9 ?_
        try simp only [Act.put, qq]
        refine qT 10 ?_
        try simp only [Act.put, qq]
        refine qT 11 ?_
        try simp only [Act.put, qq]
        refine qS 12 ?_
        try simp only [Act.put, qq]
        refine qS 13 ?_
        try simp only [Act.put, qq]
        refine qS 14 ?_
        try simp only [Act.put, qq]
        refine qS 15 ?_
        try simp only [Act.put, qq]
        refine qS 16 ?_
        try simp only [Act.put, qq]
        refine qS 17 ?_
        try simp only [Act.put, qq]
        refine qS 18 ?_
        try simp only [Act.put, qq]
        refine qS 19 ?_
        try simp only [Act.put, qq]
        refine qS 20 ?_
        try simp only [Act.put, qq]
        refine qT 21 ?_
        try simp only [Act.put, qq]
        refine qT 22 ?_
        try simp only [Act.put, qq]
        refine wpAnyH_done (by kernel_rfl) ?_ _
        go_wp2_with fail
        go_ret
        exact bool_ret (by rw [ER.out]; simp [G3.out]) (bmore B0.out bd n!)
       ·have G3 := h! e3
        cases ma
        all_goals
         refine qT 0 ?_
         try simp only [Act.put, qq]
         refine qT 1 ?_
         try simp only [Act.put, qq]
         refine qT 2 ?_
         try simp only [Act.put, qq]
         refine qT 3 ?_
         try simp only [Act.put, qq]
         refine qT 4 ?_
         try simp only [Act.put, qq]
         refine qT 5 ?_
         try simp only [Act.put, qq]
         refine qT 6 ?_
         try simp only [Act.put, qq]
         refine qT 7 ?_
         try simp only [Act.put, qq]
         refine qR 8 fun K hK => ?_
         go_simp
         refine (HBe.out _ (bmore B0.out bd n!)).mono ?_
         rintro e wb ⟨rfl, rfl⟩
         refine hK.out _ _ (CS.out _ bd) (fun hHeld => ?_)
         clear hK
         try simp only [Act.put, qq]
         refine qT 9 ?_
         try simp only [Act.put, qq]
         refine qT 10 ?_
         try simp only [Act.put, qq]
         refine qT 11 ?_
         try simp only [Act.put, qq]
         refine qT 12 ?_
         try simp only [Act.put, qq]
         refine qT 13 ?_
         try simp only [Act.put, qq]
         refine qT 14 ?_
         try simp only [Act.put, qq]
         refine qT 15 ?_
         try simp only [Act.put, qq]
         refine qT 17 ?_
         try simp only [Act.put, qq]
         refine qT 18 ?_
         try simp only [Act.put, qq]
         refine qT 19 ?_
         try simp only [Act.put, qq]
         refine qR 16 fun K hK => ?_
         go_simp
         refine (HC2.out _ (bmore B0.out bd n!)).mono ?_
         rintro e wb ⟨rfl, rfl⟩
         refine hK.out _ _ (CS.out _ bd) (fun hHeld => ?_)
         clear hK
         try simp only [Act.put, qq]
         refine qT 20 ?_
         try simp only [Act.put, qq]
         refine qT 21 ?_
         try simp only [Act.put, qq]
         refine qT 22 ?_
         try simp only [Act.put, qq]
         refine wpAnyH_done (by kernel_rfl) ?_ _
         go_wp2_with fail
         go_ret
         exact bool_ret (by rw [ER.out]; simp [G3.out]) (bmore B0.out bd n!)
     ·have ER := h! (E2.out (by decide))
      clear E1 E2 HPH q0
      have bd := BN.out.drew
      go_upto_region 13 with (fail)
      clear t0 t1 t2 t3 t4 t5 t6
      have CS : Hid (∀ w', Below W0.heap.size W0 w' → w'.cell? ⟨w.heap.size, 0, none⟩ = some (.int .u8 3) ∧ w'.cell? ⟨w.heap.size, 1, none⟩ = some (.int .i64 ba) ∧ w'.cell? ⟨w.heap.size, 2, none⟩ = some (.slice A n c) ∧ w'.cell? ⟨w.heap.size, 3, none⟩ = some (.string wi) ∧ w'.cell? ⟨w.heap.size, 4, none⟩ = some (.string va) ∧ w'.cell? ⟨w.heap.size, 5, none⟩ = some (.slice B m d) ∧ w'.cell? ⟨w.heap.size, 6, none⟩ = some (.slice C k f)) := h! (fun W hb => ⟨(X0.out.below hb X0.out.lt).cell 0, (X0.out.below hb X0.out.lt).cell 1, (X0.out.below hb X0.out.lt).cell 2, (X0.out.below hb X0.out.lt).cell 3, (X0.out.below hb X0.out.lt).cell 4, (X0.out.below hb X0.out.lt).cell 5, (X0.out.below hb X0.out.lt).cell 6⟩)
      refine wp_region_held_drew (S := fun w' => w'.cell? ⟨w.heap.size, 0, none⟩ = some (.int .u8 3) ∧ w'.cell? ⟨w.heap.size, 1, none⟩ = some (.int .i64 ba) ∧ w'.cell? ⟨w.heap.size, 2, none⟩ = some (.slice A n c) ∧ w'.cell? ⟨w.heap.size, 3, none⟩ = some (.string wi) ∧ w'.cell? ⟨w.heap.size, 4, none⟩ = some (.string va) ∧ w'.cell? ⟨w.heap.size, 5, none⟩ = some (.slice B m d) ∧ w'.cell? ⟨w.heap.size, 6, none⟩ = some (.slice C k f)) (by kernel_rfl) (CS.out _ bd) (fun hHeld => ?_)
      cases mo
      ·refine qT 0 ?_
       try simp only [Act.put, qq]
       refine qT 1 ?_
       try simp only [Act.put, qq]
       refine qS 2 ?_
       try simp only [Act.put, qq]
       refine qS 3 ?_
       try simp only [Act.put, qq]
       refine qS 4 ?_
       try simp only [Act.put, qq]
       refine qS 5 ?_
       try simp only [Act.put, qq]
       refine qS 6 ?_
       try simp only [Act.put, qq]
       refine qS 7 ?_
       try simp only [Act.put, qq]
       refine qS 8 ?_
       try simp only [Act.put, qq]
       refine qS 9 ?_
       try simp only [Act.put, qq]
       refine qT 10 ?_
       try simp only [Act.put, qq]
       refine qT 11 ?_
       try simp only [Act.put, qq]
       refine qS 12 ?_
       try simp only [Act.put, qq]
       refine qS 13 ?_
       try simp only [Act.put, qq]
       refine qS 14 ?_
       try simp only [Act.put, qq]
       refine qS 15 ?_
       try simp only [Act.put, qq]
       refine qS 16 ?_
       try simp only [Act.put, qq]
       refine qS 17 ?_
       try simp only [Act.put, qq]
       refine qS 18 ?_
       try simp only [Act.put, qq]
       refine qS 19 ?_
       try simp only [Act.put, qq]
       refine qS 20 ?_
       try simp only [Act.put, qq]
       refine qT 21 ?_
       try simp only [Act.put, qq]
       refine qT 22 ?_
       try simp only [Act.put, qq]
       refine wpAnyH_done (by kernel_rfl) ?_ _
       go_wp2_with fail
       go_ret
       exact bool_ret (by rw [ER.out]; simp) (bmore B0.out bd n!)
      ·rcases e3 : va.toList == be.toList with _ | _
       ·have G3 := h! e3
        refine qT 0 ?_
        try simp only [Act.put, qq]
        refine qT 1 ?_
        try simp only [Act.put, qq]
        refine qT 2 ?_
        try simp only [Act.put, qq]
        refine qT 3 ?_
        try simp only [Act.put, qq]
        refine qT 4 ?_
        try simp only [Act.put, qq]
        refine qT 5 ?_
        try simp only [Act.put, qq]
        refine qT 6 ?_
        try simp only [Act.put, qq]
        refine qT 7 ?_
        try simp only [Act.put, qq]
        refine qR 8 fun K hK => ?_
        go_simp
        refine (HBe.out _ (bmore B0.out bd n!)).mono ?_
        rintro e wb ⟨rfl, rfl⟩
        refine hK.out _ _ (CS.out _ bd) (fun hHeld => ?_)
        clear hK
        try simp only [Act.put, qq]
        refine qT 9 ?_
        try simp only [Act.put, qq]
        refine qT 10 ?_
        try simp only [Act.put, qq]
        refine qT 11 ?_
        try simp only [Act.put, qq]
        refine qS 12 ?_
        try simp only [Act.put, qq]
        refine qS 13 ?_
        try simp only [Act.put, qq]
        refine qS 14 ?_
        try simp only [Act.put, qq]
        refine qS 15 ?_
        try simp only [Act.put, qq]
        refine qS 16 ?_
        try simp only [Act.put, qq]
        refine qS 17 ?_
        try simp only [Act.put, qq]
        refine qS 18 ?_
        try simp only [Act.put, qq]
        refine qS 19 ?_
        try simp only [Act.put, qq]
        refine qS 20 ?_
        try simp only [Act.put, qq]
        refine qT 21 ?_
        try simp only [Act.put, qq]
        refine qT 22 ?_
        try simp only [Act.put, qq]
        refine wpAnyH_done (by kernel_rfl) ?_ _
        go_wp2_with fail
        go_ret
        exact bool_ret (by rw [ER.out]; simp [G3.out]) (bmore B0.out bd n!)
       ·have G3 := h! e3
        cases ma
        all_goals
         refine qT 0 ?_
         try simp only [Act.put, qq]
         refine qT 1 ?_
         try simp only [Act.put, qq]
         refine qT 2 ?_
         try simp only [Act.put, qq]
         refine qT 3 ?_
         try simp only [Act.put, qq]
         refine qT 4 ?_
         try simp only [Act.put, qq]
         refine qT 5 ?_
         try simp only [Act.put, qq]
         refine qT 6 ?_
         try simp only [Act.put, qq]
         refine qT 7 ?_
         try simp only [Act.put, qq]
         refine qR 8 fun K hK => ?_
         go_simp
         refine (HBe.out _ (bmore B0.out bd n!)).mono ?_
         rintro e wb ⟨rfl, rfl⟩
         refine hK.out _ _ (CS.out _ bd) (fun hHeld => ?_)
         clear hK
         try simp only [Act.put, qq]
         refine qT 9 ?_
         try simp only [Act.put, qq]
         refine qT 10 ?_
         try simp only [Act.put, qq]
         refine qT 11 ?_
         try simp only [Act.put, qq]
         refine qT 12 ?_
         try simp only [Act.put, qq]
         refine qT 13 ?_
         try simp only [Act.put, qq]
         refine qT 14 ?_
         try simp only [Act.put, qq]
         refine qT 15 ?_
         try simp only [Act.put, qq]
         refine qT 17 ?_
         try simp only [Act.put, qq]
         refine qT 18 ?_
         try simp only [Act.put, qq]
         refine qT 19 ?_
         try simp only [Act.put, qq]
         refine qR 16 fun K hK => ?_
         go_simp
         refine (HC2.out _ (bmore B0.out bd n!)).mono ?_
         rintro e wb ⟨rfl, rfl⟩
         refine hK.out _ _ (CS.out _ bd) (fun hHeld => ?_)
         clear hK
         try simp only [Act.put, qq]
         refine qT 20 ?_
         try simp only [Act.put, qq]
         refine qT 21 ?_
         try simp only [Act.put, qq]
         refine qT 22 ?_
         try simp only [Act.put, qq]
         refine wpAnyH_done (by kernel_rfl) ?_ _
         go_wp2_with fail
         go_ret
         exact bool_ret (by rw [ER.out]; simp [G3.out]) (bmore B0.out bd n!)
theorem may_not {a : AM.At} (h0 : ¬ a.ph = 0) (h : ¬ (a.ph ≤ 3 ∧ BM.good a.ba ∧ QM.may a.ms = true ∧ a.wi.size ≤ 1024 ∧ AM.some a.ms (AM.nodes a.ps) = true ∧ AM.some a.ms a.ac = true)) : AM.may a = false := by
 rcases hm : AM.may a with _ | _
 ·rfl
 ·obtain ⟨h1, h2, h3, _⟩ := AM.may_pos hm h0
  obtain ⟨g1, g2, g3, g4⟩ := AM.okL_parts'.1 h3
  unfold AM.okB at g1
  simp only [Bool.and_eq_true, decide_eq_true_eq] at g1
  exact absurd ⟨h2, g1.2.1, g1.1, g1.2.2, g3, g4⟩ h
theorem may_end {ph ba : Int} {ms : List Int} {wi va : ByteArray} {ps : List AM.Pr} {ac : List Int} (p1 : 1 ≤ ph) (p3 : ph ≤ 3) (hg : BM.good ba) (hm : QM.may ms = true) (hw : wi.size ≤ 1024) (s1 : AM.some ms (AM.nodes ps) = true) (s2 : AM.some ms ac = true) :
  mayEnd ph ba ms wi va ps ac = AM.may ⟨ph, ba, ms, wi, va, ps, ac⟩ := by
 unfold mayEnd AM.may AM.okL AM.okB
 rw [if_neg (show ¬ (⟨ph, ba, ms, wi, va, ps, ac⟩ : AM.At).ph = 0 by show ¬ ph = 0; omega)]
 simp only [hm, s1, s2]
 rw [show decide (1 ≤ ph ∧ ph ≤ 3) = true by simp; omega, show decide (BM.good ba) = true by simpa using hg, show decide (wi.size ≤ 1024) = true by simpa using hw]
 simp only [Bool.true_and, Bool.and_true]
theorem rmay_any (v : Value) (a : AM.At) (w : World) (H : AtIs w v a) (F : Fit a) :
  Calls Tryz.prog 42 #[v] w (BoolIs (AM.may a) w) := by
 obtain ⟨A, n, c, B, m, d, C, k, f, rfl, h1, h2, h3⟩ := H
 obtain ⟨ph, ba, ms, wi, va, ps, ac⟩ := a
 have hp0 := F.p1
 simp only at h1 h2 h3 hp0 ⊢
 by_cases hp : ph = 0
 ·exact rmay_0 ph ba ms wi va ps ac A n c B m d C k f w h1 h2 h3 F hp
 by_cases p3 : 3 < ph
 ·rw [may_not hp (fun h => by have := h.1; simp only at this; omega)]
  exact rmay_1 ph ba ms wi va ps ac A n c B m d C k f w h1 h2 h3 F hp p3
 have p3 : ph ≤ 3 := by omega
 by_cases hg : BM.good ba
 rotate_left
 ·rw [may_not hp (fun h => hg h.2.1)]
  exact rmay_2 ph ba ms wi va ps ac A n c B m d C k f w h1 h2 h3 F hp p3 hg
 rcases hm : QM.may ms with _ | _
 ·rw [may_not hp (fun h => by have := h.2.2.1; simp only at this; rw [hm] at this; cases this)]
  exact rmay_3 ph ba ms wi va ps ac A n c B m d C k f w h1 h2 h3 F hp p3 hg hm
 by_cases hw : 1024 < wi.size
 ·rw [may_not hp (fun h => by have := h.2.2.2.1; simp only at this; omega)]
  exact rmay_4 ph ba ms wi va ps ac A n c B m d C k f w h1 h2 h3 F hp p3 hg hm hw
 have hw : wi.size ≤ 1024 := by omega
 rcases hs1 : (AM.adj (AM.nodes ps) && QM.within (AM.nodes ps) ms) with _ | _
 ·rw [may_not hp (fun h => by have := h.2.2.2.2.1; simp only at this; rw [← AM.some_adj hm, hs1] at this; cases this)]
  exact rmay_5 ph ba ms wi va ps ac A n c B m d C k f w h1 h2 h3 F hp p3 hg hm hw hs1
 rcases hs2 : (AM.adj ac && QM.within ac ms) with _ | _
 ·rw [may_not hp (fun h => by have := h.2.2.2.2.2; simp only at this; rw [← AM.some_adj hm, hs2] at this; cases this)]
  exact rmay_6 ph ba ms wi va ps ac A n c B m d C k f w h1 h2 h3 F hp p3 hg hm hw hs1 hs2
 rw [← may_end (va := va) (show 1 ≤ ph by omega) p3 hg hm hw (by rw [← AM.some_adj hm]; exact hs1) (by rw [← AM.some_adj hm]; exact hs2)]
 exact rmay_7 ph ba ms wi va ps ac A n c B m d C k f w h1 h2 h3 F hp p3 hp0 hg hm hw hs1 hs2
end Go.Proofs.YtiiobafcgdelmaaGreat
