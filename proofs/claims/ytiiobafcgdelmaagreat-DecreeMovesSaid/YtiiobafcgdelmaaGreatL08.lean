/- Contracts of functions of towncrier, layers 5 to 9, and of the document's own ones, part 8; each as its theorem says. -/
import Derived.Test.YtiiobafcgdelmaaGreatL01
import Derived.Test.YtiiobafcgdelmaaGreatL07
import Derived.Test.YtiiobafcgdelmaaGreatL02
import Derived.Laws.IdiomCopy
import Derived.Lib.AppendZerosOnto
import Derived.Lib.Overlaps
import Derived.Shelf.RegionOpenPlain
set_option linter.unusedVariables false
set_option linter.unusedSimpArgs false
namespace Go.Proofs.YtiiobafcgdelmaaGreat
open Go.RowKit
def LateMid (w : World) (b : Bool) (u : Value) (wx : World) : Prop := u = .bool b ∧ Below w.heap.size w wx
theorem begun_okL {a : AM.At} (h : AM.okL a = false) : AM.begun a = false := by unfold AM.begun; rw [h]; rfl
theorem okL_parts (a : AM.At) : AM.okL a = (AM.okB a.ms a.ba a.wi && (a.ps.all (AM.okP a.ba) && (AM.some a.ms (AM.nodes a.ps) && AM.some a.ms a.ac))) := rfl
theorem str_eq2 (s t : ByteArray) : (s.toList == t.toList) = decide (s = t) := by
 rw [Bool.eq_iff_iff, beq_iff_eq, decide_eq_true_iff, ByteArray.toList_eq, ByteArray.toList_eq]
 constructor
 ·intro e
  obtain ⟨⟨l⟩⟩ := s
  obtain ⟨⟨k⟩⟩ := t
  simp at e
  rw [e]
 ·rintro rfl; rfl
theorem begun_fin {a : AM.At} {x : Int} {s : ByteArray} {k : Nat} (h : AM.okL a = true) (hx : x = (AM.again a).ph) (hs : s = (AM.again a).va) (hk : a.ac.length = k) :
  AM.begun a = ((!((x == 1) && decide (0 < k))) && ((a.ph == x) && (a.va.toList == s.toList))) := by
 unfold AM.begun
 rw [h, ← hx, ← hs, str_eq2, Bool.true_and]
 have e1 : decide (x = 1) = (x == 1) := by rw [Bool.eq_iff_iff]; simp
 have e2 : decide (a.ph = x) = (a.ph == x) := by rw [Bool.eq_iff_iff]; simp
 have e3 : (!a.ac.isEmpty) = decide (0 < k) := by
  subst hk
  rcases a.ac with _ | ⟨y, l⟩ <;> simp
 rw [e1, e2, e3]
theorem hAgain (a : AM.At) : AM.again a = AM.onward ⟨1, a.ba, a.ms, a.wi, ⟨#[]⟩, a.ps, a.ac⟩ := rfl
set_option maxRecDepth 100000 in
set_option maxHeartbeats 4000000 in
theorem isBegun_any (v : Value) (a : AM.At) (w : World) (H : AtIs w v a) (F : Fit a) :
  Calls Tryz.prog 104 #[v] w (BoolIs (AM.begun a) w) := by
 obtain ⟨A, n, c, B, m, d, C, k, f, rfl, h1, h2, h3⟩ := H
 obtain ⟨f1, f2, f3⟩ := AtIs.fit_n h1 h2 h3 F
 obtain ⟨y, hy⟩ := AM.begIs_ex a.ms a.ba a.wi
 have hw := fun W (hb : Below w.heap.size w W) => wrong_any A n c a.ms a.ba a.wi y W (h1.below hb) (by omega) F.b1 F.b2 F.wi hy
 have hbe := fun (z : Bool) (x : Int) (s : ByteArray) (hq : AM.okL a = true) => begun_fin (a := a) (x := x) (s := s) (k := k) hq
 have hlate : AM.okL a = false → AM.begun a = false := begun_okL
 have hpar := okL_parts a
 have hokB : AM.okB a.ms a.ba a.wi = decide (y = 0) := by
  by_cases h0 : y = 0
  ·subst h0; rw [AM.begIs_zero.1 hy]; rfl
  ·rcases hb : AM.okB a.ms a.ba a.wi with _ | _
   ·simp [h0]
   ·exact absurd (AM.begIs_eq hy (AM.begIs_zero.2 hb)) h0
 rw [hokB] at hpar
 have hmay : y = 0 → QM.may a.ms = true := fun h0 => by
  have := hokB; rw [h0] at this
  unfold AM.okB at this
  simp only [decide_true, Bool.and_eq_true] at this
  exact this.1
 have hag := hAgain a
 have l3 : a.ac.length = k := by have := h3.1; rwa [ic_length] at this
 have F' := F.all
 have l2 : a.ps.length = m := h2.1
 obtain ⟨ph, ba, ms, wi, va, ps, ac⟩ := a
 simp only at h1 h2 h3 hw hlate hpar hmay hbe F' l3 l2 hag ⊢
 obtain ⟨W0, hW0⟩ : ∃ W0, W0 = w.alloc (.cells #[.int .u8 ph, .int .i64 ba, .slice A n c, .string wi, .string va, .slice B m d, .slice C k f] 57) := ⟨_, rfl⟩
 have hb0 : Below w.heap.size w W0 := by rw [hW0]; exact (Below.refl _ _).alloc n! _
 have hx0 : Box W0 w.heap.size 57 #[.int .u8 ph, .int .i64 ba, .slice A n c, .string wi, .string va, .slice B m d, .slice C k f] := by rw [hW0]; exact Box.new _ _ _
 have HX0 := h! hx0
 have HW := h! (hw _ hb0)
 rw [hW0] at HW
 have HB0 := h! hb0
 by_cases h0 : y = 0
 ·
  subst h0
  rw [show decide ((0 : Int) = 0) = true by simp, Bool.true_and] at hpar
  have hm := hmay rfl
  have HA := h! (fun (W : World) (hb : Below w.heap.size w W) => arePromises_any ba B m d ps W (h2.below hb) (by omega) F')
  have HN := h! (fun (W : World) (hb : Below w.heap.size w W) => nodesOf_any B m d ps W (h2.below hb) f2)
  have HS1 := h! (fun (W : World) (hb : Below w.heap.size w W) (D : Option Addr) (q r : Nat) (hd : Rd W D q (ic (AM.nodes ps))) => areSome_any A n c ms D q r (AM.nodes ps) W (h1.below hb) hd hm (by have := hd.1; rw [ic_length, AM.nodes_length] at this; omega))
  have HS2 := h! (fun (W : World) (hb : Below w.heap.size w W) => areSome_any A n c ms C k f ac W (h1.below hb) (h3.below hb) hm (by omega))
  obtain ⟨x, hx⟩ : ∃ x, x = (AM.again ⟨ph, ba, ms, wi, va, ps, ac⟩).ph := ⟨_, rfl⟩
  obtain ⟨s, hs⟩ : ∃ s, s = (AM.again ⟨ph, ba, ms, wi, va, ps, ac⟩).va := ⟨_, rfl⟩
  have HO := h! (fun (W : World) (hb : Below w.heap.size w W) (hq : m ≤ 1000) (hr : k ≤ 1000) => onward_lit ⟨1, ba, ms, wi, ⟨#[]⟩, ps, ac⟩ x s hx hs A n c B m d C k f W (h1.below hb) (h2.below hb) (h3.below hb) hm hq hr)
  have hsl1 : AM.some ms (AM.nodes ps) = true → m ≤ 1000 := fun h => by have := AM.some_len h; rw [AM.nodes_length] at this; omega
  have hsl2 : AM.some ms ac = true → k ≤ 1000 := fun h => by have := AM.some_len h; omega
  generalize AM.some ms (AM.nodes ps) = s1 at HS1 hpar hsl1
  generalize AM.some ms ac = s2 at HS2 hpar hsl2
  generalize ps.all (AM.okP ba) = pa at HA hpar
  have HL := h! hlate
  clear hb0 hx0 hw hy h1 h2 h3 hmay hokB hlate F' F
  rcases pa with _ | _
  ·
   have HE := h! (HL.out (by rw [hpar]; rfl))
   clear hpar hbe hag hsl1 hsl2
   go_enter Tryz.func104, Tryz.ntmps104
   go_wp2_with fail
   refine HW.out.mono ?_
   rintro e w1 ⟨rfl, rfl⟩
   go_upto_region 3 with (fail)
   rw [← hW0]
   clear hW0
   go_cut [34] (fun u wx => LateMid W0 true u wx)
   case first =>
    have hS : ∀ w', Below W0.heap.size W0 w' → w'.cell? ⟨w.heap.size, 1, none⟩ = some (.int .i64 ba) ∧ w'.cell? ⟨w.heap.size, 2, none⟩ = some (.slice A n c) ∧ w'.cell? ⟨w.heap.size, 5, none⟩ = some (.slice B m d) ∧ w'.cell? ⟨w.heap.size, 6, none⟩ = some (.slice C k f) := fun w' h => ⟨(HX0.out.below h HX0.out.lt).cell 1, (HX0.out.below h HX0.out.lt).cell 2, (HX0.out.below h HX0.out.lt).cell 5, (HX0.out.below h HX0.out.lt).cell 6⟩
    have HSS := h! hS; clear hS
    have bb1 : Below W0.heap.size W0 W0.drew := (Below.refl _ _).drew
    refine wp_region_held_drew (S := fun w' => w'.cell? ⟨w.heap.size, 1, none⟩ = some (.int .i64 ba) ∧ w'.cell? ⟨w.heap.size, 2, none⟩ = some (.slice A n c) ∧ w'.cell? ⟨w.heap.size, 5, none⟩ = some (.slice B m d) ∧ w'.cell? ⟨w.heap.size, 6, none⟩ = some (.slice C k f)) (by kernel_rfl) (HSS.out _ bb1) (fun hHeld => ?_)
    refine qT 0 ?_
    try simp only [Act.put, qq]
    refine qT 1 ?_
    try simp only [Act.put, qq]
    refine qT 2 ?_
    try simp only [Act.put, qq]
    refine qT 3 ?_
    try simp only [Act.put, qq]
    refine qR 4 fun K hK => ?_
    go_simp
    refine (HA.out _ (bmore HB0.out bb1 n!)).mono ?_
    rintro e wa ⟨rfl, ha⟩
    have bb2 : Below W0.heap.size W0 wa := bmore bb1 ha n!
    refine hK.out _ _ (HSS.out _ bb2) (fun hHeld => ?_)
    clear hK
    try simp only [Act.put, qq]
    refine qT 5 ?_
    try simp only [Act.put, qq]
    refine qT 6 ?_
    try simp only [Act.put, qq]
    refine qS 7 ?_
    try simp only [Act.put, qq]
    refine qS 8 ?_
    try simp only [Act.put, qq]
    refine qS 9 ?_
    try simp only [Act.put, qq]
    refine qS 10 ?_
    try simp only [Act.put, qq]
    refine qS 11 ?_
    try simp only [Act.put, qq]
    refine qS 12 ?_
    try simp only [Act.put, qq]
    refine qS 13 ?_
    try simp only [Act.put, qq]
    refine qT 14 ?_
    try simp only [Act.put, qq]
    refine qT 15 ?_
    try simp only [Act.put, qq]
    refine qS 16 ?_
    try simp only [Act.put, qq]
    refine qS 17 ?_
    try simp only [Act.put, qq]
    refine qS 18 ?_
    try simp only [Act.put, qq]
    refine qS 19 ?_
    try simp only [Act.put, qq]
    refine qS 20 ?_
    try simp only [Act.put, qq]
    refine qS 21 ?_
    try simp only [Act.put, qq]
    refine qT 22 ?_
    try simp only [Act.put, qq]
    refine wpAnyH_done (by kernel_rfl) ?_ _
    go_wp2_with fail
    go_meet
    case rel => exact ⟨rfl, bb2⟩
   case rest =>
    obtain ⟨rfl, hmb⟩ := hcut
    have HBM := h! (bmore HB0.out hmb n!)
    clear hmb
    go_wp2_with fail
    go_ret
    exact bool_ret (by first | exact HE.out.symm | (rw [HE.out]; rfl)) HBM.out
  ·
   rcases s1 with _ | _
   ·
    have HE := h! (HL.out (by rw [hpar]; rfl))
    clear hpar hbe hag hsl1 hsl2
    go_enter Tryz.func104, Tryz.ntmps104
    go_wp2_with fail
    refine HW.out.mono ?_
    rintro e w1 ⟨rfl, rfl⟩
    go_upto_region 3 with (fail)
    rw [← hW0]
    clear hW0
    go_cut [34] (fun u wx => LateMid W0 true u wx)
    case first =>
     have hS : ∀ w', Below W0.heap.size W0 w' → w'.cell? ⟨w.heap.size, 1, none⟩ = some (.int .i64 ba) ∧ w'.cell? ⟨w.heap.size, 2, none⟩ = some (.slice A n c) ∧ w'.cell? ⟨w.heap.size, 5, none⟩ = some (.slice B m d) ∧ w'.cell? ⟨w.heap.size, 6, none⟩ = some (.slice C k f) := fun w' h => ⟨(HX0.out.below h HX0.out.lt).cell 1, (HX0.out.below h HX0.out.lt).cell 2, (HX0.out.below h HX0.out.lt).cell 5, (HX0.out.below h HX0.out.lt).cell 6⟩
     have HSS := h! hS; clear hS
     have bb1 : Below W0.heap.size W0 W0.drew := (Below.refl _ _).drew
     refine wp_region_held_drew (S := fun w' => w'.cell? ⟨w.heap.size, 1, none⟩ = some (.int .i64 ba) ∧ w'.cell? ⟨w.heap.size, 2, none⟩ = some (.slice A n c) ∧ w'.cell? ⟨w.heap.size, 5, none⟩ = some (.slice B m d) ∧ w'.cell? ⟨w.heap.size, 6, none⟩ = some (.slice C k f)) (by kernel_rfl) (HSS.out _ bb1) (fun hHeld => ?_)
     refine qT 0 ?_
     try simp only [Act.put, qq]
     refine qT 1 ?_
     try simp only [Act.put, qq]
     refine qT 2 ?_
     try simp only [Act.put, qq]
     refine qT 3 ?_
     try simp only [Act.put, qq]
     refine qR 4 fun K hK => ?_
     go_simp
     refine (HA.out _ (bmore HB0.out bb1 n!)).mono ?_
     rintro e wa ⟨rfl, ha⟩
     have bb2 : Below W0.heap.size W0 wa := bmore bb1 ha n!
     refine hK.out _ _ (HSS.out _ bb2) (fun hHeld => ?_)
     clear hK
     try simp only [Act.put, qq]
     refine qT 5 ?_
     try simp only [Act.put, qq]
     refine qT 6 ?_
     try simp only [Act.put, qq]
     refine qT 7 ?_
     try simp only [Act.put, qq]
     refine qT 8 ?_
     try simp only [Act.put, qq]
     refine qT 9 ?_
     try simp only [Act.put, qq]
     refine qT 10 ?_
     try simp only [Act.put, qq]
     refine qR 11 fun K hK => ?_
     go_simp
     refine (HN.out _ (bmore HB0.out bb2 n!)).mono ?_
     rintro e wb ⟨A', c', rfl, ho, hb⟩
     have bb3 : Below W0.heap.size W0 wb := bmore bb2 hb n!
     have hrd := Rd.of_own ho
     refine hK.out _ _ (HSS.out _ bb3) (fun hHeld => ?_)
     clear hK
     try simp only [Act.put, qq]
     refine qR 12 fun K hK => ?_
     go_simp
     refine (HS1.out _ (bmore HB0.out bb3 n!) _ _ _ hrd).mono ?_
     rintro e wd ⟨rfl, hd⟩
     have bb4 : Below W0.heap.size W0 wd := bmore bb3 hd n!
     refine hK.out _ _ (HSS.out _ bb4) (fun hHeld => ?_)
     clear hK
     try simp only [Act.put, qq]
     refine qT 13 ?_
     try simp only [Act.put, qq]
     refine qT 14 ?_
     try simp only [Act.put, qq]
     refine qT 15 ?_
     try simp only [Act.put, qq]
     refine qS 16 ?_
     try simp only [Act.put, qq]
     refine qS 17 ?_
     try simp only [Act.put, qq]
     refine qS 18 ?_
     try simp only [Act.put, qq]
     refine qS 19 ?_
     try simp only [Act.put, qq]
     refine qS 20 ?_
     try simp only [Act.put, qq]
     refine qS 21 ?_
     try simp only [Act.put, qq]
     refine qT 22 ?_
     try simp only [Act.put, qq]
     refine wpAnyH_done (by kernel_rfl) ?_ _
     go_wp2_with fail
     go_meet
     case rel => exact ⟨rfl, bb4⟩
    case rest =>
     obtain ⟨rfl, hmb⟩ := hcut
     have HBM := h! (bmore HB0.out hmb n!)
     clear hmb
     go_wp2_with fail
     go_ret
     exact bool_ret (by first | exact HE.out.symm | (rw [HE.out]; rfl)) HBM.out
   ·
    rcases s2 with _ | _
    ·
     have HE := h! (HL.out (by rw [hpar]; rfl))
     clear hpar hbe hag hsl1 hsl2
     go_enter Tryz.func104, Tryz.ntmps104
     go_wp2_with fail
     refine HW.out.mono ?_
     rintro e w1 ⟨rfl, rfl⟩
     go_upto_region 3 with (fail)
     rw [← hW0]
     clear hW0
     go_cut [34] (fun u wx => LateMid W0 true u wx)
     case first =>
      have hS : ∀ w', Below W0.heap.size W0 w' → w'.cell? ⟨w.heap.size, 1, none⟩ = some (.int .i64 ba) ∧ w'.cell? ⟨w.heap.size, 2, none⟩ = some (.slice A n c) ∧ w'.cell? ⟨w.heap.size, 5, none⟩ = some (.slice B m d) ∧ w'.cell? ⟨w.heap.size, 6, none⟩ = some (.slice C k f) := fun w' h => ⟨(HX0.out.below h HX0.out.lt).cell 1, (HX0.out.below h HX0.out.lt).cell 2, (HX0.out.below h HX0.out.lt).cell 5, (HX0.out.below h HX0.out.lt).cell 6⟩
      have HSS := h! hS; clear hS
      have bb1 : Below W0.heap.size W0 W0.drew := (Below.refl _ _).drew
      refine wp_region_held_drew (S := fun w' => w'.cell? ⟨w.heap.size, 1, none⟩ = some (.int .i64 ba) ∧ w'.cell? ⟨w.heap.size, 2, none⟩ = some (.slice A n c) ∧ w'.cell? ⟨w.heap.size, 5, none⟩ = some (.slice B m d) ∧ w'.cell? ⟨w.heap.size, 6, none⟩ = some (.slice C k f)) (by kernel_rfl) (HSS.out _ bb1) (fun hHeld => ?_)
      refine qT 0 ?_
      try simp only [Act.put, qq]
      refine qT 1 ?_
      try simp only [Act.put, qq]
      refine qT 2 ?_
      try simp only [Act.put, qq]
      refine qT 3 ?_
      try simp only [Act.put, qq]
      refine qR 4 fun K hK => ?_
      go_simp
      refine (HA.out _ (bmore HB0.out bb1 n!)).mono ?_
      rintro e wa ⟨rfl, ha⟩
      have bb2 : Below W0.heap.size W0 wa := bmore bb1 ha n!
      refine hK.out _ _ (HSS.out _ bb2) (fun hHeld => ?_)
      clear hK
      try simp only [Act.put, qq]
      refine qT 5 ?_
      try simp only [Act.put, qq]
      refine qT 6 ?_
      try simp only [Act.put, qq]
      refine qT 7 ?_
      try simp only [Act.put, qq]
      refine qT 8 ?_
      try simp only [Act.put, qq]
      refine qT 9 ?_
      try simp only [Act.put, qq]
      refine qT 10 ?_
      try simp only [Act.put, qq]
      refine qR 11 fun K hK => ?_
      go_simp
      refine (HN.out _ (bmore HB0.out bb2 n!)).mono ?_
      rintro e wb ⟨A', c', rfl, ho, hb⟩
      have bb3 : Below W0.heap.size W0 wb := bmore bb2 hb n!
      have hrd := Rd.of_own ho
      refine hK.out _ _ (HSS.out _ bb3) (fun hHeld => ?_)
      clear hK
      try simp only [Act.put, qq]
      refine qR 12 fun K hK => ?_
      go_simp
      refine (HS1.out _ (bmore HB0.out bb3 n!) _ _ _ hrd).mono ?_
      rintro e wd ⟨rfl, hd⟩
      have bb4 : Below W0.heap.size W0 wd := bmore bb3 hd n!
      refine hK.out _ _ (HSS.out _ bb4) (fun hHeld => ?_)
      clear hK
      try simp only [Act.put, qq]
      refine qT 13 ?_
      try simp only [Act.put, qq]
      refine qT 14 ?_
      try simp only [Act.put, qq]
      refine qT 15 ?_
      try simp only [Act.put, qq]
      refine qT 16 ?_
      try simp only [Act.put, qq]
      refine qT 17 ?_
      try simp only [Act.put, qq]
      refine qT 18 ?_
      try simp only [Act.put, qq]
      refine qT 19 ?_
      try simp only [Act.put, qq]
      refine qR 20 fun K hK => ?_
      go_simp
      refine (HS2.out _ (bmore HB0.out bb4 n!)).mono ?_
      rintro e we ⟨rfl, he⟩
      have bb5 : Below W0.heap.size W0 we := bmore bb4 he n!
      refine hK.out _ _ (HSS.out _ bb5) (fun hHeld => ?_)
      clear hK
      try simp only [Act.put, qq]
      refine qT 21 ?_
      try simp only [Act.put, qq]
      refine qT 22 ?_
      try simp only [Act.put, qq]
      refine wpAnyH_done (by kernel_rfl) ?_ _
      go_wp2_with fail
      go_meet
      case rel => exact ⟨rfl, bb5⟩
     case rest =>
      obtain ⟨rfl, hmb⟩ := hcut
      have HBM := h! (bmore HB0.out hmb n!)
      clear hmb
      go_wp2_with fail
      go_ret
      exact bool_ret (by first | exact HE.out.symm | (rw [HE.out]; rfl)) HBM.out
    ·
     have hbf := hbe true x s (by rw [hpar]; rfl) hx hs l3
     have hq1 := hsl1 rfl
     have hq2 := hsl2 rfl
     have HBF := h! hbf
     clear hpar hbe hsl1 hsl2 hbf hx hs hag
     go_enter Tryz.func104, Tryz.ntmps104
     go_wp2_with fail
     refine HW.out.mono ?_
     rintro e w1 ⟨rfl, rfl⟩
     go_upto_region 3 with (fail)
     rw [← hW0]
     clear hW0
     go_cut [34] (fun u wx => LateMid W0 false u wx)
     case first =>
      have hS : ∀ w', Below W0.heap.size W0 w' → w'.cell? ⟨w.heap.size, 1, none⟩ = some (.int .i64 ba) ∧ w'.cell? ⟨w.heap.size, 2, none⟩ = some (.slice A n c) ∧ w'.cell? ⟨w.heap.size, 5, none⟩ = some (.slice B m d) ∧ w'.cell? ⟨w.heap.size, 6, none⟩ = some (.slice C k f) := fun w' h => ⟨(HX0.out.below h HX0.out.lt).cell 1, (HX0.out.below h HX0.out.lt).cell 2, (HX0.out.below h HX0.out.lt).cell 5, (HX0.out.below h HX0.out.lt).cell 6⟩
      have HSS := h! hS; clear hS
      have bb1 : Below W0.heap.size W0 W0.drew := (Below.refl _ _).drew
      refine wp_region_held_drew (S := fun w' => w'.cell? ⟨w.heap.size, 1, none⟩ = some (.int .i64 ba) ∧ w'.cell? ⟨w.heap.size, 2, none⟩ = some (.slice A n c) ∧ w'.cell? ⟨w.heap.size, 5, none⟩ = some (.slice B m d) ∧ w'.cell? ⟨w.heap.size, 6, none⟩ = some (.slice C k f)) (by kernel_rfl) (HSS.out _ bb1) (fun hHeld => ?_)
      refine qT 0 ?_
      try simp only [Act.put, qq]
      refine qT 1 ?_
      try simp only [Act.put, qq]
      refine qT 2 ?_
      try simp only [Act.put, qq]
      refine qT 3 ?_
      try simp only [Act.put, qq]
      refine qR 4 fun K hK => ?_
      go_simp
      refine (HA.out _ (bmore HB0.out bb1 n!)).mono ?_
      rintro e wa ⟨rfl, ha⟩
      have bb2 : Below W0.heap.size W0 wa := bmore bb1 ha n!
      refine hK.out _ _ (HSS.out _ bb2) (fun hHeld => ?_)
      clear hK
      try simp only [Act.put, qq]
      refine qT 5 ?_
      try simp only [Act.put, qq]
      refine qT 6 ?_
      try simp only [Act.put, qq]
      refine qT 7 ?_
      try simp only [Act.put, qq]
      refine qT 8 ?_
      try simp only [Act.put, qq]
      refine qT 9 ?_
      try simp only [Act.put, qq]
      refine qT 10 ?_
      try simp only [Act.put, qq]
      refine qR 11 fun K hK => ?_
      go_simp
      refine (HN.out _ (bmore HB0.out bb2 n!)).mono ?_
      rintro e wb ⟨A', c', rfl, ho, hb⟩
      have bb3 : Below W0.heap.size W0 wb := bmore bb2 hb n!
      have hrd := Rd.of_own ho
      refine hK.out _ _ (HSS.out _ bb3) (fun hHeld => ?_)
      clear hK
      try simp only [Act.put, qq]
      refine qR 12 fun K hK => ?_
      go_simp
      refine (HS1.out _ (bmore HB0.out bb3 n!) _ _ _ hrd).mono ?_
      rintro e wd ⟨rfl, hd⟩
      have bb4 : Below W0.heap.size W0 wd := bmore bb3 hd n!
      refine hK.out _ _ (HSS.out _ bb4) (fun hHeld => ?_)
      clear hK
      try simp only [Act.put, qq]
      refine qT 13 ?_
      try simp only [Act.put, qq]
      refine qT 14 ?_
      try simp only [Act.put, qq]
      refine qT 15 ?_
      try simp only [Act.put, qq]
      refine qT 16 ?_
      try simp only [Act.put, qq]
      refine qT 17 ?_
      try simp only [Act.put, qq]
      refine qT 18 ?_
      try simp only [Act.put, qq]
      refine qT 19 ?_
      try simp only [Act.put, qq]
      refine qR 20 fun K hK => ?_
      go_simp
      refine (HS2.out _ (bmore HB0.out bb4 n!)).mono ?_
      rintro e we ⟨rfl, he⟩
      have bb5 : Below W0.heap.size W0 we := bmore bb4 he n!
      refine hK.out _ _ (HSS.out _ bb5) (fun hHeld => ?_)
      clear hK
      try simp only [Act.put, qq]
      refine qT 21 ?_
      try simp only [Act.put, qq]
      refine qT 22 ?_
      try simp only [Act.put, qq]
      refine wpAnyH_done (by kernel_rfl) ?_ _
      go_wp2_with fail
      go_meet
      case rel => exact ⟨rfl, bb5⟩
     case rest =>
      obtain ⟨rfl, hmb⟩ := hcut
      have HBM := h! (bmore HB0.out hmb n!)
      have hx1 := HX0.out.below hmb HX0.out.lt
      have hgs : w.heap.size < wc.heap.size := hx1.lt
      have HX2 := h! (hx1.alloc (.cells #[.int .u8 1, .int .i64 ba, .slice A n c, .string wi, .string ⟨#[]⟩, .slice B m d, .slice C k f] 57))
      have HY2 := h! (Box.new wc 57 #[.int .u8 1, .int .i64 ba, .slice A n c, .string wi, .string ⟨#[]⟩, .slice B m d, .slice C k f])
      have HB2 := h! (HBM.out.alloc HBM.out.size (.cells #[.int .u8 1, .int .i64 ba, .slice A n c, .string wi, .string ⟨#[]⟩, .slice B m d, .slice C k f] 57))
      have HG := h! hgs
      obtain ⟨⟨t0, t1, t2, t3, t4, t5, t6⟩, u0, u1, u2, u3, u4, u5, u6⟩ := hx1.seven
      clear hmb hx1 HX0 HB0 HBM HA HN HS1 HS2
      go_wp2_with fail
      clear t0 t1 t2 t3 t4 t5 t6 u0 u1 u2 u3 u4 u5 u6
      refine (HO.out _ HB2.out hq1 hq2).mono ?_
      rintro e w3 ⟨rfl, hb3⟩
      obtain ⟨g2, hg2⟩ : ∃ g2, wc.heap.size = g2 := ⟨_, rfl⟩
      have y3 := HY2.out.below hb3 HY2.out.lt
      rw [hg2] at y3
      have hne : w.heap.size ≠ g2 := by have := HG.out; omega
      have x3 := HX2.out.below hb3 HX2.out.lt
      have hx4 := x3.putFar7 hne (.int .u8 x) (.int .i64 ba) (.slice A n c) (.string wi) (.string s) (.slice B m d) (.slice C k f)
      have hy4 := y3.put7 (.int .u8 x) (.int .i64 ba) (.slice A n c) (.string wi) (.string s) (.slice B m d) (.slice C k f)
      have hb4 := below_put7 (bmore HB2.out hb3 n!) (g := g2) (by have := HG.out; omega) (.int .u8 x) (.int .i64 ba) (.slice A n c) (.string wi) (.string s) (.slice B m d) (.slice C k f)
      unfold put7 at hx4 hy4 hb4
      have HX4 := h! hx4
      have HY4 := h! hy4
      have HB4 := h! hb4
      obtain ⟨⟨v0, v1, v2, v3, v4, v5, v6⟩, z0, z1, z2, z3, z4, z5, z6⟩ := y3.seven
      clear hb3 y3 x3 hx4 hy4 hb4 HX2 HY2 HB2 HO
      go_upto_region 8 with (fail)
      generalize ((((((w3.setCell ⟨g2, 0, none⟩ (.int .u8 x)).setCell ⟨g2, 1, none⟩ (.int .i64 ba)).setCell ⟨g2, 2, none⟩ (.slice A n c)).setCell ⟨g2, 3, none⟩ (.string wi)).setCell ⟨g2, 4, none⟩ (.string s)).setCell ⟨g2, 5, none⟩ (.slice B m d)).setCell ⟨g2, 6, none⟩ (.slice C k f) = w4 at HX4 HY4 HB4 ⊢
      clear v0 v1 v2 v3 v4 v5 v6 z0 z1 z2 z3 z4 z5 z6
      obtain ⟨⟨t0, t1, t2, t3, t4, t5, t6⟩, _⟩ := HX4.out.seven
      obtain ⟨⟨v0, v1, v2, v3, v4, v5, v6⟩, _⟩ := HY4.out.seven
      rcases ex : (x == 1) with _ | _
      ·
       have E0 := h! ex
       rcases ep : (ph == x) with _ | _
       ·
        have E1 := h! ep
        go_wp2_with fail
        go_ret
        exact bool_ret (by rw [HBF.out, E0.out, E1.out]; simp) HB4.out
       ·
        have E1 := h! ep
        go_wp2_with fail
        go_ret
        exact bool_ret (by rw [HBF.out, E0.out, E1.out]; simp) HB4.out
      ·
       have E0 := h! ex
       by_cases hk0 : 0 < k
       ·
        have c1 : decide ((0 : Int) < (k : Int)) = true := by simp; omega
        have c2 : decide (0 < k) = true := by simp; omega
        have E2 := h! c2
        go_wp2_with fail
        go_ret
        exact bool_ret (by rw [HBF.out, E0.out, E2.out]; simp) HB4.out
       ·
        have c1 : decide ((0 : Int) < (k : Int)) = false := by simp; omega
        have c2 : decide (0 < k) = false := by simp; omega
        have E2 := h! c2
        rcases ep : (ph == x) with _ | _
        ·
         have E1 := h! ep
         go_wp2_with fail
         go_ret
         exact bool_ret (by rw [HBF.out, E0.out, E2.out, E1.out]; simp) HB4.out
        ·
         have E1 := h! ep
         go_wp2_with fail
         go_ret
         exact bool_ret (by rw [HBF.out, E0.out, E2.out, E1.out]; simp) HB4.out
 ·
  have hd : decide (y = 0) = false := by simpa using h0
  rw [hd, Bool.false_and] at hpar
  have HE := h! (hlate hpar)
  have hne : (y != 0) = true := by simpa using h0
  clear hd hpar hlate hbe hag hmay hokB hw hy h0 h1 h2 h3
  go_enter Tryz.func104, Tryz.ntmps104
  go_wp2_with fail
  refine HW.out.mono ?_
  rintro e w1 ⟨rfl, rfl⟩
  rw [hW0] at HB0
  go_wp2_with fail
  go_ret
  exact bool_ret (by first | exact HE.out.symm | (rw [HE.out]; rfl)) HB0.out
end Go.Proofs.YtiiobafcgdelmaaGreat
namespace Go.Proofs.YtiiobafcgdelmaaGreat
open Go.RowKit Go.Lib
theorem run_copy_s {P : Program} (w : World) (dT sT ty e : TypeId) (s : Nat) (b o dLen dCap : Nat) (a : Addr) (sLen sCap : Nat) (cs : List Value)
  (hu : P.underlying dT = some (.slice e)) (hs : (P.info? e).map (·.size) = some s) (hn : cs.length = Nat.min sLen dLen * s)
  (hsrc : ∀ j v, cs[j]? = some v → w.cell? (a.add j) = some v) (hc : ∀ j, j < cs.length → (w.cell? ⟨b, o + j, none⟩).isSome = true) (hf : ∀ j, j < cs.length → w.frozen? ⟨b, o + j, none⟩ = false) (h1 : ∀ v ∈ cs, v.oneCell' = true) :
  (Builtin.copy_ #[dT, sT] ty #[.slice (some ⟨b, o, none⟩) dLen dCap, .slice (some a) sLen sCap]).run P w = .ok (goInt (Nat.min sLen dLen)) (w.setCells b o cs) := by
 have hl := run_loadCells_list (P := P) w a cs hsrc
 have hst := run_storeCells_cells (P := P) b o cs 0 w (by simpa using hc) (by simpa using hf) h1
 cases hq : P.info? e with
 | none => simp [hq] at hs
 | some i =>
  have hi : i.size = s := by simpa [hq] using hs
  simp only [hn] at hl
  simp [Builtin.copy_, run_underlying hu, Builtin.lenOf, Builtin.firstCells, sizeOf, typeInfo, hq, hi, hl, hst]
theorem box_setCells {g : Nat} {t : TypeId} : ∀ (vs : List Value) (o : Nat) (w : World) (cs : Array Value), Box w g t cs → o + vs.length ≤ cs.size →
  ∃ cs', Box (w.setCells g o vs) g t cs' ∧ cs'.toList = cs.toList.take o ++ vs ++ cs.toList.drop (o + vs.length)
 | [], o, w, cs, h, _ => ⟨cs, h, by simp⟩
 | v :: r, o, w, cs, h, hl => by
  simp only [List.length_cons] at hl
  obtain ⟨cs', h1, h2⟩ := box_setCells r (o + 1) (w.setCell ⟨g, o, none⟩ v) (cs.setIfInBounds o v) (h.stored o v) (by simp; omega)
  refine ⟨cs', h1, ?_⟩
  rw [h2]
  have e : (cs.setIfInBounds o v).toList = cs.toList.set o v := by simp
  have hol : o < cs.toList.length := by simp; omega
  rw [e, List.drop_set_of_lt (by omega), show o + 1 + r.length = o + (v :: r).length by simp; omega]
  congr 1
  rw [List.take_succ_eq_append_getElem (by simpa using hol), List.take_set_of_le n!]
  simp
theorem grown_setCells (g : Nat) : ∀ (vs : List Value) (o : Nat) (w : World), w.grownBy (w.setCells g o vs) (some g)
 | [], o, w => World.grownBy.refl w _
 | v :: r, o, w => by
  have h := grown_setCells g r (o + 1) (w.setCell ⟨g, o, none⟩ v)
  have h0 : w.grownBy (w.setCell ⟨g, o, none⟩ v) (some g) := ⟨rfl, rfl, rfl, by simp [World.setCell], fun k hk hne => Below.heap_setCell _ _ _ _ (by intro e; apply hne; rw [e])⟩
  exact grown_more h0 h (.inl rfl)
theorem set_tail_first {L xs ys vs : List Value} {a s r : Nat} (h1 : L.take a = xs) (hv : vs.length = s) (hy : ys.length = r) (hl : a + s + r ≤ L.length) (hx : xs.length = a) {L1 L2 : List Value}
  (e1 : L1 = L.take (a + s) ++ ys ++ L.drop (a + s + ys.length)) (e2 : L2 = L1.take a ++ vs ++ L1.drop (a + vs.length)) : L2.take (a + s + r) = xs ++ vs ++ ys ∧ L2.length = L.length := by
 have ha : (L.take (a + s)).length = a + s := by rw [List.length_take]; omega
 have t1 : L1.take a = xs := by
  rw [e1, List.append_assoc, List.take_append_of_le_length (by omega), List.take_take, Nat.min_eq_left (by omega), h1]
 have t2 : L1.drop (a + vs.length) = ys ++ L.drop (a + s + ys.length) := by
  rw [e1, hv, List.append_assoc, List.drop_append_of_le_length (by omega), List.drop_eq_nil_of_le (by omega), List.nil_append]
 constructor
 ·rw [e2, t1, t2, ← List.append_assoc, List.take_append_of_le_length (by simp; omega), List.take_of_length_le (by simp; omega)]
 ·rw [e2, t1, t2]
  simp
  omega
theorem set_new_first {L xs ys vs : List Value} {a s r : Nat} (h1 : L.take a = xs) (hv : vs.length = s) (hy : ys.length = r) (hl : a + s + r ≤ L.length) (hx : xs.length = a) {L1 L2 : List Value}
  (e1 : L1 = L.take a ++ vs ++ L.drop (a + vs.length)) (e2 : L2 = L1.take (a + s) ++ ys ++ L1.drop (a + s + ys.length)) : L2.take (a + s + r) = xs ++ vs ++ ys ∧ L2.length = L.length := by
 have t1 : L1.take (a + s) = xs ++ vs := by
  rw [e1, h1, List.take_append_of_le_length (by simp; omega), List.take_of_length_le (by simp; omega)]
 have hl1 : L1.length = L.length := by rw [e1]; simp; omega
 constructor
 ·rw [e2, t1, List.take_append_of_le_length (by simp; omega), List.take_of_length_le (by simp; omega)]
 ·rw [e2, t1]
  simp
  omega
def InsIs (base : Nat) (e : TypeId) (s n : Nat) (xs : List Value) (ob : Option Nat) (w : World) (x : Ending) (w' : World) : Prop :=
 ∃ A c, x = .returned (.slice A (n + 1) c) ∧ w'.ownsRow base e s (.slice A (n + 1) c) (n + 1) xs ∧ w.grownBy w' ob ∧ (Value.ownBlock (.slice A (n + 1) c) = ob ∨ Value.ownBlock (.slice A (n + 1) c) = some w.heap.size)
theorem Box.isSome {w : World} {g : Nat} {t : TypeId} {cs : Array Value} (h : Box w g t cs) {j : Nat} (hj : j < cs.size) : (w.cell? ⟨g, j, none⟩).isSome = true := by
 rw [h.cell j, Array.getElem?_eq_getElem hj]; rfl
end Go.Proofs.YtiiobafcgdelmaaGreat
