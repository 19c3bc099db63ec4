/-
  The walk of OrderNames. Conditions: none. Written by wip/tools/gen/ord/onames.py.
-/
import Derived.Test.YteebeiaokfenmaaGreatK01
import Derived.Test.YteebeiaokfenmaaGreatK45
import Derived.Test.YteebeiaokfenmaaGreatK22
namespace Go.Proofs.YteebeiaokfenmaaGreat.KP
open Go.RowKit CP TP LP SP
open CM (Mg Cm)
open TM (Sp)
open KM (Wt Sk)
set_option linter.unusedVariables false
set_option linter.unusedSimpArgs false
set_option maxRecDepth 100000
theorem info_rws : (Tryz.prog.info? 26).map (fun i => (i.zero, i.size, i.bytes)) = some (some (.slice none 0 0), 1, 24) := by kernel_rfl
def smE : ByteArray := txt (asgE mE)
def snE : ByteArray := txt (asgE nE)
def s5E : ByteArray := txt (finE 5 2)
def s9E : ByteArray := txt (finE 9 1)
def s3E : ByteArray := txt (finE 5 3)
theorem szB : ∀ l ∈ [[smE, s5E], [snE, smE, s9E, s5E]], ∀ t ∈ l, t.size ≤ maxLen := fun l hl t ht => by
 simp only [List.mem_cons, List.not_mem_nil, or_false] at hl
 rcases hl with rfl | rfl
 ·exact sz0 t ht
 ·exact sz1 t ht
theorem szXB : ∀ l ∈ [[smE, s3E], [snE, smE, s9E, s5E]], ∀ t ∈ l, t.size ≤ maxLen := fun l hl t ht => by
 simp only [List.mem_cons, List.not_mem_nil, or_false] at hl
 rcases hl with rfl | rfl
 ·exact szX t ht
 ·exact sz1 t ht
theorem nBoth (w : World) : Calls Tryz.prog 10 #[] w (BoB smE s5E snE smE s9E s5E w) := bothB_any w
theorem nLocal {W : World} {q g0 ga : Nat} (h : Bx2 W q g0 ga smE s5E snE smE s9E s5E) : Calls Tryz.prog 9 #[.int .i64 1, .slice (some ⟨ga, 0, none⟩) 4 4] W (LcQ [⟨1, 9⟩, ⟨2, 5⟩] 0 W) := by
 have := plocal16_any 1 (some ⟨ga, 0, none⟩) 4 4 lE1 W ⟨tx_box h.b1 (l := lE1) rfl (by decide), Nat.le_refl _, by unfold maxLen; omega, sz1⟩
 rwa [loc1, asked1] at this
theorem nFinal {W : World} {q g0 ga : Nat} {v : Value} (h : Bx2 W q g0 ga smE s5E snE smE s9E s5E) (hv : MgIs W v mE) : Calls Tryz.prog 11 #[.slice (some ⟨q, 0, none⟩) 2 2, v] W (F3Q (2, true, 0) W) := by
 have := pfinal16_any (some ⟨q, 0, none⟩) 2 2 [lE0, lE1] v mE W h.logs szB hv (fit_mg ok_m).1
 rwa [fin2] at this
theorem nHonest {W : World} {q g0 ga : Nat} (h : Bx2 W q g0 ga smE s5E snE smE s9E s5E) : Calls Tryz.prog 13 #[.slice (some ⟨q, 0, none⟩) 2 2] W (fun e w' => e = .returned (.tuple #[.bool true, .int .i64 0]) ∧ Below W.heap.size W w') :=
 (phonest16_any (some ⟨q, 0, none⟩) 2 2 [lE0, lE1] W h.logs szB).mono fun e w' hh => by
  obtain ⟨b, h1, h2, h3⟩ := hh
  obtain rfl : b = true := h2.2 ⟨allE2, hon2⟩
  rw [allE2] at h1
  exact ⟨h1, h3⟩
theorem nNot {W : World} {q g0 ga : Nat} (h : Bx2 W q g0 ga smE s3E snE smE s9E s5E) : Calls Tryz.prog 13 #[.slice (some ⟨q, 0, none⟩) 2 2] W (fun e w' => e = .returned (.tuple #[.bool false, .int .i64 0]) ∧ Below W.heap.size W w') :=
 (phonest16_any (some ⟨q, 0, none⟩) 2 2 [lX0, lE1] W h.logs szXB).mono fun e w' hh => by
  obtain ⟨b, h1, h2, h3⟩ := hh
  rcases b with _ | _
  ·rw [allEX] at h1
   exact ⟨h1, h3⟩
  ·exact absurd (h2.1 rfl).2 honX
theorem nPlay0 {W : World} {q g0 ga : Nat} (h : Bx2 W q g0 ga smE s5E snE smE s9E s5E) : Calls Tryz.prog 14 #[.int .i64 0, .slice (some ⟨g0, 0, none⟩) 2 2] W (ApIs (⟨2, [], [⟨2, 5⟩]⟩, [mE], 0) W) := by
 have := pplay16_any 0 (some ⟨g0, 0, none⟩) 2 2 lE0 W ⟨tx_box h.b0 (l := lE0) rfl (by decide), Nat.le_refl _, by unfold maxLen; omega, sz0⟩
 rwa [playR0] at this
theorem nPlay1 {W : World} {q g0 ga : Nat} (h : Bx2 W q g0 ga smE s5E snE smE s9E s5E) : Calls Tryz.prog 14 #[.int .i64 1, .slice (some ⟨ga, 0, none⟩) 4 4] W (ApIs (⟨2, [], [⟨1, 9⟩, ⟨2, 5⟩]⟩, [nE, mE], 0) W) := by
 have := pplay16_any 1 (some ⟨ga, 0, none⟩) 4 4 lE1 W ⟨tx_box h.b1 (l := lE1) rfl (by decide), Nat.le_refl _, by unfold maxLen; omega, sz1⟩
 rwa [playR1] at this
theorem nPlay4 (W : World) : Calls Tryz.prog 14 #[.int .i64 4, .slice none 0 0] W (ApIs (KM.zero, [], 2) W) := by
 have := pplay16_any 4 none 0 0 [] W ⟨⟨rfl, fun h => absurd h (by omega)⟩, Nat.le_refl _, Nat.zero_le _, fun s hs => by cases hs⟩
 rwa [play4] at this
theorem nCut {W : World} {q g0 ga : Nat} (h : Bx2 W q g0 ga smE s5E snE smE s9E s5E) : LogsIs W (some ⟨q, 0, none⟩) 1 2 [lE0] := by
 have hr := rdG_box (s := 1) (n := 2) h.bq (xs := [.slice (some ⟨g0, 0, none⟩) 2 2, .slice (some ⟨ga, 0, none⟩) 4 4]) rfl rfl
 refine ⟨[.slice (some ⟨g0, 0, none⟩) 2 2], ⟨rfl, fun _ => ?_⟩, ⟨rfl, fun i l hi => ?_⟩, rfl, by omega, by unfold maxLen; omega⟩
 ·obtain ⟨ad, e, hb, hc⟩ := hr.2 (by omega)
  refine ⟨ad, e, hb, fun j u hj => hc j u ?_⟩
  match j, hj with
  | 0, hj => simpa using hj
  | j + 1, hj => simp at hj
 ·match i, hi with
  | 0, hi =>
   simp at hi
   subst hi
   exact ⟨_, 2, rfl, tx_box h.b0 (l := lE0) rfl (by decide), by decide, by unfold maxLen; omega⟩
  | i + 1, hi => simp at hi
theorem nFinal1 {W : World} {q g0 ga : Nat} {v : Value} (h : Bx2 W q g0 ga smE s5E snE smE s9E s5E) (hv : MgIs W v mE) : Calls Tryz.prog 11 #[.slice (some ⟨q, 0, none⟩) 1 2, v] W (F3Q (0, false, 0) W) := by
 have := pfinal16_any (some ⟨q, 0, none⟩) 1 2 [lE0] v mE W (nCut h) (fun l hl t ht => by rw [List.mem_singleton.1 hl] at ht; exact sz0 t ht) hv (fit_mg ok_m).1
 rwa [fin1] at this
theorem nMany {W : World} {A : Option Addr} (h : Rd W A 5 (List.replicate 5 (.slice none 0 0))) : Calls Tryz.prog 13 #[.slice A 5 5] W (fun e w' => ∃ b : Bool, e = .returned (.tuple #[.bool b, .int .i64 4]) ∧ Below W.heap.size W w') := by
 have hl : LogsIs W A 5 5 (List.replicate 5 []) := ⟨_, h, ⟨rfl, fun i l hi => by
  have hi5 : i < 5 := by have := (List.getElem?_eq_some_iff.1 hi).1; simpa using this
  rw [List.getElem?_replicate, if_pos hi5] at hi
  injection hi with hi
  subst hi
  exact ⟨none, 0, by rw [List.getElem?_replicate, if_pos hi5]; rfl, ⟨rfl, fun h => absurd h (by simp)⟩, Nat.le_refl _, Nat.zero_le _⟩⟩, rfl, Nat.le_refl _, by unfold maxLen; omega⟩
 refine (phonest16_any A 5 5 (List.replicate 5 []) W hl (fun l hl t ht => by rw [List.eq_of_mem_replicate hl] at ht; cases ht)).mono fun e w' hh => ?_
 obtain ⟨b, h1, h2, h3⟩ := hh
 exact ⟨b, h1, h3⟩
theorem nLit (w : World) (xs : Array Value) (a b c d : Int) (hx : xs = #[.int .i64 a, .int .i64 b, .int .i64 c, .int .i64 d]) : SpsIs (w.alloc (.cells xs 46)) (some ⟨w.heap.size, 0, none⟩) 2 2 [⟨a, b⟩, ⟨c, d⟩] := by
 subst hx
 exact ⟨rdG_box (s := 2) (n := 2) (Box.new w 46 _) rfl rfl, rfl, Nat.le_refl _, by unfold maxLen; omega⟩
theorem nAg1 {W : World} {A B : Option Addr} {d e : Nat} (h : SpsIs W A 1 d [⟨2, 5⟩]) (k : SpsIs W B 2 e [⟨1, 9⟩, ⟨2, 5⟩]) : Calls Tryz.prog 17 #[.slice A 1 d, .slice B 2 e] W (IsB true W) := by
 have := pagree16_any A B 1 2 d e _ _ W h k (by omega) (by omega) (fun s hs => by simp at hs; subst hs; unfold i64In; simp) (fun s hs => by simp at hs; rcases hs with rfl | rfl <;> (unfold i64In; simp))
 rwa [ag1] at this
theorem nAg2 (w : World) : Calls Tryz.prog 17 #[.slice (some ⟨w.heap.size, 0, none⟩) 2 2, .slice (some ⟨w.heap.size + 1, 0, none⟩) 2 2] ((w.alloc (.cells #[.int .i64 1, .int .i64 1, .int .i64 2, .int .i64 2] 46)).alloc (.cells #[.int .i64 2, .int .i64 2, .int .i64 3, .int .i64 1] 46)) (IsB false ((w.alloc (.cells #[.int .i64 1, .int .i64 1, .int .i64 2, .int .i64 2] 46)).alloc (.cells #[.int .i64 2, .int .i64 2, .int .i64 3, .int .i64 1] 46))) := by
 have h1 := (nLit w _ 1 1 2 2 rfl).below (((Below.refl _ _).alloc n! (.cells #[.int .i64 2, .int .i64 2, .int .i64 3, .int .i64 1] 46)))
 have h2 := nLit (w.alloc (.cells #[.int .i64 1, .int .i64 1, .int .i64 2, .int .i64 2] 46)) _ 2 2 3 1 rfl
 rw [World.size_alloc] at h2
 have := pagree16_any _ _ 2 2 2 2 _ _ _ h1 h2 (by omega) (by omega) (fun s hs => by simp at hs; rcases hs with rfl | rfl <;> (unfold i64In; simp)) (fun s hs => by simp at hs; rcases hs with rfl | rfl <;> (unfold i64In; simp))
 rwa [ag2] at this
set_option maxHeartbeats 4000000 in
theorem orderNames_walk0 (w : World) : Calls Tryz.prog 3 #[] w fun e w' => e = .returned (.bool true) ∧ Below w.heap.size w w' := by
 go_enter Tryz.func3, Tryz.ntmps3
 have HB := h! (Below.refl w.heap.size w)
 go_wp2_with fail
 refine (nBoth w).mono ?_
 rintro e w1 ⟨qa, ga, aa, rfl, hgga, hqga, haga, bx, hb⟩
 replace HB := h! (bmore HB.out hb n!)
 have BX := h! bx
 have c0 := bx.bq.cell 0
 have c1 := bx.bq.cell 1
 simp at c0 c1
 clear bx hb
 clear hgga hqga haga
 go_wp2_with fail
 clear c0 c1
 refine (nLocal BX.out).mono ?_
 rintro e w2 ⟨v1, rfl, ho, hb⟩
 replace HB := h! (bmore HB.out hb n!)
 obtain ⟨A1, d1, rfl, hs1⟩ := sps_new ho
 have HL := h! hs1
 clear ho hs1 hb BX
 go_wp2_with fail
 refine (nBoth w2).mono ?_
 rintro e w3 ⟨qb, gb, ab, rfl, hggb, hqgb, hagb, bx, hb⟩
 replace HL := h! (HL.out.below hb)
 replace HB := h! (bmore HB.out hb n!)
 have BX := h! bx
 have c0 := bx.bq.cell 0
 have c1 := bx.bq.cell 1
 simp at c0 c1
 clear bx hb
 clear hggb hqgb hagb
 go_wp2_with fail
 refine (m16_any w3).mono ?_
 rintro e w4 ⟨vm, rfl, hm, hb⟩
 replace HL := h! (HL.out.below hb)
 replace HB := h! (bmore HB.out hb n!)
 replace BX := h! (BX.out.below hb)
 have HM := h! hm
 clear hm hb
 go_wp2_with fail
 clear c0 c1
 refine (nFinal BX.out HM.out).mono ?_
 rintro e w5 ⟨rfl, hb⟩
 replace HL := h! (HL.out.below hb)
 replace HB := h! (bmore HB.out hb n!)
 clear hb BX HM
 go_wp2_with fail
 refine (nBoth w5).mono ?_
 rintro e w6 ⟨qc, gc, ac, rfl, hggc, hqgc, hagc, bx, hb⟩
 replace HL := h! (HL.out.below hb)
 replace HB := h! (bmore HB.out hb n!)
 have BX := h! bx
 have c0 := bx.bq.cell 0
 have c1 := bx.bq.cell 1
 simp at c0 c1
 clear bx hb
 clear hggc hqgc hagc
 go_wp2_with fail
 clear c0 c1
 refine (nHonest BX.out).mono ?_
 rintro e w7 ⟨rfl, hb⟩
 replace HL := h! (HL.out.below hb)
 replace HB := h! (bmore HB.out hb n!)
 clear hb BX
 go_wp2_with fail
 refine (nBoth w7).mono ?_
 rintro e w8 ⟨qd, gd, ad, rfl, hggd, hqgd, hagd, bx, hb⟩
 replace HL := h! (HL.out.below hb)
 replace HB := h! (bmore HB.out hb n!)
 have BX := h! bx
 have c0 := bx.bq.cell 0
 have c1 := bx.bq.cell 1
 simp at c0 c1
 clear bx hb
 clear hggd hqgd hagd
 go_wp2_with fail
 clear c0 c1
 refine (nPlay0 BX.out).mono ?_
 rintro e w9 ⟨v, vm, rfl, ⟨vw, vd, rfl, k1, k2⟩, km, hb⟩
 obtain ⟨A4, c4, rfl, _⟩ := k1.g
 obtain ⟨BE, dE, rfl, k3, k4⟩ := own_form k2
 obtain ⟨C4, f4, rfl, _⟩ := km.g
 have hsp : SpsIs w9 BE 1 dE [⟨2, 5⟩] := ⟨rdg_own k2, rfl, k3, k4⟩
 unfold vsk
 simp only [List.length_nil, List.length_cons, KM.zero] at hsp ⊢
 have hal : Below w9.heap.size w9 (w9.alloc (.cells #[.int .i64 2, .slice A4 0 c4, .slice BE 1 dE] 39)) := b!
 have XE := h! (Box.new w9 39 #[.int .i64 2, .slice A4 0 c4, .slice BE 1 dE])
 have HE := h! (hsp.below hal)
 have hb2 := bmore hb hal n!
 replace HL := h! (HL.out.below hb2)
 replace HB := h! (bmore HB.out hb2 n!)
 clear hsp hal k1 k2 k3 k4 km hb hb2 BX
 go_upto_region 5 with (fail)
 generalize w9.alloc (.cells #[.int .i64 2, .slice A4 0 c4, .slice BE 1 dE] 39) = w10 at XE HE HB HL ⊢
 obtain ⟨pE, hpE⟩ : ∃ p, w9.heap.size = p := ⟨_, rfl⟩
 rw [hpE] at XE
 try simp only [hpE]
 clear hpE
 go_wp2_with fail
 refine (nBoth w10).mono ?_
 rintro e w11 ⟨qe, ge, ae, rfl, hgge, hqge, hage, bx, hb⟩
 replace HL := h! (HL.out.below hb)
 replace XE := h! (XE.out.below hb XE.out.lt)
 replace HE := h! (HE.out.below hb)
 replace HB := h! (bmore HB.out hb n!)
 have BX := h! bx
 have c0 := bx.bq.cell 0
 have c1 := bx.bq.cell 1
 simp at c0 c1
 clear bx hb
 clear hgge hqge hage
 go_wp2_with fail
 clear c0 c1
 refine (nPlay1 BX.out).mono ?_
 rintro e w12 ⟨v, vm, rfl, ⟨vw, vd, rfl, k1, k2⟩, km, hb⟩
 obtain ⟨A4, c4, rfl, _⟩ := k1.g
 obtain ⟨BF, dF, rfl, k3, k4⟩ := own_form k2
 obtain ⟨C4, f4, rfl, _⟩ := km.g
 have hsp : SpsIs w12 BF 2 dF [⟨1, 9⟩, ⟨2, 5⟩] := ⟨rdg_own k2, rfl, k3, k4⟩
 unfold vsk
 simp only [List.length_nil, List.length_cons, KM.zero] at hsp ⊢
 have hal : Below w12.heap.size w12 (w12.alloc (.cells #[.int .i64 2, .slice A4 0 c4, .slice BF 2 dF] 39)) := b!
 have XF := h! (Box.new w12 39 #[.int .i64 2, .slice A4 0 c4, .slice BF 2 dF])
 have HF := h! (hsp.below hal)
 have hb2 := bmore hb hal n!
 replace HL := h! (HL.out.below hb2)
 replace XE := h! (XE.out.below hb2 XE.out.lt)
 replace HE := h! (HE.out.below hb2)
 replace HB := h! (bmore HB.out hb2 n!)
 clear hsp hal k1 k2 k3 k4 km hb hb2 BX
 go_upto_region 6 with (fail)
 generalize w12.alloc (.cells #[.int .i64 2, .slice A4 0 c4, .slice BF 2 dF] 39) = w13 at XF HF HB HL XE HE ⊢
 obtain ⟨pF, hpF⟩ : ∃ p, w12.heap.size = p := ⟨_, rfl⟩
 rw [hpF] at XF
 try simp only [hpF]
 clear hpF
 have HBB := HB
 go_wp2_with fail
 refine (nBoth w13).mono ?_
 rintro e w14 ⟨qx, gx, ax, rfl, hgx, hqx, hax, bx, hb⟩
 have HW := h! hb
 have HGX := h! hgx
 have HQX := h! hqx
 have HAX := h! hax
 have BX := h! bx
 clear bx hb hgx hqx hax HB
 have HSS := h! (fun (W : World) (hb : Below w14.heap.size w14 W) => show W.cell? ⟨qx, 0, none⟩ = some (.slice (some ⟨gx, 0, none⟩) 2 2) from (BX.out.bq.below hb BX.out.bq.lt).cell 0)
 have KFN := h! (fun W => final16_any 5 3 W (by decide) (by decide))
 unfold TxtIs at KFN
 have c0 := HSS.out _ (Below.refl _ _)
 go_upto_region 7 with (fail)
 clear c0
 have bb0 : Below w14.heap.size w14 w14.drew := (Below.refl _ _).drew
 obtain ⟨ud, hud⟩ : ∃ ud, ud = w14.drew := ⟨_, rfl⟩
 refine wp_region_held_drew (S := fun W => W.cell? ⟨qx, 0, none⟩ = some (.slice (some ⟨gx, 0, none⟩) 2 2)) (by kernel_rfl) (HSS.out _ bb0) (fun hHeld => ?_)
 rw [← hud] at bb0 hHeld ⊢
 clear hud
 refine qT 0 ?_; try simp only [Act.put, qq]
 refine qT 1 ?_; try simp only [Act.put, qq]
 refine qT 2 ?_; try simp only [Act.put, qq]
 refine qR 3 fun K hK => ?_
 go_simp
 refine (KFN.out ud).mono ?_
 rintro e y1 ⟨rfl, hb⟩
 have bb1 := bmore bb0 hb n!
 clear hb
 refine hK.out _ _ (HSS.out _ bb1) (fun hHeld => ?_)
 clear hK
 try simp only [Act.put, qq]
 refine qT 4 ?_; try simp only [Act.put, qq]
 have BX1 := h! (BX.out.below bb1)
 have z1 := BX1.out.b0.cell 1
 have z2 := BX1.out.b0.frozen 1
 simp at z1
 refine qR 5 fun K hK => ?_
 go_simp
 have BX2 := h! (show Bx2 (y1.setCell ⟨gx, 1, none⟩ (.string s3E)) qx gx ax smE s3E snE smE s9E s5E from BX1.out.put HQX.out HAX.out s3E)
 have HW2 := h! ((bmore HW.out bb1 n!).setCell (p := ⟨gx, 1, none⟩) HGX.out (.string s3E))
 replace HL := h! (HL.out.below HW2.out)
 replace XE := h! (XE.out.below HW2.out XE.out.lt)
 replace HE := h! (HE.out.below HW2.out)
 replace XF := h! (XF.out.below HW2.out XF.out.lt)
 replace HF := h! (HF.out.below HW2.out)
 have HB := h! (bmore HBB.out HW2.out n!)
 refine hK.out _ _ ((BX2.out.bq).cell 0) (fun hHeld => ?_)
 clear hK z1 z2
 try simp only [Act.put, qq]
 refine wpAnyH_done (by kernel_rfl) ?_ _
 clear hHeld
 have es3 : txt (finE 5 3) = s3E := rfl
 try rw [es3]
 clear es3
 generalize y1.setCell ⟨gx, 1, none⟩ (.string s3E) = y2 at BX2 HB HL XE HE XF HF ⊢
 clear HW HW2 BX BX1 HSS KFN HBB bb0 bb1 HGX HQX HAX
 go_wp2_with fail
 refine (nNot BX2.out).mono ?_
 rintro e w15 ⟨rfl, hb⟩
 replace HL := h! (HL.out.below hb)
 replace XE := h! (XE.out.below hb XE.out.lt)
 replace HE := h! (HE.out.below hb)
 replace XF := h! (XF.out.below hb XF.out.lt)
 replace HF := h! (HF.out.below hb)
 replace HB := h! (bmore HB.out hb n!)
 clear hb BX2
 go_upto_region 9 with (fail)
 have bb0 : Below w15.heap.size w15 w15.drew := (Below.refl _ _).drew
 obtain ⟨ud, hud⟩ : ∃ ud, ud = w15.drew := ⟨_, rfl⟩
 refine wp_region_held_drew (S := fun _ => True) (by kernel_rfl) trivial (fun hHeld => ?_)
 rw [← hud] at bb0 ⊢
 clear hud
 refine qR 0 fun K hK => ?_
 go_simp
 refine (nBoth ud).mono ?_
 rintro e y3 ⟨qy, gy, ay, rfl, _, _, _, bx, hb⟩
 have bb1 := bmore bb0 hb n!
 have BX := h! bx
 clear bx hb
 refine hK.out _ _ trivial (fun hHeld => ?_)
 clear hK
 try simp only [Act.put, qq]
 refine qT 1 ?_; try simp only [Act.put, qq]
 refine qR 2 fun K hK => ?_
 go_simp
 refine (m16_any y3).mono ?_
 rintro e y4 ⟨vm, rfl, hm, hb⟩
 have bb2 := bmore bb1 hb n!
 replace BX := h! (BX.out.below hb)
 have HM := h! hm
 clear hm hb
 refine hK.out _ _ trivial (fun hHeld => ?_)
 clear hK
 try simp only [Act.put, qq]
 refine qR 3 fun K hK => ?_
 go_simp
 refine (nFinal1 BX.out HM.out).mono ?_
 rintro e y5 ⟨rfl, hb⟩
 have bb3 := bmore bb2 hb n!
 clear hb
 refine hK.out _ _ trivial (fun hHeld => ?_)
 clear hK
 try simp only [Act.put, qq]
 refine qT 4 ?_; try simp only [Act.put, qq]
 refine qT 5 ?_; try simp only [Act.put, qq]
 refine qT 6 ?_; try simp only [Act.put, qq]
 refine qT 7 ?_; try simp only [Act.put, qq]
 refine qT 8 ?_; try simp only [Act.put, qq]
 refine qT 9 ?_; try simp only [Act.put, qq]
 refine qT 10 ?_; try simp only [Act.put, qq]
 refine wpAnyH_done (by kernel_rfl) ?_ _
 clear hHeld
 replace HL := h! (HL.out.below bb3)
 replace XE := h! (XE.out.below bb3 XE.out.lt)
 replace HE := h! (HE.out.below bb3)
 replace XF := h! (XF.out.below bb3 XF.out.lt)
 replace HF := h! (HF.out.below bb3)
 replace HB := h! (bmore HB.out bb3 n!)
 clear bb0 bb1 bb2 bb3 BX HM
 go_wp2_with fail
 refine (nPlay4 y5).mono ?_
 rintro e w16 ⟨v, vm, rfl, ⟨vw, vd, rfl, k1, k2⟩, km, hb⟩
 obtain ⟨A4, c4, rfl, _⟩ := k1.g
 obtain ⟨BP, dP, rfl, k3, k4⟩ := own_form k2
 obtain ⟨C4, f4, rfl, _⟩ := km.g
 have hsp : SpsIs w16 BP 0 dP [] := ⟨rdg_own k2, rfl, k3, k4⟩
 unfold vsk
 simp only [List.length_nil, List.length_cons, KM.zero] at hsp ⊢
 have hal : Below w16.heap.size w16 (w16.alloc (.cells #[.int .i64 0, .slice A4 0 c4, .slice BP 0 dP] 39)) := b!
 have XP := h! (Box.new w16 39 #[.int .i64 0, .slice A4 0 c4, .slice BP 0 dP])
 have HP := h! (hsp.below hal)
 have hb2 := bmore hb hal n!
 replace HL := h! (HL.out.below hb2)
 replace XE := h! (XE.out.below hb2 XE.out.lt)
 replace HE := h! (HE.out.below hb2)
 replace XF := h! (XF.out.below hb2 XF.out.lt)
 replace HF := h! (HF.out.below hb2)
 replace HB := h! (bmore HB.out hb2 n!)
 clear hsp hal k1 k2 k3 k4 km hb hb2
 go_upto_region 11 with (fail)
 generalize w16.alloc (.cells #[.int .i64 0, .slice A4 0 c4, .slice BP 0 dP] 39) = w17 at XP HP HB HL XE HE XF HF ⊢
 obtain ⟨pP, hpP⟩ : ∃ p, w16.heap.size = p := ⟨_, rfl⟩
 rw [hpP] at XP
 try simp only [hpP]
 clear hpP
 obtain ⟨j0, hj, hy0, hy1, hy2⟩ := info_parts info_rws
 go_wp2_with (at_make; refine wpList_make_rd _ rfl _ _ 27 rfl 26 j0 (.slice none 0 0) Tryz.underlying27 hj hy0 hy1 rfl .i64 .i64 5 rfl rfl (by rw [hy2]; omega) (by unfold maxLen; omega) ?_; intro A9 w18 hown9 hb; have HR9 := h! (Rd.of_own hown9); clear hown9)
 replace HL := h! (HL.out.below hb)
 replace XE := h! (XE.out.below hb XE.out.lt)
 replace HE := h! (HE.out.below hb)
 replace XF := h! (XF.out.below hb XF.out.lt)
 replace HF := h! (HF.out.below hb)
 replace XP := h! (XP.out.below hb XP.out.lt)
 replace HP := h! (HP.out.below hb)
 replace HB := h! (bmore HB.out hb n!)
 clear hb
 refine (nMany HR9.out).mono ?_
 rintro e w19 ⟨bz, rfl, hb⟩
 replace HL := h! (HL.out.below hb)
 replace XE := h! (XE.out.below hb XE.out.lt)
 replace HE := h! (HE.out.below hb)
 replace XF := h! (XF.out.below hb XF.out.lt)
 replace HF := h! (HF.out.below hb)
 replace XP := h! (XP.out.below hb XP.out.lt)
 replace HP := h! (HP.out.below hb)
 replace HB := h! (bmore HB.out hb n!)
 clear hb HR9
 go_wp2_with fail
 refine (alive16_any w19).mono ?_
 rintro e w20 ⟨rfl, hb⟩
 replace HL := h! (HL.out.below hb)
 replace XE := h! (XE.out.below hb XE.out.lt)
 replace HE := h! (HE.out.below hb)
 replace XF := h! (XF.out.below hb XF.out.lt)
 replace HF := h! (HF.out.below hb)
 replace XP := h! (XP.out.below hb XP.out.lt)
 replace HP := h! (HP.out.below hb)
 replace HB := h! (bmore HB.out hb n!)
 clear hb
 obtain ⟨b1, o1, rfl, _, _, l0, l1⟩ := HL.out.at_ (show ([⟨1, 9⟩, ⟨2, 5⟩] : List Sp)[0]? = some ⟨1, 9⟩ from rfl)
 obtain ⟨b2, o2, e2, _, _, l2, l3⟩ := HL.out.at_ (show ([⟨1, 9⟩, ⟨2, 5⟩] : List Sp)[1]? = some ⟨2, 5⟩ from rfl)
 injection e2 with e2
 injection e2 with e3 e4
 subst e3 e4
 simp at l0 l1 l2 l3
 obtain ⟨x0, x1, x2⟩ := box_sk XE.out
 obtain ⟨y0, y1, y2⟩ := box_sk XF.out
 go_wp2_with fail
 clear x0 x1 x2 y0 y1 y2 l0 l1 l2 l3
 refine (nAg1 HE.out HF.out).mono ?_
 rintro e wy ⟨rfl, hb⟩
 replace HB := h! (bmore HB.out hb n!)
 clear hb HE HF XE XF XP HP HL
 have HBa := h! (bmore HB.out (((Below.refl wy.heap.size wy).alloc n! (.cells #[.int .i64 1, .int .i64 1, .int .i64 2, .int .i64 2] 46)).alloc (by simp) (.cells #[.int .i64 2, .int .i64 2, .int .i64 3, .int .i64 1] 46)) n!)
 go_wp2_with fail
 refine (nAg2 wy).mono ?_
 rintro e wz ⟨rfl, hb⟩
 have HBz := h! (bmore HBa.out hb n!)
 clear hb HB HBa
 go_wp2_with fail
 go_ret
 exact ⟨rfl, HBz.out⟩
end Go.Proofs.YteebeiaokfenmaaGreat.KP
namespace Go.Proofs.YteebeiaokfenmaaGreat
open Go.RowKit
theorem orderNames_walk (w : World) : Calls Tryz.prog 3 #[] w fun e w' => e = .returned (.bool true) ∧ Below w.heap.size w w' := KP.orderNames_walk0 w
end Go.Proofs.YteebeiaokfenmaaGreat
