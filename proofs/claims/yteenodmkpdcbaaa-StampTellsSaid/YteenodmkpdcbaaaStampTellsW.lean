/-
  The walk of StampTells: whether stamps may be, their order, whether they rise are the document's. Conditions: any stamps.
-/
import Derived.Test.YteenodmkpdcbaaaSpS
import Derived.Test.YteenodmkpdcbaaaSpArg
import Derived.Test.YteenodmkpdcbaaaQq
namespace Go.Proofs.Yteenodmkpdcbaaa
open Go.RowKit TP
open TM (Sp)
set_option linter.unusedVariables false
set_option linter.unusedSimpArgs false
set_option maxRecDepth 100000

theorem sp_info : (Try.prog.info? 31).map (fun i => (i.zero, i.size, i.bytes)) = some (some (.agg #[.int .i64 0, .int .i64 0]), 2, 16) := by kernel_rfl
theorem sp_info' : ∃ i, Try.prog.info? 31 = some i ∧ i.zero = some (.agg #[.int .i64 0, .int .i64 0]) ∧ i.size = 2 ∧ i.bytes = 16 := by
  have h := sp_info
  rcases e : Try.prog.info? 31 with _ | i
  · rw [e] at h; cases h
  · rw [e] at h
    simp only [Option.map_some, Option.some.injEq, Prod.mk.injEq] at h
    exact ⟨i, rfl, h.1, h.2.1, h.2.2⟩
theorem sps_own {w : World} {base n : Nat} {v : Value} {l : List Sp} (h : w.ownsRow base 31 2 v n (flat spc l)) (hl : l.length = n) : ∃ A c, v = .slice A n c ∧ SpsIs w A n c l := by
  obtain ⟨A, c, rfl, h1, h2⟩ := own_form h
  refine ⟨A, c, rfl, ⟨by rw [flat_spc, hl], fun hn => ?_⟩, hl, h1, h2⟩
  obtain ⟨g, cap, hv, _, hlt⟩ := h.form hn
  have hA : A = some ⟨g, 0, none⟩ := by injection hv
  subst hA
  exact ⟨_, rfl, hlt, h.cells (g := g) rfl⟩
set_option maxHeartbeats 8000000 in
theorem stampTells_walk0 (a b : Sp) (A : Option Addr) (n c : Nat) (l : List Sp) (w : World) (hfa : SpFit a) (hT : SpsIs w A n c l) :
    Calls Try.prog 4 #[vsp a, vsp b, .slice A n c] w fun e w' => e = .returned (.bool true) ∧ Below w.heap.size w w' := by
  have hn63 := hT.small
  have HLn := Lib.hid hT.2.1
  obtain ⟨i0, hi, hz0, hz1, hz2⟩ := sp_info'
  obtain ⟨y, hy⟩ : ∃ y, y = TM.chk a := ⟨_, rfl⟩
  obtain ⟨p, hp⟩ : ∃ p, p = TM.less a b := ⟨_, rfl⟩
  obtain ⟨r, hr⟩ : ∃ r, r = TM.rises l := ⟨_, rfl⟩
  have K1 := Lib.hid (fun w => pcheck_any a w hfa)
  have K2 := Lib.hid (fun w => rcheck_any a w)
  have K3 := Lib.hid (fun w => pless_any a b w)
  have K4 := Lib.hid (fun w => rless_any a b w)
  have K5 := Lib.hid (fun W A c (h : SpsIs W A n c l) => prises_any A n c l W h)
  have K6 := Lib.hid (fun W A c (h : SpsIs W A n c l) => rrises_any A n c l W h)
  rw [← hy] at K1 K2
  rw [← hp] at K3 K4
  rw [← hr] at K5 K6
  clear hy hp hr hfa
  obtain ⟨at_, ai⟩ := a
  obtain ⟨bt, bi⟩ := b
  unfold vsp at K1 K2 K3 K4 ⊢
  simp only at K1 K2 K3 K4 ⊢
  have HT := Lib.hid (fun W (hb : Below w.heap.size w W) => hT.below hb)
  have HB := Lib.hid (show Below w.heap.size w ((w.alloc (.cells #[.int .i64 at_, .int .i64 ai] 31)).alloc (.cells #[.int .i64 bt, .int .i64 bi] 31)) from
    ((Below.refl _ _).alloc (Nat.le_refl _) _).alloc (by simp) _)
  have X := Lib.hid ((Box.new w 31 #[.int .i64 at_, .int .i64 ai]).alloc (.cells #[.int .i64 bt, .int .i64 bi] 31))
  have Y := Lib.hid (Box.new_at (w := w.alloc (.cells #[.int .i64 at_, .int .i64 ai] 31)) (t := 31) (cs := #[.int .i64 bt, .int .i64 bi]) (w.heap.size + 1) (by simp))
  clear hT
  go_enter Try.func4, Try.ntmps4
  go_upto_region 1 with (fail)
  generalize (w.alloc (.cells #[.int .i64 at_, .int .i64 ai] 31)).alloc (.cells #[.int .i64 bt, .int .i64 bi] 31) = w1 at HB X Y ⊢
  generalize hg : w.heap.size = g at X Y ⊢
  clear hg
  by_cases h1 : 10000 < n
  · go_wp2_with fail
    go_ret
    exact ⟨rfl, HB.out⟩
  go_wp2_with (at_builtin; refine wpList_append_g _ rfl _ _ 32 rfl w1.heap.size 31 i0 (.agg #[.int .i64 0, .int .i64 0]) 2 16 Try.underlying32 hi hz0 hz1 hz2 rfl (by omega) (.slice none 0 0) 0 [] rfl (World.ownsRow_nil _ _ _ _) A n c (flat spc l) rfl (HT.out _ HB.out).1 (flat_spc_one l) (by unfold maxLen; omega) (by omega) (Nat.le_refl _) ?_; intro v2 w2 hown2 hg2 hob2; have hb2 : Below w1.heap.size w1 w2 := below_of_grown hg2 (by intro g hg; cases hg))
  simp only [Nat.zero_add, List.nil_append] at hown2
  obtain ⟨Ao, co, rfl, hTo⟩ := sps_own hown2 HLn.out
  have HO := Lib.hid (fun W (hb : Below w2.heap.size w2 W) => hTo.below hb)
  have HI := Lib.hid (fun W (hb : Below w2.heap.size w2 W) => HT.out _ (bmore (bmore HB.out hb2 (Nat.le_refl _)) hb (Nat.le_refl _)))
  replace HB := Lib.hid (bmore HB.out hb2 (Nat.le_refl _))
  replace X := Lib.hid (X.out.below hb2 X.out.lt)
  replace Y := Lib.hid (Y.out.below hb2 Y.out.lt)
  clear hown2 hg2 hob2 hb2 hTo HT hi hz0 hz1 hz2
  have HSS := Lib.hid (fun (W : World) (h : Below w2.heap.size w2 W) => show W.cell? ⟨g, 0, none⟩ = some (.int .i64 at_) ∧ W.cell? ⟨g, 1, none⟩ = some (.int .i64 ai) ∧ W.cell? ⟨g + 1, 0, none⟩ = some (.int .i64 bt) ∧ W.cell? ⟨g + 1, 1, none⟩ = some (.int .i64 bi) from
    ⟨(X.out.below h X.out.lt).cell 0, (X.out.below h X.out.lt).cell 1, (Y.out.below h Y.out.lt).cell 0, (Y.out.below h Y.out.lt).cell 1⟩)
  have bb1 : Below w2.heap.size w2 w2.drew := (Below.refl _ _).drew
  have e1 : (y == y) = true := by simp
  have e2 : (p == p) = true := by simp
  have e3 : (r == r) = true := by simp
  go_wp2_with fail
  obtain ⟨ud, hud⟩ : ∃ ud, ud = w2.drew := ⟨_, rfl⟩
  refine wp_region_held_drew (S := fun w' => w'.cell? ⟨g, 0, none⟩ = some (.int .i64 at_) ∧ w'.cell? ⟨g, 1, none⟩ = some (.int .i64 ai) ∧ w'.cell? ⟨g + 1, 0, none⟩ = some (.int .i64 bt) ∧ w'.cell? ⟨g + 1, 1, none⟩ = some (.int .i64 bi)) (by kernel_rfl) (HSS.out _ bb1) (fun hHeld => ?_)
  rw [← hud] at bb1 hHeld ⊢
  clear hud
  refine qT 0 ?_; try simp only [Act.put, qq]
  refine qT 2 ?_; try simp only [Act.put, qq]
  refine wpAnyH_ready (rs := [1]) (by kernel_rfl) (by simp) ?_
  refine AllReadyH.cons rfl (fun K hK => ?_) AllReadyH.nil
  go_simp
  refine (K1.out _).mono ?_
  rintro e w5 ⟨rfl, hb⟩
  have bb2 := bmore bb1 hb (Nat.le_refl _)
  clear hb
  refine hK.out _ _ (HSS.out _ bb2) (fun hHeld => ?_)
  clear hK
  try simp only [Act.put, qq]
  refine wpAnyH_ready (rs := [3]) (by kernel_rfl) (by simp) ?_
  refine AllReadyH.cons rfl (fun K hK => ?_) AllReadyH.nil
  go_simp
  refine (K2.out _).mono ?_
  rintro e w6 ⟨rfl, hb⟩
  have bb3 := bmore bb2 hb (Nat.le_refl _)
  clear hb
  refine hK.out _ _ (HSS.out _ bb3) (fun hHeld => ?_)
  clear hK
  try simp only [Act.put, qq]
  refine qT 4 ?_; try simp only [Act.put, qq]
  refine qT 5 ?_; try simp only [Act.put, qq]
  refine qT 6 ?_; try simp only [Act.put, qq]
  refine qT 7 ?_; try simp only [Act.put, qq]
  refine qT 9 ?_; try simp only [Act.put, qq]
  refine qT 10 ?_; try simp only [Act.put, qq]
  refine wpAnyH_ready (rs := [8]) (by kernel_rfl) (by simp) ?_
  refine AllReadyH.cons rfl (fun K hK => ?_) AllReadyH.nil
  go_simp
  refine (K3.out _).mono ?_
  rintro e w7 ⟨rfl, hb⟩
  have bb4 := bmore bb3 hb (Nat.le_refl _)
  clear hb
  refine hK.out _ _ (HSS.out _ bb4) (fun hHeld => ?_)
  clear hK
  try simp only [Act.put, qq]
  refine wpAnyH_ready (rs := [11]) (by kernel_rfl) (by simp) ?_
  refine AllReadyH.cons rfl (fun K hK => ?_) AllReadyH.nil
  go_simp
  refine (K4.out _).mono ?_
  rintro e w8 ⟨rfl, hb⟩
  have bb5 := bmore bb4 hb (Nat.le_refl _)
  clear hb
  refine hK.out _ _ (HSS.out _ bb5) (fun hHeld => ?_)
  clear hK
  try simp only [Act.put, qq]
  refine qT 12 ?_; try simp only [Act.put, qq]
  refine qT 13 ?_; try simp only [Act.put, qq]
  refine qT 14 ?_; try simp only [Act.put, qq]
  refine qT 15 ?_; try simp only [Act.put, qq]
  refine qT 17 ?_; try simp only [Act.put, qq]
  refine wpAnyH_ready (rs := [16]) (by kernel_rfl) (by simp) ?_
  refine AllReadyH.cons rfl (fun K hK => ?_) AllReadyH.nil
  go_simp
  refine (K5.out _ _ _ (HO.out _ bb5)).mono ?_
  rintro e w9 ⟨rfl, hb⟩
  have bb6 := bmore bb5 hb (Nat.le_refl _)
  clear hb
  refine hK.out _ _ (HSS.out _ bb6) (fun hHeld => ?_)
  clear hK
  try simp only [Act.put, qq]
  refine wpAnyH_ready (rs := [18]) (by kernel_rfl) (by simp) ?_
  refine AllReadyH.cons rfl (fun K hK => ?_) AllReadyH.nil
  go_simp
  refine (K6.out _ _ _ (HI.out _ bb6)).mono ?_
  rintro e w10 ⟨rfl, hb⟩
  have bb7 := bmore bb6 hb (Nat.le_refl _)
  clear hb
  refine hK.out _ _ (HSS.out _ bb7) (fun hHeld => ?_)
  clear hK
  try simp only [Act.put, qq]
  refine qT 19 ?_; try simp only [Act.put, qq]
  refine qT 20 ?_; try simp only [Act.put, qq]
  refine qT 21 ?_; try simp only [Act.put, qq]
  refine qT 22 ?_; try simp only [Act.put, qq]
  refine qT 23 ?_; try simp only [Act.put, qq]
  refine wpAnyH_ready (rs := [24]) (by kernel_rfl) (by simp) ?_
  refine AllReadyH.cons rfl (fun K hK => ?_) AllReadyH.nil
  go_simp
  refine (rsame14_any _ _ _ _ _ l _ (HO.out _ bb7) (HI.out _ bb7)).mono ?_
  rintro e w11 ⟨rfl, hb⟩
  have bb8 := bmore bb7 hb (Nat.le_refl _)
  clear hb
  refine hK.out _ _ (HSS.out _ bb8) (fun hHeld => ?_)
  clear hK
  try simp only [Act.put, qq]
  refine qT 25 ?_; try simp only [Act.put, qq]
  refine qT 26 ?_; try simp only [Act.put, qq]
  refine wpAnyH_done (by kernel_rfl) ?_ _
  clear hHeld HSS
  have HN := Lib.hid (bmore HB.out bb8 (Nat.le_refl _))
  go_wp2_with fail
  go_ret
  exact ⟨rfl, HN.out⟩
theorem stampTells_walk (va : Value) (a : Sp) (vb : Value) (b : Sp) (A : Option Addr) (n c : Nat) (l : List Sp) (w : World) (ha : SpArg va a) (hb : SpArg vb b) (hl : SpsArg w A n c l) :
    Calls Try.prog 4 #[va, vb, .slice A n c] w fun e w' => e = .returned (.bool true) ∧ Below w.heap.size w w' := by
  obtain ⟨rfl, hf⟩ := ha
  obtain ⟨rfl, _⟩ := hb
  exact stampTells_walk0 a b A n c l w hf hl.1
end Go.Proofs.Yteenodmkpdcbaaa
