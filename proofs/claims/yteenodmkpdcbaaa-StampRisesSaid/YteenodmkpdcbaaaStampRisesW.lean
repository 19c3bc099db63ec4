/-
  The walk of StampRises: of stamps that rise each one is less than all behind it. Conditions: any stamps and places.
-/
import Derived.Test.YteenodmkpdcbaaaSpLv
import Derived.Test.YteenodmkpdcbaaaSpArg
import Derived.Test.YteenodmkpdcbaaaQq
namespace Go.Proofs.Yteenodmkpdcbaaa
open Go.RowKit TP
open TM (Sp)
set_option linter.unusedVariables false
set_option linter.unusedSimpArgs false
set_option maxRecDepth 100000

set_option maxHeartbeats 4000000 in
theorem stampRises_walk (A : Option Addr) (n c : Nat) (l : List Sp) (i k : Int) (w : World) (ha : SpsArg w A n c l) (hi : (Lit.int .i64 i).wf = true) (hk : (Lit.int .i64 k).wf = true) :
    Calls Try.prog 7 #[.slice A n c, .int .i64 i, .int .i64 k] w fun e w' => e = .returned (.bool true) ∧ Below w.heap.size w w' := by
  have hn := ha.1.small
  have H := Lib.hid (fun W (hb : Below w.heap.size w W) => ha.1.below hb)
  have HL := Lib.hid ha.1.2.1
  have KR := Lib.hid (fun W (hb : Below w.heap.size w W) => prises_any A n c l W (ha.1.below hb))
  have KA := Lib.hid (fun w => alive14_any w)
  have HR := Lib.hid (TM.rises_iff l)
  generalize TM.rises l = r at KR HR
  clear ha hi hk
  go_enter Try.func7, Try.ntmps7
  go_wp2_with fail
  refine (KA.out _).mono ?_
  rintro e w1 ⟨rfl, hb⟩
  have HB := Lib.hid hb
  clear hb KA
  by_cases h1 : 1000 < n
  · go_wp2_with fail
    go_ret
    exact ⟨rfl, HB.out⟩
  by_cases h2 : i < 0
  · go_wp2_with fail
    go_ret
    exact ⟨rfl, HB.out⟩
  by_cases h3 : (n : Int) ≤ k
  · go_wp2_with fail
    go_ret
    exact ⟨rfl, HB.out⟩
  by_cases h4 : k ≤ i
  · go_wp2_with fail
    go_ret
    exact ⟨rfl, HB.out⟩
  obtain ⟨p, rfl⟩ : ∃ p : Nat, i = p := ⟨i.toNat, by omega⟩
  obtain ⟨q, rfl⟩ : ∃ q : Nat, k = q := ⟨k.toNat, by omega⟩
  obtain ⟨a, ha⟩ : ∃ a, l[p]? = some a := ⟨_, List.getElem?_eq_getElem (by have := HL.out; omega)⟩
  obtain ⟨b, hb⟩ : ∃ b, l[q]? = some b := ⟨_, List.getElem?_eq_getElem (by have := HL.out; omega)⟩
  have HQ := Lib.hid (fun h : r = true => TM.Up.less (HR.out.1 h) ha hb (by omega))
  obtain ⟨bl, o, rfl, _, _, a0, a1⟩ := (H.out _ HB.out).at_ ha
  obtain ⟨bl', o', e', _, _, b0, b1⟩ := (H.out _ HB.out).at_ hb
  injection e' with e'
  injection e' with e1 e2
  subst e1 e2
  clear ha hb
  have C := Lib.hid (fun w => pless_any a b w)
  generalize TM.less a b = d at C HQ
  obtain ⟨at_, ai⟩ := a
  obtain ⟨bt, bi⟩ := b
  unfold vsp at C
  simp only at a0 a1 b0 b1 C
  have hk0 : (0 : Int) ≤ (p : Int) := by omega
  have hkn : (p : Int) < (n : Int) := by omega
  have hk2 : (0 : Int) ≤ (q : Int) := by omega
  have hk3 : (q : Int) < (n : Int) := by omega
  have HSS := Lib.hid (fun (W : World) (h : Below w1.heap.size w1 W) => show W.cell? ⟨bl, o + p * 2, none⟩ = some (.int .i64 at_) ∧ W.cell? ⟨bl, o + p * 2 + 1, none⟩ = some (.int .i64 ai) ∧ W.cell? ⟨bl, o + q * 2, none⟩ = some (.int .i64 bt) ∧ W.cell? ⟨bl, o + q * 2 + 1, none⟩ = some (.int .i64 bi) from
    ⟨(h.cell (cell_block a0)).trans a0, (h.cell (cell_block a1)).trans a1, (h.cell (cell_block b0)).trans b0, (h.cell (cell_block b1)).trans b1⟩)
  have bb1 : Below w1.heap.size w1 w1.drew := (Below.refl _ _).drew

  rcases r with _ | _
  · clear HQ
    go_wp2_with fail
    obtain ⟨ud, hud⟩ : ∃ ud, ud = w1.drew := ⟨_, rfl⟩
    refine wp_region_held_drew (S := fun w' => w'.cell? ⟨bl, o + p * 2, none⟩ = some (.int .i64 at_) ∧ w'.cell? ⟨bl, o + p * 2 + 1, none⟩ = some (.int .i64 ai) ∧ w'.cell? ⟨bl, o + q * 2, none⟩ = some (.int .i64 bt) ∧ w'.cell? ⟨bl, o + q * 2 + 1, none⟩ = some (.int .i64 bi)) (by kernel_rfl) (HSS.out _ bb1) (fun hHeld => ?_)
    rw [← hud] at bb1 hHeld ⊢
    clear hud
    refine qT 0 ?_; try simp only [Act.put, qq]
    refine wpAnyH_ready (rs := [1]) (by kernel_rfl) (by simp) ?_
    refine AllReadyH.cons rfl (fun K hK => ?_) AllReadyH.nil
    go_simp
    refine (KR.out _ (bmore HB.out bb1 (Nat.le_refl _))).mono ?_
    rintro e w5 ⟨rfl, hb⟩
    have bb3 := bmore bb1 hb (Nat.le_refl _)
    clear hb
    refine hK.out _ _ (HSS.out _ bb3) (fun hHeld => ?_)
    clear hK
    try simp only [Act.put, qq]
    refine qT 2 ?_; try simp only [Act.put, qq]
    refine qT 3 ?_; try simp only [Act.put, qq]
    refine qS 4 ?_; try simp only [Act.put, qq]
    refine qS 5 ?_; try simp only [Act.put, qq]
    refine qS 6 ?_; try simp only [Act.put, qq]
    refine qS 7 ?_; try simp only [Act.put, qq]
    refine qS 8 ?_; try simp only [Act.put, qq]
    refine qS 9 ?_; try simp only [Act.put, qq]
    refine qS 10 ?_; try simp only [Act.put, qq]
    refine qS 11 ?_; try simp only [Act.put, qq]
    refine qS 12 ?_; try simp only [Act.put, qq]
    refine qT 13 ?_; try simp only [Act.put, qq]
    refine qT 14 ?_; try simp only [Act.put, qq]
    refine wpAnyH_done (by kernel_rfl) ?_ _
    clear hHeld HSS
    have HN := Lib.hid (bmore HB.out bb3 (Nat.le_refl _))
    clear a0 a1 b0 b1 C
    go_wp2_with fail
    go_ret
    exact ⟨rfl, HN.out⟩
  · obtain rfl := HQ.out rfl
    clear HQ
    go_wp2_with fail
    obtain ⟨ud, hud⟩ : ∃ ud, ud = w1.drew := ⟨_, rfl⟩
    refine wp_region_held_drew (S := fun w' => w'.cell? ⟨bl, o + p * 2, none⟩ = some (.int .i64 at_) ∧ w'.cell? ⟨bl, o + p * 2 + 1, none⟩ = some (.int .i64 ai) ∧ w'.cell? ⟨bl, o + q * 2, none⟩ = some (.int .i64 bt) ∧ w'.cell? ⟨bl, o + q * 2 + 1, none⟩ = some (.int .i64 bi)) (by kernel_rfl) (HSS.out _ bb1) (fun hHeld => ?_)
    rw [← hud] at bb1 hHeld ⊢
    clear hud
    refine qT 0 ?_; try simp only [Act.put, qq]
    refine wpAnyH_ready (rs := [1]) (by kernel_rfl) (by simp) ?_
    refine AllReadyH.cons rfl (fun K hK => ?_) AllReadyH.nil
    go_simp
    refine (KR.out _ (bmore HB.out bb1 (Nat.le_refl _))).mono ?_
    rintro e w5 ⟨rfl, hb⟩
    have bb3 := bmore bb1 hb (Nat.le_refl _)
    clear hb
    refine hK.out _ _ (HSS.out _ bb3) (fun hHeld => ?_)
    clear hK
    try simp only [Act.put, qq]
    refine qT 2 ?_; try simp only [Act.put, qq]
    refine qT 3 ?_; try simp only [Act.put, qq]
    refine qT 4 ?_; try simp only [Act.put, qq]
    refine qT 5 ?_; try simp only [Act.put, qq]
    refine qT 6 ?_; try simp only [Act.put, qq]
    refine qT 7 ?_; try simp only [Act.put, qq]
    refine qT 8 ?_; try simp only [Act.put, qq]
    refine qT 9 ?_; try simp only [Act.put, qq]
    refine qT 10 ?_; try simp only [Act.put, qq]
    refine qT 11 ?_; try simp only [Act.put, qq]
    refine wpAnyH_ready (rs := [12]) (by kernel_rfl) (by simp) ?_
    refine AllReadyH.cons rfl (fun K hK => ?_) AllReadyH.nil
    go_simp
    refine (C.out _).mono ?_
    rintro e w6 ⟨rfl, hb⟩
    have bb4 := bmore bb3 hb (Nat.le_refl _)
    clear hb
    refine hK.out _ _ (HSS.out _ bb4) (fun hHeld => ?_)
    clear hK
    try simp only [Act.put, qq]
    refine qT 13 ?_; try simp only [Act.put, qq]
    refine qT 14 ?_; try simp only [Act.put, qq]
    refine wpAnyH_done (by kernel_rfl) ?_ _
    clear hHeld HSS
    have HN := Lib.hid (bmore HB.out bb4 (Nat.le_refl _))
    clear a0 a1 b0 b1 C
    go_wp2_with fail
    go_ret
    exact ⟨rfl, HN.out⟩
end Go.Proofs.Yteenodmkpdcbaaa
