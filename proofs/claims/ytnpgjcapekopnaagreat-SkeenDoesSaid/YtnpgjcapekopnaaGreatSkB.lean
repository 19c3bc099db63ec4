/-
  The document's own least of what waits (towncrierref15). Conditions: something waits.
-/
import Derived.Test.YtnpgjcapekopnaaGreatSkA
import Derived.Test.YtnpgjcapekopnaaGreatQq
namespace Go.Proofs.YtnpgjcapekopnaaGreat.KP
open Go.RowKit CP TP
open CM (Mg Cm)
open TM (Sp)
open KM (Wt Sk)
set_option linter.unusedVariables false
set_option linter.unusedSimpArgs false
set_option maxRecDepth 100000

set_option maxHeartbeats 8000000 in
theorem rleast_any (A : Option Addr) (n c : Nat) (l : List Wt) (w : World) (h : KR KW w A n c l) (hne : l ≠ []) : Calls Tryz.prog 43 #[.slice A n c] w (IsN (KM.lst l : Nat) w) := by
  obtain ⟨r, hr⟩ : ∃ r, r = KM.lst l := ⟨_, rfl⟩
  rw [← hr]
  have HR := Lib.hid hr
  have HL := Lib.hid h.len
  have hn63 := h.small
  have H := Lib.hid (fun W (hb : Below w.heap.size w W) => h.below hb)
  have H1 := Lib.hid (upto_one hne)
  clear h hne hr
  go_enter Tryz.func43, Tryz.ntmps43
  go_wp2_with fail
  go_loopw [3, 4] (fun a i wr => ∃ p k : Nat, k ≤ n + 1 ∧ a = .int .i64 p ∧ i = .int .i64 k ∧ Below w.heap.size w wr ∧ Hid (Upto l k p)) (fun a i _ => n + 1 - (intOf i).toNat)
  case atStart => exact ⟨0, 1, by omega, rfl, rfl, Below.refl _ _, H1⟩
  case round =>
    clear H1
    obtain ⟨p, k, hk, rfl, rfl, hB, HU⟩ := hrel
    have HB := Lib.hid hB
    clear hB
    by_cases hlt : k < n
    · obtain ⟨y, hy⟩ : ∃ y, l[k]? = some y := ⟨_, List.getElem?_eq_getElem (by have := HL.out; omega)⟩
      have HY := Lib.hid hy
      obtain ⟨x, hx⟩ : ∃ x, l[p]? = some x := by obtain ⟨x, h, _⟩ := HU.out; exact ⟨x, h⟩
      have HXx := Lib.hid hx
      obtain ⟨bl, o, P, q, rfl, _, _, hat, _⟩ := wts_at (H.out _ HB.out) hy
      obtain ⟨bl', o', P', q', e', hpn, _, hat', _⟩ := wts_at (H.out _ HB.out) hx
      injection e' with e'
      injection e' with e1 e2
      subst e1 e2
      have HAT := Lib.hid (And.intro hat hat')
      obtain ⟨b0, b1, b2, b3, b4, b5, b6⟩ := hat
      obtain ⟨a0, a1, a2, a3, a4, a5, a6⟩ := hat'
      clear hx hy
      have hk0 : (0 : Int) ≤ (k : Int) := by omega
      have hkn : (k : Int) < (n : Int) := by omega
      have hp0 : (0 : Int) ≤ (p : Int) := by omega
      have hp1 : (p : Int) < (n : Int) := by omega
      obtain ⟨d, hd⟩ : ∃ d, d = TM.less (KM.stp y) (KM.stp x) := ⟨_, rfl⟩
      have HD := Lib.hid hd
      have C1 := Lib.hid (fun w => rstamp_any P q y w)
      have C2 := Lib.hid (fun w => rstamp_any P' q' x w)
      have C3 := Lib.hid (fun w => rless_any (KM.stp y) (KM.stp x) w)
      rw [← hd] at C3
      clear hd
      have hbl := cell_block b0
      obtain ⟨⟨yi, yg, yt, yk, yb⟩, ym, yf⟩ := y
      obtain ⟨⟨xi, xg, xt, xk, xb⟩, xm, xf⟩ := x
      unfold vwt at C1 C2
      unfold KM.stp at C1 C2 C3
      unfold vsp at C3
      simp only at a0 a1 a2 a3 a4 a5 a6 b0 b1 b2 b3 b4 b5 b6 C1 C2 C3
      have HSS := Lib.hid (fun (w' : World) (h : Below wr.heap.size wr w') => show w'.cell? ⟨bl, o + k * 7, none⟩ = some (.int .i64 yi) ∧ w'.cell? ⟨bl, o + k * 7 + 1, none⟩ = some (.slice P yg.length q) ∧ w'.cell? ⟨bl, o + k * 7 + 2, none⟩ = some (.int .i64 yt) ∧ w'.cell? ⟨bl, o + k * 7 + 3, none⟩ = some (.string yk) ∧ w'.cell? ⟨bl, o + k * 7 + 4, none⟩ = some (.string yb) ∧ w'.cell? ⟨bl, o + k * 7 + 5, none⟩ = some (.int .i64 ym) ∧ w'.cell? ⟨bl, o + k * 7 + 6, none⟩ = some (.bool yf) ∧ w'.cell? ⟨bl, o + p * 7, none⟩ = some (.int .i64 xi) ∧ w'.cell? ⟨bl, o + p * 7 + 1, none⟩ = some (.slice P' xg.length q') ∧ w'.cell? ⟨bl, o + p * 7 + 2, none⟩ = some (.int .i64 xt) ∧ w'.cell? ⟨bl, o + p * 7 + 3, none⟩ = some (.string xk) ∧ w'.cell? ⟨bl, o + p * 7 + 4, none⟩ = some (.string xb) ∧ w'.cell? ⟨bl, o + p * 7 + 5, none⟩ = some (.int .i64 xm) ∧ w'.cell? ⟨bl, o + p * 7 + 6, none⟩ = some (.bool xf) from
        ⟨(h.cell (cell_block b0)).trans b0, (h.cell (cell_block b1)).trans b1, (h.cell (cell_block b2)).trans b2, (h.cell (cell_block b3)).trans b3, (h.cell (cell_block b4)).trans b4, (h.cell (cell_block b5)).trans b5, (h.cell (cell_block b6)).trans b6, (h.cell (cell_block a0)).trans a0, (h.cell (cell_block a1)).trans a1, (h.cell (cell_block a2)).trans a2, (h.cell (cell_block a3)).trans a3, (h.cell (cell_block a4)).trans a4, (h.cell (cell_block a5)).trans a5, (h.cell (cell_block a6)).trans a6⟩)
      have bb1 : Below wr.heap.size wr wr.drew := (Below.refl _ _).drew
      go_wp2_with fail
      obtain ⟨ud, hud⟩ : ∃ ud, ud = wr.drew := ⟨_, rfl⟩
      refine wp_region_held_drew (S := fun w' => w'.cell? ⟨bl, o + k * 7, none⟩ = some (.int .i64 yi) ∧ w'.cell? ⟨bl, o + k * 7 + 1, none⟩ = some (.slice P yg.length q) ∧ w'.cell? ⟨bl, o + k * 7 + 2, none⟩ = some (.int .i64 yt) ∧ w'.cell? ⟨bl, o + k * 7 + 3, none⟩ = some (.string yk) ∧ w'.cell? ⟨bl, o + k * 7 + 4, none⟩ = some (.string yb) ∧ w'.cell? ⟨bl, o + k * 7 + 5, none⟩ = some (.int .i64 ym) ∧ w'.cell? ⟨bl, o + k * 7 + 6, none⟩ = some (.bool yf) ∧ w'.cell? ⟨bl, o + p * 7, none⟩ = some (.int .i64 xi) ∧ w'.cell? ⟨bl, o + p * 7 + 1, none⟩ = some (.slice P' xg.length q') ∧ w'.cell? ⟨bl, o + p * 7 + 2, none⟩ = some (.int .i64 xt) ∧ w'.cell? ⟨bl, o + p * 7 + 3, none⟩ = some (.string xk) ∧ w'.cell? ⟨bl, o + p * 7 + 4, none⟩ = some (.string xb) ∧ w'.cell? ⟨bl, o + p * 7 + 5, none⟩ = some (.int .i64 xm) ∧ w'.cell? ⟨bl, o + p * 7 + 6, none⟩ = some (.bool xf)) (by kernel_rfl) (HSS.out _ bb1) (fun hHeld => ?_)
      rw [← hud] at bb1 hHeld ⊢
      clear hud
      refine qT 0 ?_; try simp only [Act.put, qq]
      refine qT 1 ?_; try simp only [Act.put, qq]
      refine qT 2 ?_; try simp only [Act.put, qq]
      refine qT 3 ?_; try simp only [Act.put, qq]
      refine qT 5 ?_; try simp only [Act.put, qq]
      refine qT 6 ?_; try simp only [Act.put, qq]
      refine qT 7 ?_; try simp only [Act.put, qq]
      refine qT 8 ?_; try simp only [Act.put, qq]
      refine wpAnyH_ready (rs := [4]) (by kernel_rfl) (by simp) ?_
      refine AllReadyH.cons rfl (fun K hK => ?_) AllReadyH.nil
      go_simp
      refine (C1.out _).mono ?_
      rintro e w3 ⟨rfl, hb⟩
      have bb2 := bmore bb1 hb (Nat.le_refl _)
      clear hb
      unfold vsp
      refine hK.out _ _ (HSS.out _ bb2) (fun hHeld => ?_)
      clear hK
      try simp only [Act.put, qq]
      refine wpAnyH_ready (rs := [9]) (by kernel_rfl) (by simp) ?_
      refine AllReadyH.cons rfl (fun K hK => ?_) AllReadyH.nil
      go_simp
      refine (C2.out _).mono ?_
      rintro e w4 ⟨rfl, hb⟩
      have bb3 := bmore bb2 hb (Nat.le_refl _)
      clear hb
      unfold vsp
      refine hK.out _ _ (HSS.out _ bb3) (fun hHeld => ?_)
      clear hK
      try simp only [Act.put, qq]
      refine wpAnyH_ready (rs := [10]) (by kernel_rfl) (by simp) ?_
      refine AllReadyH.cons rfl (fun K hK => ?_) AllReadyH.nil
      go_simp
      refine (C3.out _).mono ?_
      rintro e w5 ⟨rfl, hb⟩
      have bb4 := bmore bb3 hb (Nat.le_refl _)
      clear hb
      refine hK.out _ _ (HSS.out _ bb4) (fun hHeld => ?_)
      clear hK
      try simp only [Act.put, qq]
      refine wpAnyH_done (by kernel_rfl) ?_ _
      clear hHeld HSS
      have HN := Lib.hid (bmore HB.out bb4 (Nat.le_refl _))
      clear a0 a1 a2 a3 a4 a5 a6 b0 b1 b2 b3 b4 b5 b6 C1 C2 C3 HAT
      rcases d with _ | _
      · have HF := Lib.hid (HU.out.keep HXx.out HY.out HD.out.symm)
        go_wp2_with fail
        go_roundw
        case rel => exact ⟨p, k + 1, by omega, rfl, by go_num, HN.out, HF⟩
        case measure => simp [intOf]; omega
      · have HF := Lib.hid (HU.out.turn HXx.out HY.out HD.out.symm)
        go_wp2_with fail
        go_roundw
        case rel => exact ⟨k, k + 1, by omega, rfl, by go_num, HN.out, HF⟩
        case measure => simp [intOf]; omega
    · have HF := Lib.hid (show r = p by rw [HR.out]; exact HU.out.all (by have := HL.out; omega))
      go_wp2_with fail
      go_ret
      exact ⟨by rw [HF.out]; rfl, HB.out⟩
end Go.Proofs.YtnpgjcapekopnaaGreat.KP
