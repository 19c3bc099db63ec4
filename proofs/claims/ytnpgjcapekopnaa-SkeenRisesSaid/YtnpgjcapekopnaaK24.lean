/-
  The laws' own assigned, over a clock and commands that came in (towncrierlaw15). Conditions: they read as such.
-/
import Derived.Test.YtnpgjcapekopnaaK20
import Derived.Test.YtnpgjcapekopnaaK11
namespace Go.Proofs.Ytnpgjcapekopnaa.KP
open Go.RowKit CP TP
open CM (Mg Cm)
open TM (Sp)
open KM (Wt Sk)
set_option linter.unusedVariables false
set_option linter.unusedSimpArgs false
set_option maxRecDepth 100000

set_option maxHeartbeats 8000000 in
theorem assigned15_any (v : Value) (s : Sk) (A2 : Option Addr) (n2 c2 : Nat) (es : List LP.El) (gr : Int) (vm : Value) (m : Mg) (r : Bool) (w : World) (h : SkIs w v s) (hc : CmsArg w A2 n2 c2 es) (hm : MgIs w vm m) (hr : r = true ↔ KM.Asg s (es.map LP.El.x) gr m) :
    Calls Try.prog 18 #[v, .slice A2 n2 c2, .int .i64 gr, vm] w (IsB r w) := by
  obtain ⟨A, c, B, d, rfl, h1, h2⟩ := h
  obtain ⟨M, cm, rfl, hrow⟩ := hm
  obtain ⟨sc, ws, ds⟩ := s
  simp only at h1 h2
  obtain ⟨n, hn⟩ : ∃ n, n = ws.length := ⟨_, rfl⟩
  have HMR := Lib.hid (fun W (hb : Below w.heap.size w W) => hrow.below hb)
  have HMM := Lib.hid (fun W (hb : Below w.heap.size w W) (x : Mg) P q (h : RowIs W P q x.gs) => sameMessage_any x m (.agg (mcells P q x)) (.agg (mcells M cm m)) W ⟨P, q, rfl, h⟩ ⟨M, cm, rfl, hrow.below hb⟩)
  have HYES1 := Lib.hid (show ∀ x ∈ ws, x.m = m → r = true from fun x hx e => hr.2 (.inl ⟨x, hx, e⟩))
  have HYES2 := Lib.hid (show ∀ e ∈ es, e.x.k = 1 → e.x.m = m → gr ∈ m.gs → r = true from fun e he h1 h2 h3 => hr.2 (.inr ⟨e.x, List.mem_map.2 ⟨e, he, rfl⟩, h1, h2, h3⟩))
  have HNO := Lib.hid (show (∀ x ∈ ws, x.m ≠ m) → (∀ e ∈ es, ¬ (e.x.k = 1 ∧ e.x.m = m ∧ gr ∈ m.gs)) → r = false from fun k1 k2 => by
    rcases hrr : r with _ | _
    · rfl
    · exfalso
      rcases hr.1 hrr with ⟨x, hx, e⟩ | ⟨x, hx, hh⟩
      · exact k1 x hx e
      · obtain ⟨e, he, rfl⟩ := List.mem_map.1 hx
        exact k2 e he hh)
  have hgl : m.gs.length ≤ 9223372036854775807 := by have := hrow.2.1; have := hrow.2.2; unfold maxLen at this; omega
  clear hr hrow
  unfold vsk
  simp only
  rw [← hn] at h1 ⊢
  have HL := Lib.hid hn
  have HL2 := Lib.hid hc.2.1
  have hn63 := h1.small
  have hm63 := hc.small
  have H := Lib.hid (fun W (hb : Below w.heap.size w W) => h1.below hb)
  have HC := Lib.hid (fun W (hb : Below w.heap.size w W) => hc.below hb)
  clear h1 h2 hn hc
  obtain ⟨m0, hm0⟩ : ∃ m0, m0 = m := ⟨_, rfl⟩
  rw [← hm0] at HMM HYES1 HYES2 HNO
  have HM0 := Lib.hid (show gr ∈ m.gs → gr ∈ m0.gs from fun h => by rw [hm0]; exact h)
  have HM1 := Lib.hid (show gr ∈ m0.gs → gr ∈ m.gs from fun h => by rw [← hm0]; exact h)
  have HMC := Lib.hid (show mcells M cm m0 = mcells M cm m by rw [hm0])
  clear hm0
  obtain ⟨mi, mg, mt, mk, mb⟩ := m
  unfold mcells
  simp only at HMR HM0 HM1 hgl ⊢
  have HB := Lib.hid (show Below w.heap.size w ((w.alloc (.cells #[.int .i64 sc, .slice A n c, .slice B ds.length d] 25)).alloc (.cells #[.int .i64 mi, .slice M mg.length cm, .int .i64 mt, .string mk, .string mb] 31)) from ((Below.refl _ _).alloc (Nat.le_refl _) _).alloc (by simp) _)
  have X := Lib.hid ((Box.new w 25 #[.int .i64 sc, .slice A n c, .slice B ds.length d]).alloc (.cells #[.int .i64 mi, .slice M mg.length cm, .int .i64 mt, .string mk, .string mb] 31))
  have Y := Lib.hid (Box.new_at (w := w.alloc (.cells #[.int .i64 sc, .slice A n c, .slice B ds.length d] 25)) (t := 31) (cs := #[.int .i64 mi, .slice M mg.length cm, .int .i64 mt, .string mk, .string mb]) (w.heap.size + 1) (by simp))
  go_enter Try.func18, Try.ntmps18
  go_upto_region 1 with (fail)
  generalize (w.alloc (.cells #[.int .i64 sc, .slice A n c, .slice B ds.length d] 25)).alloc (.cells #[.int .i64 mi, .slice M mg.length cm, .int .i64 mt, .string mk, .string mb] 31) = w1 at HB X Y ⊢
  generalize hg1 : w.heap.size + 1 = g1 at Y ⊢
  clear hg1
  generalize hg0 : w.heap.size = g0 at X ⊢
  clear hg0
  go_wp2_with fail
  go_loopw [9] (fun i wr => ∃ k : Nat, k ≤ n ∧ i = .int .i64 k ∧ Below w1.heap.size w1 wr ∧ Hid (∀ j y, j < k → ws[j]? = some y → y.m ≠ m0)) (fun i _ => n - (intOf i).toNat)
  case atStart => exact ⟨0, by omega, rfl, Below.refl _ _, Lib.hid fun j y hj => absurd hj (by omega)⟩
  case round =>
    obtain ⟨k, hk, rfl, hB, HN⟩ := hrel
    have HB2 := Lib.hid hB
    obtain ⟨x0, x1, x2⟩ := box_sk (X.out.below hB X.out.lt)
    obtain ⟨y0, y1, y2, y3, y4⟩ := box_mg (Y.out.below hB Y.out.lt)
    clear hB
    by_cases hlt : k < n
    · obtain ⟨a, ha⟩ : ∃ a, ws[k]? = some a := ⟨_, List.getElem?_eq_getElem (by have := HL.out; omega)⟩
      have HA := Lib.hid ha
      obtain ⟨bl, o, P, q, rfl, _, _, hat, hrr⟩ := wts_at (H.out _ (bmore HB.out HB2.out (Nat.le_refl _))) ha
      obtain ⟨a0, a1, a2, a3, a4, a5, a6⟩ := hat
      clear ha a5 a6
      have hk0 : (0 : Int) ≤ (k : Int) := by omega
      have hkn : (k : Int) < (n : Int) := by omega
      have HF := Lib.hid (show a.m ≠ m0 → ∀ j y, j < k + 1 → ws[j]? = some y → y.m ≠ m0 from fun hne j y hj hy => by
        rcases (show j < k ∨ j = k by omega) with h | rfl
        · exact HN.out j y h hy
        · rw [HA.out] at hy; injection hy with hy; subst hy; exact hne)
      have HT := Lib.hid (show a.m = m0 → r = true from fun hh => HYES1.out a (List.mem_of_getElem? HA.out) hh)
      obtain ⟨dd, hd⟩ : ∃ dd, dd = decide (a.m = m0) := ⟨_, rfl⟩
      have C := Lib.hid (fun W (hb : Below wr.heap.size wr W) => HMM.out W (bmore (bmore HB.out HB2.out (Nat.le_refl _)) hb (Nat.le_refl _)) a.m P q (hrr.below hb))
      rw [← hd, HMC.out] at C
      have HD := Lib.hid hd
      clear HA hd hrr
      obtain ⟨⟨ai, ag, at_, ak, ab⟩, am, af⟩ := a
      unfold mcells at C
      simp only at a0 a1 a2 a3 a4 HF HT HD C
      have HSS := Lib.hid (fun (w' : World) (h : Below wr.heap.size wr w') => show w'.cell? ⟨g0, 1, none⟩ = some (.slice (some ⟨bl, o, none⟩) n c) ∧ w'.cell? ⟨bl, o + k * 7, none⟩ = some (.int .i64 ai) ∧ w'.cell? ⟨bl, o + k * 7 + 1, none⟩ = some (.slice P ag.length q) ∧ w'.cell? ⟨bl, o + k * 7 + 2, none⟩ = some (.int .i64 at_) ∧ w'.cell? ⟨bl, o + k * 7 + 3, none⟩ = some (.string ak) ∧ w'.cell? ⟨bl, o + k * 7 + 4, none⟩ = some (.string ab) ∧ w'.cell? ⟨g1, 0, none⟩ = some (.int .i64 mi) ∧ w'.cell? ⟨g1, 1, none⟩ = some (.slice M mg.length cm) ∧ w'.cell? ⟨g1, 2, none⟩ = some (.int .i64 mt) ∧ w'.cell? ⟨g1, 3, none⟩ = some (.string mk) ∧ w'.cell? ⟨g1, 4, none⟩ = some (.string mb) from
        ⟨(h.cell (cell_block x1)).trans x1, (h.cell (cell_block a0)).trans a0, (h.cell (cell_block a1)).trans a1, (h.cell (cell_block a2)).trans a2, (h.cell (cell_block a3)).trans a3, (h.cell (cell_block a4)).trans a4, (h.cell (cell_block y0)).trans y0, (h.cell (cell_block y1)).trans y1, (h.cell (cell_block y2)).trans y2, (h.cell (cell_block y3)).trans y3, (h.cell (cell_block y4)).trans y4⟩)
      have bb1 : Below wr.heap.size wr wr.drew := (Below.refl _ _).drew
      rcases dd with _ | _
      · have HF2 := Lib.hid (HF.out (of_decide_eq_false HD.out.symm))
        clear HF HT HD
        go_wp2_with fail
        obtain ⟨ud, hud⟩ : ∃ ud, ud = wr.drew := ⟨_, rfl⟩
        refine wp_region_held_drew (S := fun w' => w'.cell? ⟨g0, 1, none⟩ = some (.slice (some ⟨bl, o, none⟩) n c) ∧ w'.cell? ⟨bl, o + k * 7, none⟩ = some (.int .i64 ai) ∧ w'.cell? ⟨bl, o + k * 7 + 1, none⟩ = some (.slice P ag.length q) ∧ w'.cell? ⟨bl, o + k * 7 + 2, none⟩ = some (.int .i64 at_) ∧ w'.cell? ⟨bl, o + k * 7 + 3, none⟩ = some (.string ak) ∧ w'.cell? ⟨bl, o + k * 7 + 4, none⟩ = some (.string ab) ∧ w'.cell? ⟨g1, 0, none⟩ = some (.int .i64 mi) ∧ w'.cell? ⟨g1, 1, none⟩ = some (.slice M mg.length cm) ∧ w'.cell? ⟨g1, 2, none⟩ = some (.int .i64 mt) ∧ w'.cell? ⟨g1, 3, none⟩ = some (.string mk) ∧ w'.cell? ⟨g1, 4, none⟩ = some (.string mb)) (by kernel_rfl) (HSS.out _ bb1) (fun hHeld => ?_)
        rw [← hud] at bb1 hHeld ⊢
        clear hud
        refine qT 0 ?_; try simp only [Act.put, qq]
        refine qT 1 ?_; try simp only [Act.put, qq]
        refine qT 2 ?_; try simp only [Act.put, qq]
        refine qT 3 ?_; try simp only [Act.put, qq]
        refine qT 4 ?_; try simp only [Act.put, qq]
        refine qT 5 ?_; try simp only [Act.put, qq]
        refine qT 6 ?_; try simp only [Act.put, qq]
        refine wpAnyH_ready (rs := [7]) (by kernel_rfl) (by simp) ?_
        refine AllReadyH.cons rfl (fun K hK => ?_) AllReadyH.nil
        go_simp
        refine (C.out _ bb1).mono ?_
        rintro e w3 ⟨rfl, hb⟩
        have bb2 := bmore bb1 hb (Nat.le_refl _)
        clear hb
        refine hK.out _ _ (HSS.out _ bb2) (fun hHeld => ?_)
        clear hK
        try simp only [Act.put, qq]
        refine wpAnyH_done (by kernel_rfl) ?_ _
        clear hHeld HSS
        go_wp2_with fail
        go_roundw
        case rel => exact ⟨k + 1, by omega, by go_num, bmore HB2.out bb2 (Nat.le_refl _), HF2⟩
        case measure => simp [intOf]; omega
      · have HT2 := Lib.hid (HT.out (of_decide_eq_true HD.out.symm))
        clear HF HT HD
        go_wp2_with fail
        obtain ⟨ud, hud⟩ : ∃ ud, ud = wr.drew := ⟨_, rfl⟩
        refine wp_region_held_drew (S := fun w' => w'.cell? ⟨g0, 1, none⟩ = some (.slice (some ⟨bl, o, none⟩) n c) ∧ w'.cell? ⟨bl, o + k * 7, none⟩ = some (.int .i64 ai) ∧ w'.cell? ⟨bl, o + k * 7 + 1, none⟩ = some (.slice P ag.length q) ∧ w'.cell? ⟨bl, o + k * 7 + 2, none⟩ = some (.int .i64 at_) ∧ w'.cell? ⟨bl, o + k * 7 + 3, none⟩ = some (.string ak) ∧ w'.cell? ⟨bl, o + k * 7 + 4, none⟩ = some (.string ab) ∧ w'.cell? ⟨g1, 0, none⟩ = some (.int .i64 mi) ∧ w'.cell? ⟨g1, 1, none⟩ = some (.slice M mg.length cm) ∧ w'.cell? ⟨g1, 2, none⟩ = some (.int .i64 mt) ∧ w'.cell? ⟨g1, 3, none⟩ = some (.string mk) ∧ w'.cell? ⟨g1, 4, none⟩ = some (.string mb)) (by kernel_rfl) (HSS.out _ bb1) (fun hHeld => ?_)
        rw [← hud] at bb1 hHeld ⊢
        clear hud
        refine qT 0 ?_; try simp only [Act.put, qq]
        refine qT 1 ?_; try simp only [Act.put, qq]
        refine qT 2 ?_; try simp only [Act.put, qq]
        refine qT 3 ?_; try simp only [Act.put, qq]
        refine qT 4 ?_; try simp only [Act.put, qq]
        refine qT 5 ?_; try simp only [Act.put, qq]
        refine qT 6 ?_; try simp only [Act.put, qq]
        refine wpAnyH_ready (rs := [7]) (by kernel_rfl) (by simp) ?_
        refine AllReadyH.cons rfl (fun K hK => ?_) AllReadyH.nil
        go_simp
        refine (C.out _ bb1).mono ?_
        rintro e w3 ⟨rfl, hb⟩
        have bb2 := bmore bb1 hb (Nat.le_refl _)
        clear hb
        refine hK.out _ _ (HSS.out _ bb2) (fun hHeld => ?_)
        clear hK
        try simp only [Act.put, qq]
        refine wpAnyH_done (by kernel_rfl) ?_ _
        clear hHeld HSS
        go_wp2_with fail
        go_ret
        exact ⟨by rw [HT2.out]; rfl, bmore HB.out (bmore HB2.out bb2 (Nat.le_refl _)) (Nat.le_refl _)⟩
    · have HN0 := Lib.hid (show ∀ y ∈ ws, y.m ≠ m0 from fun y hy => by
        obtain ⟨j, hj⟩ := List.getElem?_of_mem hy
        exact HN.out j y (by have := (List.getElem?_eq_some_iff.1 hj).1; have := HL.out; omega) hj)
      clear HN
      go_wp2_with fail
      go_loopw [10] (fun i wq => ∃ k : Nat, k ≤ n2 ∧ i = .int .i64 k ∧ Below w1.heap.size w1 wq ∧ Hid (∀ j y, j < k → es[j]? = some y → ¬ (y.x.k = 1 ∧ y.x.m = m0 ∧ gr ∈ m0.gs))) (fun i _ => n2 - (intOf i).toNat)
      case atStart => exact ⟨0, by omega, rfl, HB2.out, Lib.hid fun j y hj => absurd hj (by omega)⟩
      case round =>
        clear HB2 x0 x1 x2 y0 y1 y2 y3 y4
        rename_i wr
        obtain ⟨k, hk, rfl, hB, HN⟩ := hrel
        have HB2 := Lib.hid hB
        obtain ⟨y0, y1, y2, y3, y4⟩ := box_mg (Y.out.below hB Y.out.lt)
        clear hB
        by_cases hlt : k < n2
        · obtain ⟨a, ha⟩ : ∃ a, es[k]? = some a := ⟨_, List.getElem?_eq_getElem (by have := HL2.out; omega)⟩
          have HA := Lib.hid ha
          obtain ⟨bl, o, rfl, _, _, hat, hrr, _⟩ := (HC.out _ (bmore HB.out HB2.out (Nat.le_refl _))).at_ ha
          obtain ⟨a0, a1, a2, a3, a4, a5, a6, a7, a8, a9, a10, a11⟩ := hat
          clear ha a6 a7 a8 a9 a10 a11
          have hk0 : (0 : Int) ≤ (k : Int) := by omega
          have hkn : (k : Int) < (n2 : Int) := by omega
          have HF := Lib.hid (show ¬ (a.x.k = 1 ∧ a.x.m = m0 ∧ gr ∈ m0.gs) → ∀ j y, j < k + 1 → es[j]? = some y → ¬ (y.x.k = 1 ∧ y.x.m = m0 ∧ gr ∈ m0.gs) from fun hne j y hj hy => by
            rcases (show j < k ∨ j = k by omega) with h | rfl
            · exact HN.out j y h hy
            · rw [HA.out] at hy; injection hy with hy; subst hy; exact hne)
          have HT := Lib.hid (show a.x.k = 1 → a.x.m = m0 → gr ∈ m0.gs → r = true from fun h1 h2 h3 => HYES2.out a (List.mem_of_getElem? HA.out) h1 h2 h3)
          obtain ⟨dd, hd⟩ : ∃ dd, dd = decide (a.x.m = m0) := ⟨_, rfl⟩
          have C := Lib.hid (fun W (hb : Below wr.heap.size wr W) => HMM.out W (bmore (bmore HB.out HB2.out (Nat.le_refl _)) hb (Nat.le_refl _)) a.x.m a.A a.c (hrr.below hb))
          rw [← hd, HMC.out] at C
          have HD := Lib.hid hd
          clear HA hd hrr
          obtain ⟨P, q, Q, u, ⟨bk, ⟨ai, ag, at_, ak, ab⟩, bid, btm, bms, btp, bwh, bn⟩⟩ := a
          unfold mcells at C
          simp only at a0 a1 a2 a3 a4 a5 HF HT HD C
          by_cases hk1 : bk = 1
          rotate_left
          · have HF2 := Lib.hid (HF.out (fun h => hk1 h.1))
            have e0 : (bk != 1) = true := by simpa using hk1
            clear HF HT HD hk1
            have HSS := Lib.hid (fun (w' : World) (h : Below wr.heap.size wr w') => show w'.cell? ⟨bl, o + k * 12, none⟩ = some (.int .u8 bk) ∧ w'.cell? ⟨bl, o + k * 12 + 1, none⟩ = some (.int .i64 ai) ∧ w'.cell? ⟨bl, o + k * 12 + 2, none⟩ = some (.slice P ag.length q) ∧ w'.cell? ⟨bl, o + k * 12 + 3, none⟩ = some (.int .i64 at_) ∧ w'.cell? ⟨bl, o + k * 12 + 4, none⟩ = some (.string ak) ∧ w'.cell? ⟨bl, o + k * 12 + 5, none⟩ = some (.string ab) ∧ w'.cell? ⟨g1, 0, none⟩ = some (.int .i64 mi) ∧ w'.cell? ⟨g1, 1, none⟩ = some (.slice M mg.length cm) ∧ w'.cell? ⟨g1, 2, none⟩ = some (.int .i64 mt) ∧ w'.cell? ⟨g1, 3, none⟩ = some (.string mk) ∧ w'.cell? ⟨g1, 4, none⟩ = some (.string mb) from
              ⟨(h.cell (cell_block a0)).trans a0, (h.cell (cell_block a1)).trans a1, (h.cell (cell_block a2)).trans a2, (h.cell (cell_block a3)).trans a3, (h.cell (cell_block a4)).trans a4, (h.cell (cell_block a5)).trans a5, (h.cell (cell_block y0)).trans y0, (h.cell (cell_block y1)).trans y1, (h.cell (cell_block y2)).trans y2, (h.cell (cell_block y3)).trans y3, (h.cell (cell_block y4)).trans y4⟩)
            have bb1 : Below wr.heap.size wr wr.drew := (Below.refl _ _).drew
            go_wp2_with fail
            obtain ⟨ud, hud⟩ : ∃ ud, ud = wr.drew := ⟨_, rfl⟩
            refine wp_region_held_drew (S := fun w' => w'.cell? ⟨bl, o + k * 12, none⟩ = some (.int .u8 bk) ∧ w'.cell? ⟨bl, o + k * 12 + 1, none⟩ = some (.int .i64 ai) ∧ w'.cell? ⟨bl, o + k * 12 + 2, none⟩ = some (.slice P ag.length q) ∧ w'.cell? ⟨bl, o + k * 12 + 3, none⟩ = some (.int .i64 at_) ∧ w'.cell? ⟨bl, o + k * 12 + 4, none⟩ = some (.string ak) ∧ w'.cell? ⟨bl, o + k * 12 + 5, none⟩ = some (.string ab) ∧ w'.cell? ⟨g1, 0, none⟩ = some (.int .i64 mi) ∧ w'.cell? ⟨g1, 1, none⟩ = some (.slice M mg.length cm) ∧ w'.cell? ⟨g1, 2, none⟩ = some (.int .i64 mt) ∧ w'.cell? ⟨g1, 3, none⟩ = some (.string mk) ∧ w'.cell? ⟨g1, 4, none⟩ = some (.string mb)) (by kernel_rfl) (HSS.out _ bb1) (fun hHeld => ?_)
            rw [← hud] at bb1 hHeld ⊢
            clear hud
            refine qT 0 ?_; try simp only [Act.put, qq]
            refine qT 1 ?_; try simp only [Act.put, qq]
            refine qT 2 ?_; try simp only [Act.put, qq]
            refine qT 3 ?_; try simp only [Act.put, qq]
            refine qT 4 ?_; try simp only [Act.put, qq]
            refine qT 5 ?_; try simp only [Act.put, qq]
            refine qT 6 ?_; try simp only [Act.put, qq]
            refine qS 7 ?_; try simp only [Act.put, qq]
            refine qS 8 ?_; try simp only [Act.put, qq]
            refine qS 9 ?_; try simp only [Act.put, qq]
            refine qS 10 ?_; try simp only [Act.put, qq]
            refine qS 11 ?_; try simp only [Act.put, qq]
            refine qS 12 ?_; try simp only [Act.put, qq]
            refine qS 13 ?_; try simp only [Act.put, qq]
            refine qS 14 ?_; try simp only [Act.put, qq]
            refine qT 15 ?_; try simp only [Act.put, qq]
            refine wpAnyH_done (by kernel_rfl) ?_ _
            clear hHeld HSS
            go_wp2_with fail
            go_roundw
            case rel => exact ⟨k + 1, by omega, by go_num, bmore HB2.out bb1 (Nat.le_refl _), HF2⟩
            case measure => simp [intOf]; omega
          subst hk1
          rcases dd with _ | _
          · have HF2 := Lib.hid (HF.out (fun h => of_decide_eq_false HD.out.symm h.2.1))
            clear HF HT HD
            have HSS := Lib.hid (fun (w' : World) (h : Below wr.heap.size wr w') => show w'.cell? ⟨bl, o + k * 12, none⟩ = some (.int .u8 1) ∧ w'.cell? ⟨bl, o + k * 12 + 1, none⟩ = some (.int .i64 ai) ∧ w'.cell? ⟨bl, o + k * 12 + 2, none⟩ = some (.slice P ag.length q) ∧ w'.cell? ⟨bl, o + k * 12 + 3, none⟩ = some (.int .i64 at_) ∧ w'.cell? ⟨bl, o + k * 12 + 4, none⟩ = some (.string ak) ∧ w'.cell? ⟨bl, o + k * 12 + 5, none⟩ = some (.string ab) ∧ w'.cell? ⟨g1, 0, none⟩ = some (.int .i64 mi) ∧ w'.cell? ⟨g1, 1, none⟩ = some (.slice M mg.length cm) ∧ w'.cell? ⟨g1, 2, none⟩ = some (.int .i64 mt) ∧ w'.cell? ⟨g1, 3, none⟩ = some (.string mk) ∧ w'.cell? ⟨g1, 4, none⟩ = some (.string mb) from
              ⟨(h.cell (cell_block a0)).trans a0, (h.cell (cell_block a1)).trans a1, (h.cell (cell_block a2)).trans a2, (h.cell (cell_block a3)).trans a3, (h.cell (cell_block a4)).trans a4, (h.cell (cell_block a5)).trans a5, (h.cell (cell_block y0)).trans y0, (h.cell (cell_block y1)).trans y1, (h.cell (cell_block y2)).trans y2, (h.cell (cell_block y3)).trans y3, (h.cell (cell_block y4)).trans y4⟩)
            have bb1 : Below wr.heap.size wr wr.drew := (Below.refl _ _).drew
            go_wp2_with fail
            obtain ⟨ud, hud⟩ : ∃ ud, ud = wr.drew := ⟨_, rfl⟩
            refine wp_region_held_drew (S := fun w' => w'.cell? ⟨bl, o + k * 12, none⟩ = some (.int .u8 1) ∧ w'.cell? ⟨bl, o + k * 12 + 1, none⟩ = some (.int .i64 ai) ∧ w'.cell? ⟨bl, o + k * 12 + 2, none⟩ = some (.slice P ag.length q) ∧ w'.cell? ⟨bl, o + k * 12 + 3, none⟩ = some (.int .i64 at_) ∧ w'.cell? ⟨bl, o + k * 12 + 4, none⟩ = some (.string ak) ∧ w'.cell? ⟨bl, o + k * 12 + 5, none⟩ = some (.string ab) ∧ w'.cell? ⟨g1, 0, none⟩ = some (.int .i64 mi) ∧ w'.cell? ⟨g1, 1, none⟩ = some (.slice M mg.length cm) ∧ w'.cell? ⟨g1, 2, none⟩ = some (.int .i64 mt) ∧ w'.cell? ⟨g1, 3, none⟩ = some (.string mk) ∧ w'.cell? ⟨g1, 4, none⟩ = some (.string mb)) (by kernel_rfl) (HSS.out _ bb1) (fun hHeld => ?_)
            rw [← hud] at bb1 hHeld ⊢
            clear hud
            refine qT 0 ?_; try simp only [Act.put, qq]
            refine qT 1 ?_; try simp only [Act.put, qq]
            refine qT 2 ?_; try simp only [Act.put, qq]
            refine qT 3 ?_; try simp only [Act.put, qq]
            refine qT 4 ?_; try simp only [Act.put, qq]
            refine qT 5 ?_; try simp only [Act.put, qq]
            refine qT 6 ?_; try simp only [Act.put, qq]
            refine qT 7 ?_; try simp only [Act.put, qq]
            refine qT 8 ?_; try simp only [Act.put, qq]
            refine qT 9 ?_; try simp only [Act.put, qq]
            refine qT 10 ?_; try simp only [Act.put, qq]
            refine qT 11 ?_; try simp only [Act.put, qq]
            refine qT 12 ?_; try simp only [Act.put, qq]
            refine wpAnyH_ready (rs := [13]) (by kernel_rfl) (by simp) ?_
            refine AllReadyH.cons rfl (fun K hK => ?_) AllReadyH.nil
            go_simp
            refine (C.out _ bb1).mono ?_
            rintro e w3 ⟨rfl, hb⟩
            have bb2 := bmore bb1 hb (Nat.le_refl _)
            clear hb
            refine hK.out _ _ (HSS.out _ bb2) (fun hHeld => ?_)
            clear hK
            try simp only [Act.put, qq]
            refine qT 14 ?_; try simp only [Act.put, qq]
            refine qT 15 ?_; try simp only [Act.put, qq]
            refine wpAnyH_done (by kernel_rfl) ?_ _
            clear hHeld HSS
            go_wp2_with fail
            go_roundw
            case rel => exact ⟨k + 1, by omega, by go_num, bmore HB2.out bb2 (Nat.le_refl _), HF2⟩
            case measure => simp [intOf]; omega
          · have HDT := Lib.hid (of_decide_eq_true HD.out.symm)
            clear HD
            have HSS := Lib.hid (fun (w' : World) (h : Below wr.heap.size wr w') => show w'.cell? ⟨bl, o + k * 12, none⟩ = some (.int .u8 1) ∧ w'.cell? ⟨bl, o + k * 12 + 1, none⟩ = some (.int .i64 ai) ∧ w'.cell? ⟨bl, o + k * 12 + 2, none⟩ = some (.slice P ag.length q) ∧ w'.cell? ⟨bl, o + k * 12 + 3, none⟩ = some (.int .i64 at_) ∧ w'.cell? ⟨bl, o + k * 12 + 4, none⟩ = some (.string ak) ∧ w'.cell? ⟨bl, o + k * 12 + 5, none⟩ = some (.string ab) ∧ w'.cell? ⟨g1, 0, none⟩ = some (.int .i64 mi) ∧ w'.cell? ⟨g1, 1, none⟩ = some (.slice M mg.length cm) ∧ w'.cell? ⟨g1, 2, none⟩ = some (.int .i64 mt) ∧ w'.cell? ⟨g1, 3, none⟩ = some (.string mk) ∧ w'.cell? ⟨g1, 4, none⟩ = some (.string mb) from
              ⟨(h.cell (cell_block a0)).trans a0, (h.cell (cell_block a1)).trans a1, (h.cell (cell_block a2)).trans a2, (h.cell (cell_block a3)).trans a3, (h.cell (cell_block a4)).trans a4, (h.cell (cell_block a5)).trans a5, (h.cell (cell_block y0)).trans y0, (h.cell (cell_block y1)).trans y1, (h.cell (cell_block y2)).trans y2, (h.cell (cell_block y3)).trans y3, (h.cell (cell_block y4)).trans y4⟩)
            have bb1 : Below wr.heap.size wr wr.drew := (Below.refl _ _).drew
            go_wp2_with fail
            obtain ⟨ud, hud⟩ : ∃ ud, ud = wr.drew := ⟨_, rfl⟩
            refine wp_region_held_drew (S := fun w' => w'.cell? ⟨bl, o + k * 12, none⟩ = some (.int .u8 1) ∧ w'.cell? ⟨bl, o + k * 12 + 1, none⟩ = some (.int .i64 ai) ∧ w'.cell? ⟨bl, o + k * 12 + 2, none⟩ = some (.slice P ag.length q) ∧ w'.cell? ⟨bl, o + k * 12 + 3, none⟩ = some (.int .i64 at_) ∧ w'.cell? ⟨bl, o + k * 12 + 4, none⟩ = some (.string ak) ∧ w'.cell? ⟨bl, o + k * 12 + 5, none⟩ = some (.string ab) ∧ w'.cell? ⟨g1, 0, none⟩ = some (.int .i64 mi) ∧ w'.cell? ⟨g1, 1, none⟩ = some (.slice M mg.length cm) ∧ w'.cell? ⟨g1, 2, none⟩ = some (.int .i64 mt) ∧ w'.cell? ⟨g1, 3, none⟩ = some (.string mk) ∧ w'.cell? ⟨g1, 4, none⟩ = some (.string mb)) (by kernel_rfl) (HSS.out _ bb1) (fun hHeld => ?_)
            rw [← hud] at bb1 hHeld ⊢
            clear hud
            refine qT 0 ?_; try simp only [Act.put, qq]
            refine qT 1 ?_; try simp only [Act.put, qq]
            refine qT 2 ?_; try simp only [Act.put, qq]
            refine qT 3 ?_; try simp only [Act.put, qq]
            refine qT 4 ?_; try simp only [Act.put, qq]
            refine qT 5 ?_; try simp only [Act.put, qq]
            refine qT 6 ?_; try simp only [Act.put, qq]
            refine qT 7 ?_; try simp only [Act.put, qq]
            refine qT 8 ?_; try simp only [Act.put, qq]
            refine qT 9 ?_; try simp only [Act.put, qq]
            refine qT 10 ?_; try simp only [Act.put, qq]
            refine qT 11 ?_; try simp only [Act.put, qq]
            refine qT 12 ?_; try simp only [Act.put, qq]
            refine wpAnyH_ready (rs := [13]) (by kernel_rfl) (by simp) ?_
            refine AllReadyH.cons rfl (fun K hK => ?_) AllReadyH.nil
            go_simp
            refine (C.out _ bb1).mono ?_
            rintro e w3 ⟨rfl, hb⟩
            have bb2 := bmore bb1 hb (Nat.le_refl _)
            clear hb
            refine hK.out _ _ (HSS.out _ bb2) (fun hHeld => ?_)
            clear hK
            try simp only [Act.put, qq]
            refine qT 14 ?_; try simp only [Act.put, qq]
            refine qT 15 ?_; try simp only [Act.put, qq]
            refine wpAnyH_done (by kernel_rfl) ?_ _
            clear hHeld HSS
            clear a0 a1 a2 a3 a4 a5 y0 y1 y2 y3 y4 C
            replace HB2 := Lib.hid (bmore HB2.out bb2 (Nat.le_refl _))
            clear bb1 bb2
            go_wp2_with fail
            go_loopw [11] (fun i wq => ∃ j : Nat, j ≤ mg.length ∧ i = .int .i64 j ∧ Below w1.heap.size w1 wq ∧ Hid (∀ t u, t < j → mg[t]? = some u → u ≠ gr)) (fun i _ => mg.length - (intOf i).toNat)
            case atStart => exact ⟨0, by omega, rfl, HB2.out, Lib.hid fun j y hj => absurd hj (by omega)⟩
            case round =>
              clear HB2
              rename_i wz
              obtain ⟨j, hj, rfl, hB, HG⟩ := hrel
              have HB2 := Lib.hid hB
              obtain ⟨y0, y1, y2, y3, y4⟩ := box_mg (Y.out.below hB Y.out.lt)
              clear hB
              by_cases hjl : j < mg.length
              · obtain ⟨ad, u, rfl, _, hu, hcell⟩ := (HMR.out _ (bmore HB.out HB2.out (Nat.le_refl _))).1.at_ hjl
                rw [ic_get mg j hjl] at hu
                injection hu with hu
                subst hu
                have HGJ := Lib.hid (show mg[j]? = some mg[j] from List.getElem?_eq_getElem hjl)
                generalize mg[j] = z at hcell HGJ
                have hj0 : (0 : Int) ≤ (j : Int) := by omega
                have hjn : (j : Int) < (mg.length : Int) := by omega
                by_cases hz : z = gr
                · have e3 : (z == gr) = true := by simpa using hz
                  have HT2 := Lib.hid (HT.out (by first | rfl | trivial) HDT.out (HM0.out (by rw [← hz]; exact List.mem_of_getElem? HGJ.out)))
                  clear hz
                  go_wp2_with fail
                  go_ret
                  exact ⟨by rw [HT2.out]; rfl, bmore HB.out HB2.out (Nat.le_refl _)⟩
                · have e3 : (z == gr) = false := by simpa using hz
                  have HG2 := Lib.hid (show ∀ t u, t < j + 1 → mg[t]? = some u → u ≠ gr from fun t u ht hu => by
                    rcases (show t < j ∨ t = j by omega) with h | rfl
                    · exact HG.out t u h hu
                    · rw [HGJ.out] at hu; injection hu with hu; subst hu; exact hz)
                  clear hz
                  go_wp2_with fail
                  go_roundw
                  case rel => exact ⟨j + 1, by omega, by go_num, HB2.out, HG2⟩
                  case measure => simp [intOf]; omega
              · have HF2 := Lib.hid (HF.out (fun h => by
                  obtain ⟨t, ht⟩ := List.getElem?_of_mem (HM1.out h.2.2)
                  exact HG.out t gr (by have := (List.getElem?_eq_some_iff.1 ht).1; omega) ht rfl))
                go_wp2_with fail
                go_roundw
                case rel => exact ⟨k + 1, by omega, by go_num, HB2.out, HF2⟩
                case measure => simp [intOf]; omega
        · have HF := Lib.hid (HNO.out HN0.out (fun e he hh => by
            obtain ⟨j, hj⟩ := List.getElem?_of_mem he
            exact HN.out j e (by have := (List.getElem?_eq_some_iff.1 hj).1; have := HL2.out; omega) hj hh))
          go_wp2_with fail
          go_ret
          exact ⟨by rw [HF.out]; rfl, bmore HB.out HB2.out (Nat.le_refl _)⟩
end Go.Proofs.Ytnpgjcapekopnaa.KP
