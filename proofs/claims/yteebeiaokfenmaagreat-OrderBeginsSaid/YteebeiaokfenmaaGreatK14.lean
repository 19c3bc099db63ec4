/-
  Package skeen: isTwice, over the library's own contracts of slices.Sort and slices.Compact. Conditions: few of each.
  Package skeen: isDue, isBehind. Conditions: a clock that reads as one.
  Package skeen: Check. Conditions: a clock that reads as one.
-/
import Derived.Test.YteebeiaokfenmaaGreatK01
import Derived.Test.YteebeiaokfenmaaGreatK03
import Derived.Lib.OwnBridge
import Derived.Test.YteebeiaokfenmaaGreatK04
import Derived.Test.YteebeiaokfenmaaGreatK02
import Derived.Test.YteebeiaokfenmaaGreatK13
namespace Go.Proofs.YteebeiaokfenmaaGreat.KP
open Go.RowKit CP TP
open CM (Mg Cm)
open TM (Sp)
open KM (Wt Sk)
set_option linter.unusedVariables false
set_option linter.unusedSimpArgs false
set_option maxRecDepth 100000
open Go.Shelf
theorem below_grow (w : World) (os : Array Obj) : Below w.heap.size w (Sort.grow w os) :=
  ⟨rfl, rfl, rfl, by simp [Sort.grow], fun k hk => by simp [Sort.grow, Array.getElem?_append_left hk]⟩
/-- the row holds the same, sorted -/
theorem psort_any (base g n cap : Nat) (zs : List Int) (w : World) (h : w.ownsRow base 3 1 (.slice (some ⟨g, 0, none⟩) n cap) n (ic zs)) (hn : n ≤ 2000) (hB : base ≤ w.heap.size) :
    Calls Tryz.prog 149 #[.slice (some ⟨g, 0, none⟩) n cap] w fun e w' => e = .returned (.tuple #[]) ∧ w'.ownsRow base 3 1 (.slice (some ⟨g, 0, none⟩) n cap) n (ic (zs.mergeSort fun x y => decide (x ≤ y))) ∧ Below base w w' := by
  obtain ⟨g', cap', e, hbg, hgl, hnc, hcm, hlen, hH⟩ := Lib.holds_of_ownsRow (enc := Value.int .i64) (zs := zs) h (by intro e; cases e)
  injection e with e1 _ e3
  injection e1 with e1
  injection e1 with e1
  subst e1 e3
  have hc := Any.slices_Sort_int laySort g 0 cap zs w hH hgl (by omega)
  rw [hlen] at hc
  refine hc.mono ?_
  rintro e w' ⟨rfl, q, os, rfl⟩
  have h1 := Lib.ownsRow_putRow (q := q) (k := n) (ys := zs.mergeSort fun x y => decide (x ≤ y)) h (by rw [List.length_mergeSort]; exact hlen) (Nat.le_refl _)
  rw [List.take_of_length_le (by rw [List.length_mergeSort]; omega)] at h1
  refine ⟨rfl, own_below3 h1 (below_grow _ _), ?_⟩
  have h2 : Below base w (Sort.putRow (Value.int .i64) (Sort.ahead w q) g 0 (zs.mergeSort fun x y => decide (x ≤ y)).toArray) := Lib.below_putRow (Below.refl _ _) hbg
  exact h2.trans ((below_grow _ os).mono (Nat.le_trans hB h2.size))
/-- how many are left of it, each one once -/
theorem pcompact_any (base g n cap : Nat) (zs : List Int) (w : World) (h : w.ownsRow base 3 1 (.slice (some ⟨g, 0, none⟩) n cap) n (ic zs)) (hn : n ≤ 2000) :
    Calls Tryz.prog 150 #[.slice (some ⟨g, 0, none⟩) n cap] w fun e w' => e = .returned (.slice (some ⟨g, 0, none⟩) (Lib.compact zs).length cap) ∧ Below base w w' := by
  obtain ⟨g', cap', e, hbg, hgl, hnc, hcm, hlen, hH⟩ := Lib.holds_of_ownsRow (enc := Value.int .i64) (zs := zs) h (by intro e; cases e)
  injection e with e1 _ e3
  injection e1 with e1
  injection e1 with e1
  subst e1 e3
  have hc := Any.slices_Compact_int layCompact g 0 cap zs w hH (by omega) (by omega)
  rw [hlen] at hc
  refine hc.mono ?_
  rintro e w' ⟨rfl, q, rfl⟩
  exact ⟨rfl, Lib.below_putRow (Below.refl _ _) hbg⟩
theorem ids_ws {s : Sk} {k : Nat} {x : Wt} (h : s.ws[k]? = some x) : (KM.ids s).take (k + 1) = (KM.ids s).take k ++ [x.m.id] := by
  have hk := (List.getElem?_eq_some_iff.1 h).1
  rw [List.take_add_one]
  congr 1
  unfold KM.ids
  rw [List.getElem?_append_left (by rw [List.length_map]; exact hk), List.getElem?_map, h]
  rfl
theorem ids_ds {s : Sk} {k : Nat} {x : Sp} (h : s.ds[k]? = some x) : (KM.ids s).take (s.ws.length + k + 1) = (KM.ids s).take (s.ws.length + k) ++ [x.i] := by
  rw [List.take_add_one]
  congr 1
  unfold KM.ids
  rw [List.getElem?_append_right (by rw [List.length_map]; omega), List.length_map, Nat.add_sub_cancel_left, List.getElem?_map, h]
  rfl
theorem ids_len (s : Sk) : (KM.ids s).length = s.ws.length + s.ds.length := by unfold KM.ids; rw [List.length_append, List.length_map, List.length_map]
set_option maxHeartbeats 16000000 in
theorem isTwice_any (v : Value) (s : Sk) (w : World) (h : SkIs w v s) (hf1 : s.ws.length ≤ 200) (hf2 : s.ds.length ≤ 200) : Calls Tryz.prog 131 #[v] w (IsB (decide (¬ (KM.ids s).Nodup)) w) := by
  obtain ⟨i0, hi, hz0, hz1, hz2⟩ := info_parts info_int15
  obtain ⟨A, ca, B, cb, rfl, r1, d1⟩ := h
  obtain ⟨b, hb⟩ : ∃ b, b = decide (¬ (KM.ids s).Nodup) := ⟨_, rfl⟩
  have HRB := Lib.hid (show decide ((Lib.compact ((KM.ids s).mergeSort fun x y => decide (x ≤ y))).length < (KM.ids s).length) = b by rw [hb]; exact decide_eq_decide.2 (KM.twice_iff _))
  rw [← hb]
  clear hb
  have HI1 := Lib.hid (fun k x => ids_ws (s := s) (k := k) (x := x))
  have HI2 := Lib.hid (fun k x => ids_ds (s := s) (k := k) (x := x))
  have HIL := Lib.hid (ids_len s)
  obtain ⟨L, hL⟩ : ∃ L, L = KM.ids s := ⟨_, rfl⟩
  rw [← hL] at HRB HI1 HI2 HIL
  clear hL
  obtain ⟨sc, ws, ds⟩ := s
  simp only at r1 d1 HI1 HI2 HIL hf1 hf2
  obtain ⟨n, hna⟩ : ∃ n, n = ws.length := ⟨_, rfl⟩
  obtain ⟨m, hmb⟩ : ∃ m, m = ds.length := ⟨_, rfl⟩
  unfold vsk
  simp only
  rw [← hna] at r1 HI2 HIL hf1 ⊢
  rw [← hmb] at d1 HIL hf2 ⊢
  have HLA := Lib.hid hna
  have HLB := Lib.hid hmb
  have H := Lib.hid (fun W (hb : Below w.heap.size w W) => r1.below hb)
  have HD := Lib.hid (fun W (hb : Below w.heap.size w W) => d1.below hb)
  clear hna hmb r1 d1
  have HB := Lib.hid (show Below w.heap.size w (w.alloc (.cells #[.int .i64 sc, .slice A n ca, .slice B m cb] 39)) from (Below.refl _ _).alloc (Nat.le_refl _) _)
  have X := Lib.hid (Box.new w 39 #[.int .i64 sc, .slice A n ca, .slice B m cb])
  go_enter Tryz.func131, Tryz.ntmps131
  go_upto_region 1 with (fail)
  generalize w.alloc (.cells #[.int .i64 sc, .slice A n ca, .slice B m cb] 39) = w1 at HB X ⊢
  generalize w.heap.size = g0 at X ⊢
  obtain ⟨base, hbase⟩ : ∃ base, base = w1.heap.size := ⟨_, rfl⟩
  have HBS := Lib.hid hbase
  clear hbase
  go_upto_region 2 with (at_make; refine wpList_make_own _ rfl _ _ 31 rfl base 3 i0 _ 1 Tryz.underlying31 hi hz0 hz1 .i64 .i64 _ 400 rfl rfl rfl (by rw [hz2]; omega) (by unfold maxLen; omega) (by have := HBS.out; omega) ?_; intro w2 hown2 hg2; have HB2 := Lib.hid (show Below base w1 w2 by have h1 := below_of_grown hg2 (by simp); have h2 := HBS.out; rw [h2]; exact h1); have HO2 := Lib.hid hown2; clear hown2 hg2)
  obtain ⟨x0, x1, x2⟩ := box_sk (X.out.below (B := base) HB2.out (by have := HBS.out; have := X.out.lt; omega))
  go_wp2_with fail
  clear x0 x1 x2
  generalize w1.heap.size = q0 at HO2 ⊢
  go_loopw [3, 12] (fun u i wr => ∃ (k g cap : Nat), k ≤ n ∧ i = .int .i64 k ∧ u = .slice (some ⟨g, 0, none⟩) k cap ∧ Hid (Below base w1 wr) ∧ Hid (wr.ownsRow base 3 1 (.slice (some ⟨g, 0, none⟩) k cap) k (ic (L.take k)))) (fun _ i _ => n - (intOf i).toNat)
  case atStart => exact ⟨0, q0, 400, by omega, rfl, rfl, HB2, by simpa [ic] using HO2⟩
  case round =>
    clear HO2 HB2
    obtain ⟨k, g, cap, hk, rfl, rfl, HW, HO⟩ := hrel
    have HWB := Lib.hid (show Below w.heap.size w wr from bmore HB.out (by have := HBS.out; rw [← this]; exact HW.out) (Nat.le_refl _))
    have HXW := Lib.hid (X.out.below (B := base) HW.out (by have := HBS.out; have := X.out.lt; omega))
    have HSZ := Lib.hid (show base ≤ wr.heap.size by have h1 := HW.out.size; have h2 := HBS.out; omega)
    by_cases hlt : k < n
    · obtain ⟨x, hx⟩ : ∃ x, ws[k]? = some x := ⟨_, List.getElem?_eq_getElem (by have := HLA.out; omega)⟩
      have HT := Lib.hid (HI1.out k x hx)
      obtain ⟨bl, o, Q, q, rfl, _, hbl, hat, _⟩ := wts_at (H.out _ HWB.out) hx
      obtain ⟨a0, a1, a2, a3, a4, a5, a6⟩ := hat
      obtain ⟨x0, x1, x2⟩ := box_sk HXW.out
      have hk0 : (0 : Int) ≤ (k : Int) := by omega
      have hkn : (k : Int) < (n : Int) := by omega
      clear hx hbl
      obtain ⟨⟨yi, yg, yt, yk, yb⟩, ym, yf⟩ := x
      simp only at a0 a1 a2 a3 a4 a5 a6 HT
      go_upto_region 5 with (fail)
      have bb0 : Below wr.heap.size wr (wr.alloc (.cells #[.int .i64 yi, .slice Q yg.length q, .int .i64 yt, .string yk, .string yb, .int .i64 ym, .bool yf] 78)) := (Below.refl _ _).alloc (Nat.le_refl _) _
      have HBB := Lib.hid (HW.out.trans (bb0.mono HSZ.out))
      have HY0 := Lib.hid (Box.new wr 78 #[.int .i64 yi, .slice Q yg.length q, .int .i64 yt, .string yk, .string yb, .int .i64 ym, .bool yf])
      have HO3 := Lib.hid (own_below3 HO.out bb0)
      have HZ3 := Lib.hid (Nat.le_trans HSZ.out bb0.size)
      clear bb0 a0 a1 a2 a3 a4 a5 a6 x0 x1 x2
      generalize wr.alloc (.cells #[.int .i64 yi, .slice Q yg.length q, .int .i64 yt, .string yk, .string yb, .int .i64 ym, .bool yf] 78) = w3 at HBB HY0 HO3 HZ3 ⊢
      generalize wr.heap.size = g4 at HY0 ⊢
      obtain ⟨a0, a1, a2, a3, a4, a5, a6⟩ := box_wt HY0.out
      have HO4 := Lib.hid (own_below3 HO3.out (show Below w3.heap.size w3 (w3.alloc (.cells #[.int .i64 yi] 3)) from (Below.refl _ _).alloc (Nat.le_refl _) _))
      have HR4 := Lib.hid (rdG_box (s := 1) (n := 1) (Box.new w3 3 #[.int .i64 yi]) rfl rfl)
      have HB4 := Lib.hid (HBB.out.trans (show Below base w3 (w3.alloc (.cells #[.int .i64 yi] 3)) from (Below.refl _ _).alloc HZ3.out _))
      have HZ4 := Lib.hid (show base ≤ (w3.alloc (.cells #[.int .i64 yi] 3)).heap.size by have := HZ3.out; simp; omega)
      have hk200 : k ≤ 400 := by omega
      go_upto_region 6 with (at_builtin; refine wpList_append_g _ rfl _ _ 31 rfl base 3 i0 _ 1 8 Tryz.underlying31 hi hz0 hz1 hz2 rfl (by omega) (.slice (some ⟨g, 0, none⟩) (k) cap) _ _ rfl HO4.out (some ⟨w3.heap.size, 0, none⟩) 1 1 [.int .i64 yi] rfl HR4.out (by intro u hu; simp at hu; subst hu; rfl) (by unfold maxLen; omega) (by omega) HZ4.out ?_; intro v2 w6 hown hgr hob; obtain ⟨A7, c7, rfl, _, _⟩ := own_form hown; obtain ⟨q7, hA7, _, _⟩ := own_some hown (by omega); subst hA7; have HB6 := Lib.hid (below_row HB4.out HO4.out HZ4.out hgr); have HO6 := Lib.hid hown; clear hown hgr hob)
      clear HO4 HR4 HB4 HZ4 HO3 HBB
      go_wp2_with fail
      go_roundw
      case rel => exact ⟨k + 1, q7, c7, by omega, by go_num, rfl, HB6, Lib.hid (by rw [HT.out, ic_append]; exact HO6.out)⟩
      case measure => simp [intOf]; omega
    · have hkn : k = n := by omega
      subst hkn
      obtain ⟨x0, x1, x2⟩ := box_sk HXW.out
      go_wp2_with fail
      clear x0 x1 x2
      go_loopw [3, 26] (fun u i wr => ∃ (j g cap : Nat), j ≤ m ∧ i = .int .i64 j ∧ u = .slice (some ⟨g, 0, none⟩) (k + j) cap ∧ Hid (Below base w1 wr) ∧ Hid (wr.ownsRow base 3 1 (.slice (some ⟨g, 0, none⟩) (k + j) cap) (k + j) (ic (L.take (k + j))))) (fun _ i _ => m - (intOf i).toNat)
      case atStart => exact ⟨0, g, cap, by omega, rfl, rfl, HW, HO⟩
      case round =>
        clear HO HW HWB HXW HSZ
        obtain ⟨j, g, cap, hj, rfl, rfl, HW, HO⟩ := hrel
        have HWB := Lib.hid (show Below w.heap.size w wr from bmore HB.out (by have := HBS.out; rw [← this]; exact HW.out) (Nat.le_refl _))
        have HXW := Lib.hid (X.out.below (B := base) HW.out (by have := HBS.out; have := X.out.lt; omega))
        have HSZ := Lib.hid (show base ≤ wr.heap.size by have h1 := HW.out.size; have h2 := HBS.out; omega)
        by_cases hlt2 : j < m
        · obtain ⟨x, hx⟩ : ∃ x, ds[j]? = some x := ⟨_, List.getElem?_eq_getElem (by have := HLB.out; omega)⟩
          have HT := Lib.hid (HI2.out j x hx)
          obtain ⟨bl, o, rfl, _, hbl, a0, a1⟩ := (HD.out _ HWB.out).at_ hx
          obtain ⟨x0, x1, x2⟩ := box_sk HXW.out
          have hk0 : (0 : Int) ≤ (j : Int) := by omega
          have hkn : (j : Int) < (m : Int) := by omega
          clear hx hbl
          obtain ⟨xt, xi⟩ := x
          simp only at a0 a1 HT
          go_upto_region 10 with (fail)
          have bb0 : Below wr.heap.size wr (wr.alloc (.cells #[.int .i64 xt, .int .i64 xi] 46)) := (Below.refl _ _).alloc (Nat.le_refl _) _
          have HBB := Lib.hid (HW.out.trans (bb0.mono HSZ.out))
          have HY0 := Lib.hid (Box.new wr 46 #[.int .i64 xt, .int .i64 xi])
          have HO3 := Lib.hid (own_below3 HO.out bb0)
          have HZ3 := Lib.hid (Nat.le_trans HSZ.out bb0.size)
          clear bb0 a0 a1 x0 x1 x2
          generalize wr.alloc (.cells #[.int .i64 xt, .int .i64 xi] 46) = w3 at HBB HY0 HO3 HZ3 ⊢
          generalize wr.heap.size = g4 at HY0 ⊢
          obtain ⟨a0, a1⟩ := box_two HY0.out
          have HO4 := Lib.hid (own_below3 HO3.out (show Below w3.heap.size w3 (w3.alloc (.cells #[.int .i64 xi] 3)) from (Below.refl _ _).alloc (Nat.le_refl _) _))
          have HR4 := Lib.hid (rdG_box (s := 1) (n := 1) (Box.new w3 3 #[.int .i64 xi]) rfl rfl)
          have HB4 := Lib.hid (HBB.out.trans (show Below base w3 (w3.alloc (.cells #[.int .i64 xi] 3)) from (Below.refl _ _).alloc HZ3.out _))
          have HZ4 := Lib.hid (show base ≤ (w3.alloc (.cells #[.int .i64 xi] 3)).heap.size by have := HZ3.out; simp; omega)
          have hk200 : k + j ≤ 400 := by omega
          go_upto_region 11 with (at_builtin; refine wpList_append_g _ rfl _ _ 31 rfl base 3 i0 _ 1 8 Tryz.underlying31 hi hz0 hz1 hz2 rfl (by omega) (.slice (some ⟨g, 0, none⟩) (k + j) cap) _ _ rfl HO4.out (some ⟨w3.heap.size, 0, none⟩) 1 1 [.int .i64 xi] rfl HR4.out (by intro u hu; simp at hu; subst hu; rfl) (by unfold maxLen; omega) (by omega) HZ4.out ?_; intro v2 w6 hown hgr hob; obtain ⟨A7, c7, rfl, _, _⟩ := own_form hown; obtain ⟨q7, hA7, _, _⟩ := own_some hown (by omega); subst hA7; have HB6 := Lib.hid (below_row HB4.out HO4.out HZ4.out hgr); have HO6 := Lib.hid hown; clear hown hgr hob)
          clear HO4 HR4 HB4 HZ4 HO3 HBB
          go_wp2_with fail
          go_roundw
          case rel => exact ⟨j + 1, q7, c7, by omega, by go_num, rfl, HB6, Lib.hid (by have e := HT.out; have h6 := HO6.out; have e2 : ic (L.take (k + j)) ++ [.int .i64 xi] = ic (L.take (k + j) ++ [xi]) := (by rw [ic_append]; rfl); rw [e2, ← e] at h6; exact h6)⟩
          case measure => simp [intOf]; omega
        · have hjm : j = m := by omega
          subst hjm
          have HALL := Lib.hid (show L.take (k + j) = L from List.take_of_length_le (by have := HIL.out; omega))
          rw [HALL.out] at HO
          have CS := Lib.hid (psort_any base g (k + j) cap L wr HO.out (by omega) HSZ.out)
          have CC := Lib.hid (fun W hO => pcompact_any base g (k + j) cap (L.mergeSort fun x y => decide (x ≤ y)) W hO (by omega))
          have hLL : L.length = k + j := HIL.out
          have HR := HRB.out
          rw [hLL] at HR
          obtain ⟨z, hz⟩ : ∃ z, z = (Lib.compact (L.mergeSort fun x y => decide (x ≤ y))).length := ⟨_, rfl⟩
          have HZ := Lib.hid (show z ≤ k + j by rw [hz, ← hLL, ← List.length_mergeSort (le := fun x y => decide (x ≤ y)) L]; exact Lib.compact_length_le _)
          rw [← hz] at HR CC
          have hRI : decide ((z : Int) < IntKind.i64.wrap ((k : Int) + (j : Int))) = b := by
            have hw : IntKind.i64.wrap ((k : Int) + (j : Int)) = (k : Int) + (j : Int) := by rw [IntKind.wrap_i64]; omega
            rw [hw, ← HR]; exact decide_eq_decide.2 (by omega)
          have HRI := Lib.hid hRI
          clear hz hLL hRI HR
          go_wp2_with fail
          refine (CS.out).mono ?_
          rintro e w4 ⟨rfl, ho4, hb4⟩
          have HO4 := Lib.hid ho4
          have HB4 := Lib.hid (HW.out.trans hb4)
          clear ho4 hb4 CS
          have CC1 := CC
          have HX4 := Lib.hid (X.out.below (B := base) HB4.out (by have := HBS.out; have := X.out.lt; omega))
          obtain ⟨x0, x1, x2⟩ := box_sk HX4.out
          clear CC HO
          have hzk := HZ.out
          go_upto_region 13 with (fail)
          have HX5 := Lib.hid (fun (w' : World) (h : Below base w4 w') => show w'.cell? ⟨g0, 0, none⟩ = some (.int .i64 sc) ∧ w'.cell? ⟨g0, 1, none⟩ = some (.slice A k ca) ∧ w'.cell? ⟨g0, 2, none⟩ = some (.slice B j cb) from box_sk (HX4.out.below (B := base) h (by have := HBS.out; have := X.out.lt; omega)))
          have HSS := Lib.hid (fun (w' : World) (h : Below base w4 w') => HX5.out w' h)
          have bb1 : Below base w4 w4.drew ∧ Below w4.heap.size w4 w4.drew := ⟨(Below.refl _ _).drew, (Below.refl _ _).drew⟩
          replace CC1 := Lib.hid (fun W (hb : Below w4.heap.size w4 W) => CC1.out W (own_below3 HO4.out hb))
          obtain ⟨ud, hud⟩ : ∃ ud, ud = w4.drew := ⟨_, rfl⟩
          refine wp_region_held_drew (S := fun w' => w'.cell? ⟨g0, 0, none⟩ = some (.int .i64 sc) ∧ w'.cell? ⟨g0, 1, none⟩ = some (.slice A k ca) ∧ w'.cell? ⟨g0, 2, none⟩ = some (.slice B j cb)) (by kernel_rfl) (HSS.out _ bb1.1) (fun hHeld => ?_)
          rw [← hud] at bb1 hHeld ⊢
          clear hud
          refine qT 0 ?_; try simp only [Act.put, qq]
          refine qT 3 ?_; try simp only [Act.put, qq]
          refine qT 4 ?_; try simp only [Act.put, qq]
          refine qT 5 ?_; try simp only [Act.put, qq]
          refine qT 6 ?_; try simp only [Act.put, qq]
          refine qT 7 ?_; try simp only [Act.put, qq]
          refine qT 8 ?_; try simp only [Act.put, qq]
          refine qT 9 ?_; try simp only [Act.put, qq]
          refine wpAnyH_ready (rs := [1]) (by kernel_rfl) (by simp) ?_
          refine AllReadyH.cons rfl (fun K hK => ?_) AllReadyH.nil
          go_simp
          refine (CC1.out ud bb1.2).mono ?_
          rintro e w5 ⟨rfl, hb5⟩
          have bb2 := bb1.1.trans hb5
          clear hb5
          refine hK.out _ _ (HSS.out _ bb2) (fun hHeld => ?_)
          clear hK
          try simp only [Act.put, qq]
          refine qT 2 ?_; try simp only [Act.put, qq]
          refine qT 10 ?_; try simp only [Act.put, qq]
          refine qT 11 ?_; try simp only [Act.put, qq]
          refine wpAnyH_done (by kernel_rfl) ?_ _
          clear hHeld HSS
          clear CC1 x0 x1 x2
          go_wp2_with fail
          go_ret
          exact ⟨by rw [← HRI.out]; rfl, bmore HB.out (by have h1 := HBS.out; have h2 := HB4.out.trans bb2; rw [h1] at h2; exact h2) (Nat.le_refl _)⟩
end Go.Proofs.YteebeiaokfenmaaGreat.KP

namespace Go.Proofs.YteebeiaokfenmaaGreat.KP
open Go.RowKit CP TP
open CM (Mg Cm)
open TM (Sp)
open KM (Wt Sk)
set_option linter.unusedVariables false
set_option linter.unusedSimpArgs false
set_option maxRecDepth 100000
def dueB (s : Sk) : Bool := match s.ws[KM.lst s.ws]? with | some x => x.f | none => false
theorem dueB_iff {s : Sk} : dueB s = true ↔ KM.due s := by
  unfold dueB KM.due
  rcases s.ws[KM.lst s.ws]? with _ | x <;> simp
def behB (s : Sk) : Bool := match s.ds.getLast?, s.ws[KM.lst s.ws]? with | some z, some x => TM.less z (KM.stp x) | _, _ => true
theorem behB_iff {s : Sk} : behB s = true ↔ KM.behind s := by
  unfold behB KM.behind
  rcases s.ds.getLast? with _ | z <;> rcases s.ws[KM.lst s.ws]? with _ | x <;> simp
set_option maxHeartbeats 4000000 in
theorem isDue_any (v : Value) (s : Sk) (w : World) (h : SkIs w v s) : Calls Tryz.prog 133 #[v] w (IsB (dueB s) w) := by
  obtain ⟨A, ca, B, cb, rfl, r1, d1⟩ := h
  have HR := Lib.hid (show dueB s = match s.ws[KM.lst s.ws]? with | some x => x.f | none => false from rfl)
  obtain ⟨b, hb⟩ : ∃ b, b = dueB s := ⟨_, rfl⟩
  rw [← hb] at HR ⊢
  clear hb
  obtain ⟨sc, ws, ds⟩ := s
  simp only at r1 d1 HR
  unfold vsk
  simp only
  obtain ⟨n, hna⟩ : ∃ n, n = ws.length := ⟨_, rfl⟩
  obtain ⟨m, hmb⟩ : ∃ m, m = ds.length := ⟨_, rfl⟩
  rw [← hna] at r1 ⊢
  rw [← hmb]
  have HL := Lib.hid hna
  have hn63 := r1.small
  have H := Lib.hid (fun W (hb : Below w.heap.size w W) => r1.below hb)
  clear hna hmb r1 d1
  have HB := Lib.hid (show Below w.heap.size w (w.alloc (.cells #[.int .i64 sc, .slice A n ca, .slice B m cb] 39)) from (Below.refl _ _).alloc (Nat.le_refl _) _)
  have X := Lib.hid (Box.new w 39 #[.int .i64 sc, .slice A n ca, .slice B m cb])
  go_enter Tryz.func133, Tryz.ntmps133
  go_upto_region 1 with (fail)
  generalize w.alloc (.cells #[.int .i64 sc, .slice A n ca, .slice B m cb] 39) = w1 at HB X ⊢
  generalize w.heap.size = g0 at X ⊢
  obtain ⟨x0, x1, x2⟩ := box_sk X.out
  by_cases hn : n = 0
  · have e : b = false := by
      have h1 := HR.out
      rw [List.getElem?_eq_none (by have := HL.out; omega)] at h1
      exact h1
    subst e
    subst hn
    go_wp2_with fail
    go_ret
    exact ⟨rfl, HB.out⟩
  · have hn1 : (0 : Int) < (n : Int) := by omega
    have CM := Lib.hid (pmin_any A n ca ws w1 (H.out _ HB.out) (by intro e; rw [e] at HL; exact hn HL.out))
    go_wp2_with fail
    refine (CM.out).mono ?_
    rintro e w2 ⟨bl, o, B', d, x, rfl, hx, hat, rfl, hb⟩
    have HB2 := Lib.hid (bmore HB.out hb (Nat.le_refl _))
    have HF := Lib.hid (show b = x.f by rw [HR.out, hx])
    clear hx hat hb CM x0 x1 x2
    obtain ⟨⟨xi, xg, xt, xk, xb⟩, xm, xf⟩ := x
    simp only at HF
    unfold vwt
    simp only
    have hfd : ∀ W, (Instr.field 78 (.agg #[.int .i64 xi, .slice B' xg.length d, .int .i64 xt, .string xk, .string xb, .int .i64 xm, .bool xf]) 2).run Tryz.prog W = .ok (.bool xf) W := fun W => by kernel_rfl
    go_wp2_with fail
    go_ret
    exact ⟨by rw [HF.out]; rfl, HB2.out⟩
set_option maxHeartbeats 8000000 in
theorem isBehind_any (v : Value) (s : Sk) (w : World) (h : SkIs w v s) : Calls Tryz.prog 132 #[v] w (IsB (behB s) w) := by
  obtain ⟨A, ca, B, cb, rfl, r1, d1⟩ := h
  have HR := Lib.hid (show behB s = match s.ds.getLast?, s.ws[KM.lst s.ws]? with | some z, some x => TM.less z (KM.stp x) | _, _ => true from rfl)
  obtain ⟨b, hb⟩ : ∃ b, b = behB s := ⟨_, rfl⟩
  rw [← hb] at HR ⊢
  clear hb
  obtain ⟨sc, ws, ds⟩ := s
  simp only at r1 d1 HR
  unfold vsk
  simp only
  obtain ⟨n, hna⟩ : ∃ n, n = ws.length := ⟨_, rfl⟩
  obtain ⟨m, hmb⟩ : ∃ m, m = ds.length := ⟨_, rfl⟩
  rw [← hna] at r1 ⊢
  rw [← hmb] at d1 ⊢
  have HL := Lib.hid hna
  have HM := Lib.hid hmb
  have hn63 := r1.small
  have hm63 := d1.small
  have H := Lib.hid (fun W (hb : Below w.heap.size w W) => r1.below hb)
  have HD := Lib.hid (fun W (hb : Below w.heap.size w W) => d1.below hb)
  clear hna hmb r1 d1
  have HB := Lib.hid (show Below w.heap.size w (w.alloc (.cells #[.int .i64 sc, .slice A n ca, .slice B m cb] 39)) from (Below.refl _ _).alloc (Nat.le_refl _) _)
  have X := Lib.hid (Box.new w 39 #[.int .i64 sc, .slice A n ca, .slice B m cb])
  go_enter Tryz.func132, Tryz.ntmps132
  go_upto_region 1 with (fail)
  generalize w.alloc (.cells #[.int .i64 sc, .slice A n ca, .slice B m cb] 39) = w1 at HB X ⊢
  generalize w.heap.size = g0 at X ⊢
  obtain ⟨x0, x1, x2⟩ := box_sk X.out
  by_cases hm : m = 0
  · have e : b = true := by
      have h1 := HR.out
      rw [show ds = [] from List.eq_nil_of_length_eq_zero (by have := HM.out; omega)] at h1
      exact h1
    subst e
    subst hm
    go_wp2_with fail
    go_ret
    exact ⟨rfl, HB.out⟩
  have hm1 : ¬ ((m : Int) = 0) := by omega
  have hm2 : ((m : Int) == 0) = false := by simpa using hm1
  by_cases hn : n = 0
  · have e : b = true := by
      have h1 := HR.out
      rw [List.getElem?_eq_none (l := ws) (by have := HL.out; omega)] at h1
      rcases hg : ds.getLast? with _ | z <;> (rw [hg] at h1; exact h1)
    subst e
    subst hn
    go_wp2_with fail
    go_ret
    exact ⟨rfl, HB.out⟩
  have hn1 : ¬ ((n : Int) = 0) := by omega
  have hn2 : ((n : Int) == 0) = false := by simpa using hn1
  obtain ⟨z, hz⟩ : ∃ z, ds[m - 1]? = some z := ⟨_, List.getElem?_eq_getElem (by have := HM.out; omega)⟩
  have HZ := Lib.hid (show ds.getLast? = some z by rw [List.getLast?_eq_getElem?, ← HM.out]; exact hz)
  obtain ⟨bl, o, rfl, _, hbl, a0, a1⟩ := (HD.out _ HB.out).at_ hz
  have CM := Lib.hid (fun W (hb : Below w1.heap.size w1 W) => pmin_any A n ca ws W (H.out _ (bmore HB.out hb (Nat.le_refl _))) (by intro e; rw [e] at HL; exact hn HL.out))
  have g2 : (m : Int) - 1 = ((m - 1 : Nat) : Int) := by omega
  have g3 : (0 : Int) ≤ ((m - 1 : Nat) : Int) := by omega
  have g4' : ((m - 1 : Nat) : Int) < (m : Int) := by omega
  have g5 : IntKind.i64.wrap ((m - 1 : Nat) : Int) = ((m - 1 : Nat) : Int) := by rw [IntKind.wrap_i64]; omega
  clear hz hbl
  obtain ⟨zt, zi⟩ := z
  simp only at a0 a1
  go_upto_region 3 with (fail)
  have HSS := Lib.hid (fun (w' : World) (h : Below w1.heap.size w1 w') => show w'.cell? ⟨g0, 0, none⟩ = some (.int .i64 sc) ∧ w'.cell? ⟨g0, 1, none⟩ = some (.slice A n ca) ∧ w'.cell? ⟨g0, 2, none⟩ = some (.slice (some ⟨bl, o, none⟩) m cb) ∧ w'.cell? ⟨bl, o + (m - 1) * 2, none⟩ = some (.int .i64 zt) ∧ w'.cell? ⟨bl, o + (m - 1) * 2 + 1, none⟩ = some (.int .i64 zi) from
    ⟨(h.cell (cell_block x0)).trans x0, (h.cell (cell_block x1)).trans x1, (h.cell (cell_block x2)).trans x2, (h.cell (cell_block a0)).trans a0, (h.cell (cell_block a1)).trans a1⟩)
  have bb1 : Below w1.heap.size w1 w1.drew := (Below.refl _ _).drew
  obtain ⟨ud, hud⟩ : ∃ ud, ud = w1.drew := ⟨_, rfl⟩
  refine wp_region_held_drew (S := fun w' => w'.cell? ⟨g0, 0, none⟩ = some (.int .i64 sc) ∧ w'.cell? ⟨g0, 1, none⟩ = some (.slice A n ca) ∧ w'.cell? ⟨g0, 2, none⟩ = some (.slice (some ⟨bl, o, none⟩) m cb) ∧ w'.cell? ⟨bl, o + (m - 1) * 2, none⟩ = some (.int .i64 zt) ∧ w'.cell? ⟨bl, o + (m - 1) * 2 + 1, none⟩ = some (.int .i64 zi)) (by kernel_rfl) (HSS.out _ bb1) (fun hHeld => ?_)
  rw [← hud] at bb1 hHeld ⊢
  clear hud
  refine qT 0 ?_; try simp only [Act.put, qq]
  refine qT 1 ?_; try simp only [Act.put, qq]
  refine qT 2 ?_; try simp only [Act.put, qq]
  refine qT 3 ?_; try simp only [Act.put, qq]
  refine qT 4 ?_; try simp only [Act.put, qq]
  refine qT 5 ?_; try simp only [Act.put, qq]
  refine qT 6 ?_; try simp only [Act.put, qq]
  refine qT 7 ?_; try simp only [Act.put, qq]
  refine qT 8 ?_; try simp only [Act.put, qq]
  refine qT 9 ?_; try simp only [Act.put, qq]
  refine wpAnyH_ready (rs := [10]) (by kernel_rfl) (by simp) ?_
  refine AllReadyH.cons rfl (fun K hK => ?_) AllReadyH.nil
  go_simp
  refine (CM.out ud bb1).mono ?_
  rintro e w3 ⟨bl', o', B', d, x, rfl, hx, hat, rfl, hb⟩
  have bb2 := bmore bb1 hb (Nat.le_refl _)
  have HF := Lib.hid (show b = TM.less ⟨zt, zi⟩ (KM.stp x) by rw [HR.out, HZ.out, hx])
  have C1 := Lib.hid (fun W => pstampOf_any B' d x W)
  have C2 := Lib.hid (fun W => pless_any ⟨zt, zi⟩ (KM.stp x) W)
  rw [← HF.out] at C2
  clear hx hat hb
  unfold vwt at C1
  unfold vwt
  unfold KM.stp at C1 C2
  unfold vsp at C2
  simp only at C2
  refine hK.out _ _ (HSS.out _ bb2) (fun hHeld => ?_)
  clear hK
  try simp only [Act.put, qq]
  refine wpAnyH_ready (rs := [11]) (by kernel_rfl) (by simp) ?_
  refine AllReadyH.cons rfl (fun K hK => ?_) AllReadyH.nil
  go_simp
  refine (C1.out _).mono ?_
  rintro e w4 ⟨rfl, hb⟩
  have bb3 := bmore bb2 hb (Nat.le_refl _)
  clear hb
  unfold vsp
  refine hK.out _ _ (HSS.out _ bb3) (fun hHeld => ?_)
  clear hK
  try simp only [Act.put, qq]
  refine wpAnyH_ready (rs := [12]) (by kernel_rfl) (by simp) ?_
  refine AllReadyH.cons rfl (fun K hK => ?_) AllReadyH.nil
  go_simp
  refine (C2.out _).mono ?_
  rintro e w5 ⟨rfl, hb⟩
  have bb4 := bmore bb3 hb (Nat.le_refl _)
  clear hb
  refine hK.out _ _ (HSS.out _ bb4) (fun hHeld => ?_)
  clear hK
  try simp only [Act.put, qq]
  refine qT 13 ?_; try simp only [Act.put, qq]
  refine wpAnyH_done (by kernel_rfl) ?_ _
  clear hHeld HSS
  clear CM C1 C2 x0 x1 x2 a0 a1
  go_wp2_with fail
  go_ret
  exact ⟨rfl, bmore HB.out bb4 (Nat.le_refl _)⟩
end Go.Proofs.YteebeiaokfenmaaGreat.KP

namespace Go.Proofs.YteebeiaokfenmaaGreat.KP
open Go.RowKit CP TP
open CM (Mg Cm)
open TM (Sp)
open KM (Wt Sk)
set_option linter.unusedVariables false
set_option linter.unusedSimpArgs false
set_option maxRecDepth 100000
set_option maxHeartbeats 4000000 in
theorem pcheck15_any (v : Value) (s : Sk) (w : World) (h : SkIs w v s) (hf : SkFit s) : Calls Tryz.prog 101 #[v] w (IsN (if KM.may s then 0 else 8) w) := by
  have HI := Lib.hid (KM.may_iff (s := s))
  have HD := Lib.hid (dueB_iff (s := s))
  have HBh := Lib.hid (behB_iff (s := s))
  have HW := Lib.hid (fun h : KM.areWt s => h.1)
  have HDn := Lib.hid (fun h : KM.areDn s => h.1)
  obtain ⟨r, hr⟩ : ∃ r : Int, r = if KM.may s then 0 else 8 := ⟨_, rfl⟩
  have HR := Lib.hid (show (KM.may s → r = 0) ∧ (¬ KM.may s → r = 8) from ⟨fun h => by rw [hr, if_pos h], fun h => by rw [hr, if_neg h]⟩)
  rw [← hr]
  clear hr
  have C1 := Lib.hid (fun W (hb : Below w.heap.size w W) => areWaits_any v s W (h.below hb) hf)
  have C2 := Lib.hid (fun W (hb : Below w.heap.size w W) => areDone_any v s W (h.below hb) hf)
  have C3 := Lib.hid (fun W (hb : Below w.heap.size w W) => isTwice_any v s W (h.below hb))
  have C4 := Lib.hid (fun W (hb : Below w.heap.size w W) => isBehind_any v s W (h.below hb))
  have C5 := Lib.hid (fun W (hb : Below w.heap.size w W) => isDue_any v s W (h.below hb))
  obtain ⟨A, ca, B, cb, rfl, r1, d1⟩ := h
  clear r1 d1
  obtain ⟨b1, e1⟩ : ∃ b, b = decide (KM.areWt s) := ⟨_, rfl⟩
  obtain ⟨b2, e2⟩ : ∃ b, b = decide (KM.areDn s) := ⟨_, rfl⟩
  obtain ⟨b3, e3⟩ : ∃ b, b = decide (¬ (KM.ids s).Nodup) := ⟨_, rfl⟩
  obtain ⟨b4, e4⟩ : ∃ b, b = behB s := ⟨_, rfl⟩
  obtain ⟨b5, e5⟩ : ∃ b, b = dueB s := ⟨_, rfl⟩
  rw [← e1] at C1
  rw [← e2] at C2
  rw [← e3] at C3
  rw [← e4] at C4
  rw [← e5] at C5
  have E1 := Lib.hid (show b1 = true ↔ KM.areWt s by rw [e1]; simp)
  have E2 := Lib.hid (show b2 = true ↔ KM.areDn s by rw [e2]; simp)
  have E3 := Lib.hid (show b3 = true ↔ ¬ (KM.ids s).Nodup by rw [e3]; simp)
  have E4 := Lib.hid (show b4 = true ↔ KM.behind s by rw [e4]; exact HBh.out)
  have E5 := Lib.hid (show b5 = true ↔ KM.due s by rw [e5]; exact HD.out)
  clear e1 e2 e3 e4 e5 hf
  obtain ⟨M, hM⟩ : ∃ M, M = KM.may s := ⟨_, rfl⟩
  rw [← hM] at HI
  have HRM := Lib.hid (show (M → r = 0) ∧ (¬ M → r = 8) by rw [hM]; exact HR.out)
  clear hM HR HD HBh
  obtain ⟨sc, ws, ds⟩ := s
  unfold vsk at C1 C2 C3 C4 C5 ⊢
  simp only at HI C1 C2 C3 C4 C5 HW HDn ⊢
  obtain ⟨n, hna⟩ : ∃ n, n = ws.length := ⟨_, rfl⟩
  obtain ⟨m, hmb⟩ : ∃ m, m = ds.length := ⟨_, rfl⟩
  rw [← hna] at C1 C2 C3 C4 C5 HW ⊢
  rw [← hmb] at C1 C2 C3 C4 C5 HDn ⊢
  clear hna hmb
  have HB := Lib.hid (show Below w.heap.size w (w.alloc (.cells #[.int .i64 sc, .slice A n ca, .slice B m cb] 39)) from (Below.refl _ _).alloc (Nat.le_refl _) _)
  have X := Lib.hid (Box.new w 39 #[.int .i64 sc, .slice A n ca, .slice B m cb])
  go_enter Tryz.func101, Tryz.ntmps101
  go_upto_region 1 with (fail)
  generalize w.alloc (.cells #[.int .i64 sc, .slice A n ca, .slice B m cb] 39) = w1 at HB X ⊢
  generalize w.heap.size = g0 at X ⊢
  obtain ⟨x0, x1, x2⟩ := box_sk X.out
  by_cases k1 : sc < 0
  · have e : r = 8 := HRM.out.2 (fun h => by have := (HI.out.1 h).1.1; omega)
    subst e
    go_wp2_with fail
    go_ret
    exact ⟨rfl, HB.out⟩
  by_cases k2 : 1073741824 < sc
  · have e : r = 8 := HRM.out.2 (fun h => by have := (HI.out.1 h).1.2; omega)
    subst e
    go_wp2_with fail
    go_ret
    exact ⟨rfl, HB.out⟩
  have K12 := Lib.hid (show 0 ≤ sc ∧ sc ≤ 1073741824 from ⟨by omega, by omega⟩)
  go_wp2_with fail
  refine (C1.out _ HB.out).mono ?_
  rintro e w2 ⟨rfl, hb⟩
  have Hw2 := Lib.hid (bmore HB.out hb (Nat.le_refl _))
  have Xw2 := Lib.hid (X.out.below hb X.out.lt)
  clear x0 x1 x2 hb C1
  obtain ⟨x0, x1, x2⟩ := box_sk Xw2.out
  rcases b1 with _ | _
  · have e : r = 8 := HRM.out.2 (fun h => by have h1 := HI.out.1 h; exact absurd (E1.out.2 h1.2.1) (by decide))
    subst e
    go_wp2_with fail
    go_ret
    exact ⟨rfl, Hw2.out⟩
  have N1 := Lib.hid (HW.out (E1.out.1 rfl))
  go_wp2_with fail
  refine (C2.out _ Hw2.out).mono ?_
  rintro e w3 ⟨rfl, hb⟩
  have Hw3 := Lib.hid (bmore Hw2.out hb (Nat.le_refl _))
  have Xw3 := Lib.hid (Xw2.out.below hb Xw2.out.lt)
  clear x0 x1 x2 hb C2
  obtain ⟨x0, x1, x2⟩ := box_sk Xw3.out
  rcases b2 with _ | _
  · have e : r = 8 := HRM.out.2 (fun h => by have h1 := HI.out.1 h; exact absurd (E2.out.2 h1.2.2.1) (by decide))
    subst e
    go_wp2_with fail
    go_ret
    exact ⟨rfl, Hw3.out⟩
  have N2 := Lib.hid (HDn.out (E2.out.1 rfl))
  go_wp2_with fail
  refine (C3.out _ Hw3.out N1.out N2.out).mono ?_
  rintro e w4 ⟨rfl, hb⟩
  have Hw4 := Lib.hid (bmore Hw3.out hb (Nat.le_refl _))
  have Xw4 := Lib.hid (Xw3.out.below hb Xw3.out.lt)
  clear x0 x1 x2 hb C3
  obtain ⟨x0, x1, x2⟩ := box_sk Xw4.out
  rcases b3 with _ | _
  rotate_left
  · have e : r = 8 := HRM.out.2 (fun h => by have h1 := HI.out.1 h; exact (E3.out.1 rfl) h1.2.2.2.1)
    subst e
    go_wp2_with fail
    go_ret
    exact ⟨rfl, Hw4.out⟩
  go_wp2_with fail
  refine (C4.out _ Hw4.out).mono ?_
  rintro e w5 ⟨rfl, hb⟩
  have Hw5 := Lib.hid (bmore Hw4.out hb (Nat.le_refl _))
  have Xw5 := Lib.hid (Xw4.out.below hb Xw4.out.lt)
  clear x0 x1 x2 hb C4
  obtain ⟨x0, x1, x2⟩ := box_sk Xw5.out
  rcases b4 with _ | _
  · have e : r = 8 := HRM.out.2 (fun h => by have h1 := HI.out.1 h; exact absurd (E4.out.2 h1.2.2.2.2.1) (by decide))
    subst e
    go_wp2_with fail
    go_ret
    exact ⟨rfl, Hw5.out⟩
  go_wp2_with fail
  refine (C5.out _ Hw5.out).mono ?_
  rintro e w6 ⟨rfl, hb⟩
  have Hw6 := Lib.hid (bmore Hw5.out hb (Nat.le_refl _))
  have Xw6 := Lib.hid (Xw5.out.below hb Xw5.out.lt)
  clear x0 x1 x2 hb C5
  obtain ⟨x0, x1, x2⟩ := box_sk Xw6.out
  rcases b5 with _ | _
  rotate_left
  · have e : r = 8 := HRM.out.2 (fun h => by have h1 := HI.out.1 h; exact h1.2.2.2.2.2 (E5.out.1 rfl))
    subst e
    go_wp2_with fail
    go_ret
    exact ⟨rfl, Hw6.out⟩
  have e : r = 0 := HRM.out.1 (HI.out.2 ⟨K12.out, E1.out.1 (by first | rfl | trivial), E2.out.1 (by first | rfl | trivial), Classical.byContradiction fun h => absurd (E3.out.2 h) (by decide), E4.out.1 (by first | rfl | trivial), fun h => absurd (E5.out.2 h) (by decide)⟩)
  subst e
  go_wp2_with fail
  go_ret
  exact ⟨rfl, Hw6.out⟩
end Go.Proofs.YteebeiaokfenmaaGreat.KP
