/- Contracts of functions, L10: each as its theorem says. -/
import Derived.Test.YteebeiaokfenmaaGreatL08
import Derived.Lib.OwnBridge
import Derived.Maps.OwnSet
set_option linter.unusedVariables false
set_option linter.unusedSimpArgs false
set_option maxRecDepth 100000
set_option maxHeartbeats 16000000
namespace Go.Proofs.YteebeiaokfenmaaGreat
namespace KP
open Go.RowKit CP TP
open CM (Mg Cm)
open TM (Sp)
open KM (Wt Sk)
open Go.Shelf
theorem below_grow (w : World) (os : Array Obj) : Below w.heap.size w (Sort.grow w os) :=
 ⟨rfl, rfl, rfl, by simp [Sort.grow], fun k hk => by simp [Sort.grow, Array.getElem?_append_left hk]⟩
theorem psort_any (base g n cap : Nat) (zs : List Int) (w : World) (h : w.ownsRow base 3 1 (.slice (some ⟨g, 0, none⟩) n cap) n (ic zs)) (hn : n ≤ 2000) (hB : base ≤ w.heap.size) :
  Calls Tryz.prog 149 #[.slice (some ⟨g, 0, none⟩) n cap] w fun e w' => e = .returned (.tuple #[]) ∧ w'.ownsRow base 3 1 (.slice (some ⟨g, 0, none⟩) n cap) n (ic (zs.mergeSort fun x y => decide (x ≤ y))) ∧ Below base w w' := by
 obtain ⟨g', cap', e, hbg, hgl, hnc, hcm, hlen, hH⟩ := Lib.holds_of_ownsRow (enc := Value.int .i64) (zs := zs) h (by intro e; cases e)
 injection e with e1 _ e3
 injection e1 with e1
 injection e1 with e1
 subst e1 e3
 have hc := Any.slices_Sort_int laySort g 0 cap zs w hH hgl (by omega)
 rw [hlen] at hc
 refine hc.mono ?_
 rintro e w' ⟨rfl, q, os, rfl⟩
 have h1 := Lib.ownsRow_putRow (q := q) (k := n) (ys := zs.mergeSort fun x y => decide (x ≤ y)) h (by rw [List.length_mergeSort]; exact hlen) n!
 rw [List.take_of_length_le (by rw [List.length_mergeSort]; omega)] at h1
 refine ⟨rfl, own_below3 h1 (below_grow _ _), ?_⟩
 have h2 : Below base w (Sort.putRow (Value.int .i64) (Sort.ahead w q) g 0 (zs.mergeSort fun x y => decide (x ≤ y)).toArray) := Lib.below_putRow (Below.refl _ _) hbg
 exact h2.trans ((below_grow _ os).mono (Nat.le_trans hB h2.size))
theorem pcompact_any (base g n cap : Nat) (zs : List Int) (w : World) (h : w.ownsRow base 3 1 (.slice (some ⟨g, 0, none⟩) n cap) n (ic zs)) (hn : n ≤ 2000) :
  Calls Tryz.prog 150 #[.slice (some ⟨g, 0, none⟩) n cap] w fun e w' => e = .returned (.slice (some ⟨g, 0, none⟩) (Lib.compact zs).length cap) ∧ Below base w w' := by
 obtain ⟨g', cap', e, hbg, hgl, hnc, hcm, hlen, hH⟩ := Lib.holds_of_ownsRow (enc := Value.int .i64) (zs := zs) h (by intro e; cases e)
 injection e with e1 _ e3
 injection e1 with e1
 injection e1 with e1
 subst e1 e3
 have hc := Any.slices_Compact_int layCompact g 0 cap zs w hH (by omega) (by omega)
 rw [hlen] at hc
 refine hc.mono ?_
 rintro e w' ⟨rfl, q, rfl⟩
 exact ⟨rfl, Lib.below_putRow (Below.refl _ _) hbg⟩
theorem ids_ws {s : Sk} {k : Nat} {x : Wt} (h : s.ws[k]? = some x) : (KM.ids s).take (k + 1) = (KM.ids s).take k ++ [x.m.id] := by
 have hk := (List.getElem?_eq_some_iff.1 h).1
 rw [List.take_add_one]
 congr 1
 unfold KM.ids
 rw [List.getElem?_append_left (by rw [List.length_map]; exact hk), List.getElem?_map, h]
 rfl
theorem ids_ds {s : Sk} {k : Nat} {x : Sp} (h : s.ds[k]? = some x) : (KM.ids s).take (s.ws.length + k + 1) = (KM.ids s).take (s.ws.length + k) ++ [x.i] := by
 rw [List.take_add_one]
 congr 1
 unfold KM.ids
 rw [List.getElem?_append_right (by rw [List.length_map]; omega), List.length_map, Nat.add_sub_cancel_left, List.getElem?_map, h]
 rfl
theorem ids_len (s : Sk) : (KM.ids s).length = s.ws.length + s.ds.length := by unfold KM.ids; rw [List.length_append, List.length_map, List.length_map]
theorem isTwice_any (v : Value) (s : Sk) (w : World) (h : SkIs w v s) (hf1 : s.ws.length ≤ 200) (hf2 : s.ds.length ≤ 200) : Calls Tryz.prog 131 #[v] w (IsB (decide (¬ (KM.ids s).Nodup)) w) := by
 obtain ⟨i0, hi, hz0, hz1, hz2⟩ := info_parts info_int15
 obtain ⟨A, ca, B, cb, rfl, r1, d1⟩ := h
 obtain ⟨b, hb⟩ : ∃ b, b = decide (¬ (KM.ids s).Nodup) := ⟨_, rfl⟩
 have HRB := h! (show decide ((Lib.compact ((KM.ids s).mergeSort fun x y => decide (x ≤ y))).length < (KM.ids s).length) = b by rw [hb]; exact decide_eq_decide.2 (KM.twice_iff _))
 rw [← hb]
 clear hb
 have HI1 := h! (fun k x => ids_ws (s := s) (k := k) (x := x))
 have HI2 := h! (fun k x => ids_ds (s := s) (k := k) (x := x))
 have HIL := h! (ids_len s)
 obtain ⟨L, hL⟩ : ∃ L, L = KM.ids s := ⟨_, rfl⟩
 rw [← hL] at HRB HI1 HI2 HIL
 clear hL
 obtain ⟨sc, ws, ds⟩ := s
 simp only at r1 d1 HI1 HI2 HIL hf1 hf2
 obtain ⟨n, hna⟩ : ∃ n, n = ws.length := ⟨_, rfl⟩
 obtain ⟨m, hmb⟩ : ∃ m, m = ds.length := ⟨_, rfl⟩
 unfold vsk
 simp only
 rw [← hna] at r1 HI2 HIL hf1 ⊢
 rw [← hmb] at d1 HIL hf2 ⊢
 have HLA := h! hna
 have HLB := h! hmb
 have H := h! (fun W (hb : Below w.heap.size w W) => r1.below hb)
 have HD := h! (fun W (hb : Below w.heap.size w W) => d1.below hb)
 clear hna hmb r1 d1
 have HB := h! (show Below w.heap.size w (w.alloc (.cells #[.int .i64 sc, .slice A n ca, .slice B m cb] 39)) from (Below.refl _ _).alloc n! _)
 have X := h! (Box.new w 39 #[.int .i64 sc, .slice A n ca, .slice B m cb])
 go_enter Tryz.func131, Tryz.ntmps131
 go_upto_region 1 with (fail)
 generalize w.alloc (.cells #[.int .i64 sc, .slice A n ca, .slice B m cb] 39) = w1 at HB X ⊢
 generalize w.heap.size = g0 at X ⊢
 obtain ⟨base, hbase⟩ : ∃ base, base = w1.heap.size := ⟨_, rfl⟩
 have HBS := h! hbase
 clear hbase
 go_upto_region 2 with (at_make; refine wpList_make_own _ rfl _ _ 31 rfl base 3 i0 _ 1 Tryz.underlying31 hi hz0 hz1 .i64 .i64 _ 400 rfl rfl rfl (by rw [hz2]; omega) (by unfold maxLen; omega) (by have := HBS.out; omega) ?_; intro w2 hown2 hg2; have HB2 := h! (show Below base w1 w2 by have h1 := below_of_grown hg2 (by simp); have h2 := HBS.out; rw [h2]; exact h1); have HO2 := h! hown2; clear hown2 hg2)
 obtain ⟨x0, x1, x2⟩ := box_sk (X.out.below (B := base) HB2.out (by have := HBS.out; have := X.out.lt; omega))
 go_wp2_with fail
 clear x0 x1 x2
 generalize w1.heap.size = q0 at HO2 ⊢
 go_loopw [3, 12] (fun u i wr => ∃ (k g cap : Nat), k ≤ n ∧ i = .int .i64 k ∧ u = .slice (some ⟨g, 0, none⟩) k cap ∧ Hid (Below base w1 wr) ∧ Hid (wr.ownsRow base 3 1 (.slice (some ⟨g, 0, none⟩) k cap) k (ic (L.take k)))) (fun _ i _ => n - (intOf i).toNat)
 case atStart => exact ⟨0, q0, 400, by omega, rfl, rfl, HB2, by simpa [ic] using HO2⟩
 case round =>
  clear HO2 HB2
  obtain ⟨k, g, cap, hk, rfl, rfl, HW, HO⟩ := hrel
  have HWB := h! (show Below w.heap.size w wr from bmore HB.out (by have := HBS.out; rw [← this]; exact HW.out) n!)
  have HXW := h! (X.out.below (B := base) HW.out (by have := HBS.out; have := X.out.lt; omega))
  have HSZ := h! (show base ≤ wr.heap.size by have h1 := HW.out.size; have h2 := HBS.out; omega)
  by_cases hlt : k < n
  ·obtain ⟨x, hx⟩ : ∃ x, ws[k]? = some x := ⟨_, List.getElem?_eq_getElem (by have := HLA.out; omega)⟩
   have HT := h! (HI1.out k x hx)
   obtain ⟨bl, o, Q, q, rfl, _, hbl, hat, _⟩ := wts_at (H.out _ HWB.out) hx
   obtain ⟨a0, a1, a2, a3, a4, a5, a6⟩ := hat
   obtain ⟨x0, x1, x2⟩ := box_sk HXW.out
   have hk0 : (0 : Int) ≤ (k : Int) := by omega
   have hkn : (k : Int) < (n : Int) := by omega
   clear hx hbl
   obtain ⟨⟨yi, yg, yt, yk, yb⟩, ym, yf⟩ := x
   simp only at a0 a1 a2 a3 a4 a5 a6 HT
   go_upto_region 5 with (fail)
   have bb0 : Below wr.heap.size wr (wr.alloc (.cells #[.int .i64 yi, .slice Q yg.length q, .int .i64 yt, .string yk, .string yb, .int .i64 ym, .bool yf] 78)) := b!
   have HBB := h! (HW.out.trans (bb0.mono HSZ.out))
   have HY0 := h! (Box.new wr 78 #[.int .i64 yi, .slice Q yg.length q, .int .i64 yt, .string yk, .string yb, .int .i64 ym, .bool yf])
   have HO3 := h! (own_below3 HO.out bb0)
   have HZ3 := h! (Nat.le_trans HSZ.out bb0.size)
   clear bb0 a0 a1 a2 a3 a4 a5 a6 x0 x1 x2
   generalize wr.alloc (.cells #[.int .i64 yi, .slice Q yg.length q, .int .i64 yt, .string yk, .string yb, .int .i64 ym, .bool yf] 78) = w3 at HBB HY0 HO3 HZ3 ⊢
   generalize wr.heap.size = g4 at HY0 ⊢
   obtain ⟨a0, a1, a2, a3, a4, a5, a6⟩ := box_wt HY0.out
   have HO4 := h! (own_below3 HO3.out (show Below w3.heap.size w3 (w3.alloc (.cells #[.int .i64 yi] 3)) from (Below.refl _ _).alloc n! _))
   have HR4 := h! (rdG_box (s := 1) (n := 1) (Box.new w3 3 #[.int .i64 yi]) rfl rfl)
   have HB4 := h! (HBB.out.trans (show Below base w3 (w3.alloc (.cells #[.int .i64 yi] 3)) from (Below.refl _ _).alloc HZ3.out _))
   have HZ4 := h! (show base ≤ (w3.alloc (.cells #[.int .i64 yi] 3)).heap.size by have := HZ3.out; simp; omega)
   have hk200 : k ≤ 400 := by omega
   go_upto_region 6 with (at_builtin; refine wpList_append_g _ rfl _ _ 31 rfl base 3 i0 _ 1 8 Tryz.underlying31 hi hz0 hz1 hz2 rfl (by omega) (.slice (some ⟨g, 0, none⟩) (k) cap) _ _ rfl HO4.out (some ⟨w3.heap.size, 0, none⟩) 1 1 [.int .i64 yi] rfl HR4.out (by intro u hu; simp at hu; subst hu; rfl) (by unfold maxLen; omega) (by omega) HZ4.out ?_; intro v2 w6 hown hgr hob; obtain ⟨A7, c7, rfl, _, _⟩ := own_form hown; obtain ⟨q7, hA7, _, _⟩ := own_some hown (by omega); subst hA7; have HB6 := h! (below_row HB4.out HO4.out HZ4.out hgr); have HO6 := h! hown; clear hown hgr hob)
   clear HO4 HR4 HB4 HZ4 HO3 HBB
   go_wp2_with fail
   go_roundw
   case rel => exact ⟨k + 1, q7, c7, by omega, by go_num, rfl, HB6, h! (by rw [HT.out, ic_append]; exact HO6.out)⟩
   case measure => simp [intOf]; omega
  ·have hkn : k = n := by omega
   subst hkn
   obtain ⟨x0, x1, x2⟩ := box_sk HXW.out
   go_wp2_with fail
   clear x0 x1 x2
   go_loopw [3, 26] (fun u i wr => ∃ (j g cap : Nat), j ≤ m ∧ i = .int .i64 j ∧ u = .slice (some ⟨g, 0, none⟩) (k + j) cap ∧ Hid (Below base w1 wr) ∧ Hid (wr.ownsRow base 3 1 (.slice (some ⟨g, 0, none⟩) (k + j) cap) (k + j) (ic (L.take (k + j))))) (fun _ i _ => m - (intOf i).toNat)
   case atStart => exact ⟨0, g, cap, by omega, rfl, rfl, HW, HO⟩
   case round =>
    clear HO HW HWB HXW HSZ
    obtain ⟨j, g, cap, hj, rfl, rfl, HW, HO⟩ := hrel
    have HWB := h! (show Below w.heap.size w wr from bmore HB.out (by have := HBS.out; rw [← this]; exact HW.out) n!)
    have HXW := h! (X.out.below (B := base) HW.out (by have := HBS.out; have := X.out.lt; omega))
    have HSZ := h! (show base ≤ wr.heap.size by have h1 := HW.out.size; have h2 := HBS.out; omega)
    by_cases hlt2 : j < m
    ·obtain ⟨x, hx⟩ : ∃ x, ds[j]? = some x := ⟨_, List.getElem?_eq_getElem (by have := HLB.out; omega)⟩
     have HT := h! (HI2.out j x hx)
     obtain ⟨bl, o, rfl, _, hbl, a0, a1⟩ := (HD.out _ HWB.out).at_ hx
     obtain ⟨x0, x1, x2⟩ := box_sk HXW.out
     have hk0 : (0 : Int) ≤ (j : Int) := by omega
     have hkn : (j : Int) < (m : Int) := by omega
     clear hx hbl
     obtain ⟨xt, xi⟩ := x
     simp only at a0 a1 HT
     go_upto_region 10 with (fail)
     have bb0 : Below wr.heap.size wr (wr.alloc (.cells #[.int .i64 xt, .int .i64 xi] 46)) := b!
     have HBB := h! (HW.out.trans (bb0.mono HSZ.out))
     have HY0 := h! (Box.new wr 46 #[.int .i64 xt, .int .i64 xi])
     have HO3 := h! (own_below3 HO.out bb0)
     have HZ3 := h! (Nat.le_trans HSZ.out bb0.size)
     clear bb0 a0 a1 x0 x1 x2
     generalize wr.alloc (.cells #[.int .i64 xt, .int .i64 xi] 46) = w3 at HBB HY0 HO3 HZ3 ⊢
     generalize wr.heap.size = g4 at HY0 ⊢
     obtain ⟨a0, a1⟩ := box_two HY0.out
     have HO4 := h! (own_below3 HO3.out (show Below w3.heap.size w3 (w3.alloc (.cells #[.int .i64 xi] 3)) from (Below.refl _ _).alloc n! _))
     have HR4 := h! (rdG_box (s := 1) (n := 1) (Box.new w3 3 #[.int .i64 xi]) rfl rfl)
     have HB4 := h! (HBB.out.trans (show Below base w3 (w3.alloc (.cells #[.int .i64 xi] 3)) from (Below.refl _ _).alloc HZ3.out _))
     have HZ4 := h! (show base ≤ (w3.alloc (.cells #[.int .i64 xi] 3)).heap.size by have := HZ3.out; simp; omega)
     have hk200 : k + j ≤ 400 := by omega
     go_upto_region 11 with (at_builtin; refine wpList_append_g _ rfl _ _ 31 rfl base 3 i0 _ 1 8 Tryz.underlying31 hi hz0 hz1 hz2 rfl (by omega) (.slice (some ⟨g, 0, none⟩) (k + j) cap) _ _ rfl HO4.out (some ⟨w3.heap.size, 0, none⟩) 1 1 [.int .i64 xi] rfl HR4.out (by intro u hu; simp at hu; subst hu; rfl) (by unfold maxLen; omega) (by omega) HZ4.out ?_; intro v2 w6 hown hgr hob; obtain ⟨A7, c7, rfl, _, _⟩ := own_form hown; obtain ⟨q7, hA7, _, _⟩ := own_some hown (by omega); subst hA7; have HB6 := h! (below_row HB4.out HO4.out HZ4.out hgr); have HO6 := h! hown; clear hown hgr hob)
     clear HO4 HR4 HB4 HZ4 HO3 HBB
     go_wp2_with fail
     go_roundw
     case rel => exact ⟨j + 1, q7, c7, by omega, by go_num, rfl, HB6, h! (by have e := HT.out; have h6 := HO6.out; have e2 : ic (L.take (k + j)) ++ [.int .i64 xi] = ic (L.take (k + j) ++ [xi]) := (by rw [ic_append]; rfl); rw [e2, ← e] at h6; exact h6)⟩
     case measure => simp [intOf]; omega
    ·have hjm : j = m := by omega
     subst hjm
     have HALL := h! (show L.take (k + j) = L from List.take_of_length_le (by have := HIL.out; omega))
     rw [HALL.out] at HO
     have CS := h! (psort_any base g (k + j) cap L wr HO.out (by omega) HSZ.out)
     have CC := h! (fun W hO => pcompact_any base g (k + j) cap (L.mergeSort fun x y => decide (x ≤ y)) W hO (by omega))
     have hLL : L.length = k + j := HIL.out
     have HR := HRB.out
     rw [hLL] at HR
     obtain ⟨z, hz⟩ : ∃ z, z = (Lib.compact (L.mergeSort fun x y => decide (x ≤ y))).length := ⟨_, rfl⟩
     have HZ := h! (show z ≤ k + j by rw [hz, ← hLL, ← List.length_mergeSort (le := fun x y => decide (x ≤ y)) L]; exact Lib.compact_length_le _)
     rw [← hz] at HR CC
     have hRI : decide ((z : Int) < IntKind.i64.wrap ((k : Int) + (j : Int))) = b := by
      have hw : IntKind.i64.wrap ((k : Int) + (j : Int)) = (k : Int) + (j : Int) := by rw [IntKind.wrap_i64]; omega
      rw [hw, ← HR]; exact decide_eq_decide.2 (by omega)
     have HRI := h! hRI
     clear hz hLL hRI HR
     go_wp2_with fail
     refine (CS.out).mono ?_
     rintro e w4 ⟨rfl, ho4, hb4⟩
     have HO4 := h! ho4
     have HB4 := h! (HW.out.trans hb4)
     clear ho4 hb4 CS
     have CC1 := CC
     have HX4 := h! (X.out.below (B := base) HB4.out (by have := HBS.out; have := X.out.lt; omega))
     obtain ⟨x0, x1, x2⟩ := box_sk HX4.out
     clear CC HO
     have hzk := HZ.out
     go_upto_region 13 with (fail)
     have HX5 := h! (fun (w' : World) (h : Below base w4 w') => show w'.cell? ⟨g0, 0, none⟩ = some (.int .i64 sc) ∧ w'.cell? ⟨g0, 1, none⟩ = some (.slice A k ca) ∧ w'.cell? ⟨g0, 2, none⟩ = some (.slice B j cb) from box_sk (HX4.out.below (B := base) h (by have := HBS.out; have := X.out.lt; omega)))
     have HSS := h! (fun (w' : World) (h : Below base w4 w') => HX5.out w' h)
     have bb1 : Below base w4 w4.drew ∧ Below w4.heap.size w4 w4.drew := ⟨(Below.refl _ _).drew, (Below.refl _ _).drew⟩
     replace CC1 := h! (fun W (hb : Below w4.heap.size w4 W) => CC1.out W (own_below3 HO4.out hb))
     obtain ⟨ud, hud⟩ : ∃ ud, ud = w4.drew := ⟨_, rfl⟩
     refine wp_region_held_drew (S := fun w' => w'.cell? ⟨g0, 0, none⟩ = some (.int .i64 sc) ∧ w'.cell? ⟨g0, 1, none⟩ = some (.slice A k ca) ∧ w'.cell? ⟨g0, 2, none⟩ = some (.slice B j cb)) (by kernel_rfl) (HSS.out _ bb1.1) (fun hHeld => ?_)
     rw [← hud] at bb1 hHeld ⊢
     clear hud
     refine qT 0 ?_; try simp only [Act.put, qq]
     refine qT 3 ?_; try simp only [Act.put, qq]
     refine qT 4 ?_; try simp only [Act.put, qq]
     refine qT 5 ?_; try simp only [Act.put, qq]
     refine qT 6 ?_; try simp only [Act.put, qq]
     refine qT 7 ?_; try simp only [Act.put, qq]
     refine qT 8 ?_; try simp only [Act.put, qq]
     refine qT 9 ?_; try simp only [Act.put, qq]
     refine qR 1 fun K hK => ?_
     go_simp
     refine (CC1.out ud bb1.2).mono ?_
     rintro e w5 ⟨rfl, hb5⟩
     have bb2 := bb1.1.trans hb5
     clear hb5
     refine hK.out _ _ (HSS.out _ bb2) (fun hHeld => ?_)
     clear hK
     try simp only [Act.put, qq]
     refine qT 2 ?_; try simp only [Act.put, qq]
     refine qT 10 ?_; try simp only [Act.put, qq]
     refine qT 11 ?_; try simp only [Act.put, qq]
     refine wpAnyH_done (by kernel_rfl) ?_ _
     clear hHeld HSS
     clear CC1 x0 x1 x2
     go_wp2_with fail
     go_ret
     exact ⟨by rw [← HRI.out]; rfl, bmore HB.out (by have h1 := HBS.out; have h2 := HB4.out.trans bb2; rw [h1] at h2; exact h2) n!⟩
end KP
namespace KP
open Go.RowKit CP TP
open Go.Maps (Keyed IsMap Tidy int_keyed keyOf_int_mk)
open CM (Mg Cm)
open TM (Sp)
open KM (Wt Sk)
def plD (l : List Int) : DataW Unit := l.zipIdx.foldl (fun D p => D.put (.int .i64 p.1) (.lit (.int .i64 (p.2 : Nat)))) (.map [])
theorem plD_snoc (l : List Int) (x : Int) : plD (l ++ [x]) = (plD l).put (.int .i64 x) (.lit (.int .i64 (l.length : Nat))) := by
 unfold plD
 rw [List.zipIdx_append, List.foldl_append]
 simp
theorem plD_map : ∀ r : List Int, IsMap (plD r.reverse)
 | [] => Maps.isMap_empty
 | x :: r => by rw [List.reverse_cons, plD_snoc]; exact (plD_map r).put _ _
theorem key_int (x : Int) : WideAt.IsKeyLit (.int .i64 x) := by unfold WideAt.IsKeyLit; trivial
theorem plD_has_rev (x : Int) : ∀ r : List Int, Maps.has (plD r.reverse) (.int .i64 x) = decide (x ∈ r)
 | [] => by simp [plD, Maps.has]
 | y :: r => by
  rw [List.reverse_cons, plD_snoc]
  by_cases h : x = y
  ·subst h
   rw [Maps.has_put_same (plD_map r) (key_int _)]
   simp
  ·rw [Maps.has_put_other (fun e => h (by injection e)), plD_has_rev x r]
   simp [h]
theorem plD_has (l : List Int) (x : Int) : Maps.has (plD l) (.int .i64 x) = decide (x ∈ l) := by
 have := plD_has_rev x l.reverse
 rw [List.reverse_reverse] at this
 rw [this]
 simp
theorem plD_at_rev (x : Int) (z : DataW Unit) : ∀ (r : List Int), r.Nodup → ∀ k, r.reverse[k]? = some x → (plD r.reverse).atKey (.int .i64 x) z = .lit (.int .i64 (k : Nat))
 | [], _, k, h => by simp at h
 | y :: r, hn, k, h => by
  rw [List.nodup_cons] at hn
  rw [List.reverse_cons] at h ⊢
  rw [plD_snoc]
  by_cases hk : k < r.reverse.length
  ·rw [List.getElem?_append_left hk] at h
   have hm : x ∈ r := List.mem_reverse.1 (List.mem_of_getElem? h)
   rw [Maps.atKey_put_other (fun e => hn.1 (by injection e with _ e; rw [← e]; exact hm))]
   exact plD_at_rev x z r hn.2 k h
  ·have hkl := (List.getElem?_eq_some_iff.1 h).1
   rw [List.length_append, List.length_singleton] at hkl
   obtain rfl : k = r.reverse.length := by omega
   rw [List.getElem?_append_right n!] at h
   simp at h
   subst h
   exact Maps.atKey_put_same (by have := plD_map r; exact this) (key_int _) _ _
theorem plD_at {l : List Int} (hn : l.Nodup) {k : Nat} {x : Int} (h : l[k]? = some x) (z : DataW Unit) : (plD l).atKey (.int .i64 x) z = .lit (.int .i64 (k : Nat)) := by
 have := plD_at_rev x z l.reverse ((List.Perm.nodup_iff (List.reverse_perm l)).2 hn) k (by rwa [List.reverse_reverse])
 rwa [List.reverse_reverse] at this
def MpIs (w : World) (v : Value) (l : List Int) : Prop := ∃ b, v = .map (some b) ∧ w.ownsMap Tryz.prog 3 (plainElem Tryz.prog 3) b l.length (plD l)
theorem ownsMap_below {w w' : World} {b n : Nat} {D : DataW Unit} (h : w.ownsMap Tryz.prog 3 (plainElem Tryz.prog 3) b n D) (hb : Below w.heap.size w w') : w'.ownsMap Tryz.prog 3 (plainElem Tryz.prog 3) b n D := by
 have hl := h.lt
 obtain ⟨es, clock, h1, h2⟩ := h
 exact ⟨es, clock, (hb.block b hl).trans h1, h2⟩
theorem MpIs.below {w w' : World} {v : Value} {l : List Int} (h : MpIs w v l) (hb : Below w.heap.size w w') : MpIs w' v l := by
 obtain ⟨b, e, h1⟩ := h
 exact ⟨b, e, ownsMap_below h1 hb⟩
theorem lawI : Keyed Tryz.prog 3 := int_keyed Tryz.underlying3
theorem zeroI (w : World) : (zeroValue 3).run Tryz.prog w = .ok (.int .i64 0) w := by kernel_rfl
theorem wfI {x : Int} (h : i64In x) : (Lit.int .i64 x).wf = true := WalkArith.wf_i64 h
theorem makeMap_n (n : Int) (w : World) : (Instr.makeMap 72 (some (.int .i64 n))).run Tryz.prog w = .ok (.map (some w.heap.size)) (w.alloc (.map #[] 0)) := by
 simp [Instr.makeMap, run_underlying Tryz.underlying72, asInt, Result.andThen]
 try rfl
structure PlI (w : World) (b : Nat) (l : List Int) (k : Nat) (wr : World) : Prop where
 bl : Below w.heap.size w wr
 bb : w.heap.size ≤ b
 ow : wr.ownsMap Tryz.prog 3 (plainElem Tryz.prog 3) b k (plD (l.take k))
theorem PlI.below {w wr w' : World} {b k : Nat} {l : List Int} (h : PlI w b l k wr) (hb : Below wr.heap.size wr w') : PlI w b l k w' := ⟨bmore h.bl hb n!, h.bb, ownsMap_below h.ow hb⟩
theorem PlI.next {w wr w' : World} {b k : Nat} {l : List Int} {x : Int} (h : PlI w b l k wr) (hx : l[k]? = some x) (h1 : w'.ownsMap Tryz.prog 3 (plainElem Tryz.prog 3) b (k + 1) ((plD (l.take k)).put (.int .i64 x) (.lit (.int .i64 (k : Nat))))) (hg : wr.grownBy w' (some b)) : PlI w b l (k + 1) w' := by
 refine ⟨h.bl.grown hg h.bl.size (fun j hj => by injection hj with hj; rw [← hj]; exact h.bb), h.bb, ?_⟩
 have hk := (List.getElem?_eq_some_iff.1 hx).1
 rw [List.take_add_one, hx]
 show w'.ownsMap _ _ _ _ _ (plD (l.take k ++ [x]))
 rw [plD_snoc, List.length_take, Nat.min_eq_left (by omega)]
 exact h1
end KP
namespace KP
open Go.RowKit CP TP
open CM (Mg Cm)
open TM (Sp)
open KM (Wt Sk)
theorem rsameStamps_any (A B : Option Addr) (n m ca cb : Nat) (x y : List Sp) (w : World) (h1 : SpsIs w A n ca x) (h2 : SpsIs w B m cb y) :
  Calls Tryz.prog 23 #[.slice A n ca, .slice B m cb] w (IsB (decide (x = y)) w) := by
 obtain ⟨r, hr⟩ : ∃ r, r = decide (x = y) := ⟨_, rfl⟩
 rw [← hr]
 have HR := h! hr
 have hn := h1.small
 have hm := h2.small
 have HX := h! h1.2.1
 have HY := h! h2.2.1
 have H1 := h! h1
 have H2 := h! h2
 clear h1 h2 hr
 by_cases hnm : n = m
 rotate_left
 ·have HF := h! (show r = false by rw [HR.out]; exact decide_eq_false (fun e => hnm (by have := HX.out; have := HY.out; rw [e] at *; omega)))
  have hb : ((n : Int) != (m : Int)) = true := by simp; omega
  clear hnm
  go_enter Tryz.func23, Tryz.ntmps23
  go_wp2_with fail
  go_ret
  exact ⟨by rw [HF.out]; rfl, Below.refl _ _⟩
 subst hnm
 have hne : ((n : Int) != (n : Int)) = false := by simp
 go_enter Tryz.func23, Tryz.ntmps23
 go_wp2_with fail
 go_loopw [5] (fun i wr => ∃ k : Nat, k ≤ n ∧ i = .int .i64 k ∧ Below w.heap.size w wr ∧ Hid (x.take k = y.take k)) (fun i _ => n - (intOf i).toNat)
 case atStart => exact ⟨0, by omega, rfl, Below.refl _ _, h! rfl⟩
 case round =>
  obtain ⟨k, hk, rfl, hB, HT⟩ := hrel
  have HB := h! hB
  clear hB
  by_cases hlt : k < n
  ·obtain ⟨a, ha⟩ : ∃ a, x[k]? = some a := ⟨_, List.getElem?_eq_getElem (by have := HX.out; omega)⟩
   obtain ⟨b, hb⟩ : ∃ b, y[k]? = some b := ⟨_, List.getElem?_eq_getElem (by have := HY.out; omega)⟩
   have HA := h! ha
   have HBb := h! hb
   obtain ⟨b1, o1, rfl, _, _, x0, x1⟩ := (H1.out.below HB.out).at_ ha
   obtain ⟨b2, o2, rfl, _, _, y0, y1⟩ := (H2.out.below HB.out).at_ hb
   clear ha hb
   have hk0 : (0 : Int) ≤ (k : Int) := by omega
   have hkn : (k : Int) < (n : Int) := by omega
   by_cases hab : a = b
   ·subst hab
    have HN := h! (take_more HT.out HA.out HBb.out)
    obtain ⟨at_, ai⟩ := a
    simp only at x0 x1 y0 y1
    go_wp2_with fail
    go_region
    have HB2 := h! (below_drewN HB.out 1)
    go_wp2_with fail
    go_roundw
    case rel => exact ⟨k + 1, by omega, by go_num, HB2.out, HN⟩
    case measure => simp [intOf]; omega
   ·have HF := h! (show r = false by rw [HR.out]; exact decide_eq_false (ne_at HA.out HBb.out hab))
    have hc : (a.t == b.t) = false ∨ ((a.t == b.t) = true ∧ (a.i == b.i) = false) := by
     by_cases e : a.t = b.t
     ·right
      refine ⟨by simpa using e, ?_⟩
      have : a.i ≠ b.i := fun e2 => hab (by obtain ⟨p, q⟩ := a; obtain ⟨p', q'⟩ := b; simp only at e e2; rw [e, e2])
      simpa using this
     ·left; simpa using e
    clear hab HA HBb
    obtain ⟨at_, ai⟩ := a
    obtain ⟨bt, bi⟩ := b
    simp only at x0 x1 y0 y1 hc
    rcases hc with c1 | ⟨c1, c2⟩
    all_goals
     go_wp2_with fail
     go_region
     have HB2 := h! (below_drewN HB.out 1)
     go_wp2_with fail
     go_ret
     exact ⟨by rw [HF.out]; rfl, HB2.out⟩
  ·have HF := h! (show r = true by
    rw [HR.out]
    exact decide_eq_true (take_all HT.out (by have := HX.out; omega) (by have := HY.out; omega)))
   go_wp2_with fail
   go_ret
   exact ⟨by rw [HF.out]; rfl, HB.out⟩
end KP
namespace KP
open Go.RowKit CP TP
section
variable {α : Type} {K : Kd α}
theorem KO.slice {w : World} {b : Nat} {T : TypeId} {A : Option Addr} {n c : Nat} {l : List α} (h : KO K w b T (.slice A n c) l) : n = l.length ∧ n ≤ c ∧ c ≤ maxLen ∧ KG K w b A n c l := by
 obtain ⟨A', c', e, hg⟩ := h.g
 injection e with e1 e2 e3
 subst e1 e2 e3
 have := hg.r.le
 exact ⟨rfl, this.1, this.2, hg⟩
theorem KO.blk {w : World} {b : Nat} {T : TypeId} {v : Value} {l : List α} (h : KO K w b T v l) {g : Nat} (hg : v.ownBlock = some g) : b ≤ g ∧ g < w.heap.size := by
 obtain ⟨es, _, h2, _⟩ := h
 obtain ⟨h3, cur, hc⟩ := own_block h2 hg
 exact ⟨h3, hc.lt⟩
theorem wpList_append_ko {P : Program} {ops : Array Oper} {rest : List Oper} {o : Oper} {a : Act} {Q : Exit → Act → World → Prop} {w0 : World} {b : Nat} {T : TypeId} {A9 : Option Addr} {n9 c9 : Nat} {l : List α} {x : α} {A : Option Addr} {c : Nat}
  (hgd : o.guard = none) (so xo : Operand) (t : TypeId) (ho : o.op = .call { callee := .builtin .append, args := #[so, xo], argTypes := #[t, t] })
  (T' : TypeId) (i : TypeInfo) (z : Value) (bytes : Nat) (ht : P.underlying t = some (.slice T)) (hi : P.info? T = some i) (hz : i.zero = some z) (hsize : i.size = K.s) (hby : i.bytes = bytes) (hzs : z.cells.size = K.s)
  (hs : a.eval so = .slice A9 n9 c9) (hko : KO K w0 b T (.slice A9 n9 c9) l) (hx : a.eval xo = .slice (some ⟨w0.heap.size, 0, none⟩) 1 1) (cs : Array Value) (hcs : cs.toList = K.cel A c x)
  (hrow : RowGe w0 b A c (K.gs x)) (hne : ∀ ad, A = some ad → 0 < (K.gs x).length → (Value.slice A9 n9 c9).ownBlock ≠ some ad.block) (h63 : n9 + 1 ≤ maxLen) (hbytes : (n9 + 1) * bytes ≤ 140737488355328) (hb : b ≤ w0.heap.size)
  (h : ∀ A' c' w', KO K w' b T (.slice A' (n9 + 1) c') (l ++ [x]) → (w0.alloc (.cells cs T')).grownBy w' (Value.slice A9 n9 c9).ownBlock →
   ((Value.slice A' (n9 + 1) c').ownBlock = (Value.slice A9 n9 c9).ownBlock ∨ (Value.slice A' (n9 + 1) c').ownBlock = some (w0.alloc (.cells cs T')).heap.size) → wpList P ops Q rest (a.put o.dst (.slice A' (n9 + 1) c')) w') :
  wpList P ops Q (o :: rest) a (w0.alloc (.cells cs T')) := by
 have hb0 : Below w0.heap.size w0 (w0.alloc (.cells cs T')) := b!
 obtain ⟨es, hl, ho1, hr⟩ := hko
 have hn : n9 = es.length := by
  obtain ⟨A', c', e, _⟩ := own_form ho1
  injection e
 rw [← hn] at ho1
 refine wpList_append_g _ hgd so xo t ho b T i z K.s bytes ht hi hz hsize hby hzs K.pos (.slice A9 n9 c9) n9 (flat (exc K) es) hs (own_below3 ho1 hb0) (some ⟨w0.heap.size, 0, none⟩) 1 1 (K.cel A c x) hx
  (rdG_box (s := K.s) (n := 1) (Box.new w0 T' cs) hcs (by rw [K.len]; omega)) (K.one _ _ _) h63 hbytes (Nat.le_trans hb hb0.size) ?_
 intro v' w' hown hgr hob
 obtain ⟨A', c', rfl, _, _⟩ := own_form hown
 refine h A' c' w' (kO_next (K := K) (w := w0.alloc (.cells cs T')) es hl (fun e he => ⟨(hr e he).1.below hb0, (hr e he).2⟩) (hrow.below hb0) hne hgr (by rw [← hn]; exact hown) hob) hgr hob
end
theorem filter_take {α : Type} {l : List α} {k : Nat} {x : α} {p : α → Bool} (h : l[k]? = some x) : (l.take (k + 1)).filter p = (l.take k).filter p ++ (if p x then [x] else []) := by
 rw [List.take_add_one, h, List.filter_append]
 congr 1
 simp [List.filter_cons]
theorem erase_take {α : Type} {l : List α} {k j : Nat} {x : α} (h : l[k]? = some x) : (l.take (k + 1)).eraseIdx j = if k = j then (l.take k).eraseIdx j else (l.take k).eraseIdx j ++ [x] := by
 have hkl := (List.getElem?_eq_some_iff.1 h).1
 have hlen : (l.take k).length = k := by rw [List.length_take]; omega
 rw [List.take_add_one, h]
 show (l.take k ++ [x]).eraseIdx j = _
 split
 ·rename_i e
  subst e
  rw [List.eraseIdx_append_of_length_le (by omega), hlen]
  simp
  rw [List.eraseIdx_of_length_le (by omega)]
 ·rename_i hne
  rcases Nat.lt_or_ge j k with hj | hj
  ·rw [List.eraseIdx_append_of_lt_length (by omega)]
  ·rw [List.eraseIdx_of_length_le (by rw [List.length_append, hlen]; simp; omega), List.eraseIdx_of_length_le (by omega)]
end KP
namespace KP
open Go.RowKit CP TP
open Go.Maps (Keyed IsMap Tidy int_keyed keyOf_int_mk)
open CM (Mg Cm)
open TM (Sp)
open KM (Wt Sk)
theorem ptid_any (i : Int) (A : Option Addr) (m c : Nat) (tp : Int) (key body : ByteArray) (t : Int) (f : Bool) (w : World) : Calls Tryz.prog 61 #[.agg #[.int .i64 i, .slice A m c, .int .i64 tp, .string key, .string body, .int .i64 t, .bool f]] w fun e w' => e = .returned (.int .i64 i) ∧ Below w.heap.size w w' := by
 have HB := h! (show Below w.heap.size w (w.alloc (.cells #[.int .i64 i, .slice A m c, .int .i64 tp, .string key, .string body, .int .i64 t, .bool f] 78)) from (Below.refl _ _).alloc n! _)
 have Y := h! (Box.new w 78 #[.int .i64 i, .slice A m c, .int .i64 tp, .string key, .string body, .int .i64 t, .bool f])
 go_enter Tryz.func61, Tryz.ntmps61
 go_upto_region 1 with (fail)
 generalize w.alloc (.cells #[.int .i64 i, .slice A m c, .int .i64 tp, .string key, .string body, .int .i64 t, .bool f] 78) = w1 at HB Y ⊢
 have y0 := Y.out.cell 0
 simp at y0
 go_wp2_with fail
 go_ret
 exact ⟨rfl, HB.out⟩
theorem pplW_any (A : Option Addr) (n c : Nat) (l : List Wt) (w : World) (h : KR KW w A n c l) (hn : n ≤ 4096) (hi : ∀ x ∈ l, i64In x.m.id) :
  Calls Tryz.prog 60 #[.slice A n c, .func (.func 61) #[] #[]] w fun e w' => ∃ v, e = .returned v ∧ MpIs w' v (l.map fun x => x.m.id) ∧ Below w.heap.size w w' := by
 have hmm := makeMap_n
 have HL := h! (show l.length = n from h.len)
 have H := h! h
 have HI := h! hi
 obtain ⟨b, hb⟩ : ∃ b, w.heap.size = b := ⟨_, rfl⟩
 obtain ⟨W1, hW1⟩ : ∃ W1, W1 = w.alloc (.map #[] 0) := ⟨_, rfl⟩
 have HP := h! (show PlI w b (l.map fun x => x.m.id) 0 W1 from by
  refine ⟨by rw [hW1]; exact (Below.refl _ _).alloc n! _, by omega, ?_⟩
  rw [hW1, ← hb]
  exact World.ownsMap_made _ _ _ _)
 clear h hi
 go_enter Tryz.func60, Tryz.ntmps60
 go_upto_region 2 with (fail)
 rw [← hW1]
 clear hW1 hmm
 try simp only [hb]
 clear hb
 go_wp2_with fail
 go_loopw [13] (fun i wr => ∃ k : Nat, k ≤ n ∧ i = .int .i64 k ∧ Hid (PlI w b (l.map fun x => x.m.id) k wr)) (fun i _ => n - (intOf i).toNat)
 case atStart => exact ⟨0, by omega, rfl, HP⟩
 case round =>
  clear HP
  obtain ⟨k, hk, rfl, HP⟩ := hrel
  by_cases hlt : k < n
  ·obtain ⟨a, ha⟩ : ∃ a, l[k]? = some a := ⟨_, List.getElem?_eq_getElem (by have := HL.out; omega)⟩
   have HA := h! (show (l.map fun x => x.m.id)[k]? = some a.m.id by rw [List.getElem?_map, ha]; rfl)
   have HF := h! (HI.out a (List.mem_of_getElem? ha))
   obtain ⟨bl, o, B, d, rfl, _, _, x0, x1, x2, x3, x4, x5, x6, _⟩ := (show ∃ bl o B d, A = some ⟨bl, o, none⟩ ∧ k < n ∧ bl < wr.heap.size ∧ wr.cell? ⟨bl, o + k * 7, none⟩ = some (.int .i64 a.m.id) ∧ wr.cell? ⟨bl, o + k * 7 + 1, none⟩ = some (.slice B a.m.gs.length d) ∧ wr.cell? ⟨bl, o + k * 7 + 2, none⟩ = some (.int .i64 a.m.tp) ∧ wr.cell? ⟨bl, o + k * 7 + 3, none⟩ = some (.string a.m.key) ∧ wr.cell? ⟨bl, o + k * 7 + 4, none⟩ = some (.string a.m.body) ∧ wr.cell? ⟨bl, o + k * 7 + 5, none⟩ = some (.int .i64 a.t) ∧ wr.cell? ⟨bl, o + k * 7 + 6, none⟩ = some (.bool a.f) ∧ True from by
    obtain ⟨bl, o, B, d, h1, h2, h3, ⟨q0, q1, q2, q3, q4, q5, q6⟩, _⟩ := wts_at (H.out.below HP.out.bl) ha
    exact ⟨bl, o, B, d, h1, h2, h3, q0, q1, q2, q3, q4, q5, q6, trivial⟩)
   clear ha
   have hk0 : (0 : Int) ≤ (k : Int) := by omega
   have hkn : (k : Int) < (n : Int) := by omega
   have hk63 : (Lit.int .i64 (k : Nat)).wf = true := wfI (by unfold i64In; omega)
   have HB := h! (show Below wr.heap.size wr (wr.alloc (.cells #[.int .i64 a.m.id, .slice B a.m.gs.length d, .int .i64 a.m.tp, .string a.m.key, .string a.m.body, .int .i64 a.t, .bool a.f] 78)) from (Below.refl _ _).alloc n! _)
   have Y := h! (Box.new wr 78 #[.int .i64 a.m.id, .slice B a.m.gs.length d, .int .i64 a.m.tp, .string a.m.key, .string a.m.body, .int .i64 a.t, .bool a.f])
   go_upto_region 5 with (fail)
   generalize wr.alloc (.cells #[.int .i64 a.m.id, .slice B a.m.gs.length d, .int .i64 a.m.tp, .string a.m.key, .string a.m.body, .int .i64 a.t, .bool a.f] 78) = w3 at HB Y ⊢
   generalize wr.heap.size = g3 at Y ⊢
   obtain ⟨y0, y1, y2, y3, y4, y5, y6⟩ := box_wt Y.out
   go_wp2_with fail
   refine (ptid_any _ _ _ _ _ _ _ _ _ w3).mono ?_
   rintro e w4 ⟨rfl, hb4⟩
   have HP4 := h! (HP.out.below (bmore HB.out hb4 n!))
   clear hb4 x0 x1 x2 x3 x4 x5 x6 y0 y1 y2 y3 y4 y5 y6
   go_wp2_with (at_mapUpdate; refine wpList_mapUpdate_own _ rfl _ _ _ 72 rfl 3 3 lawI Tryz.underlying72 _ b k _ rfl HP4.out.ow (by unfold maxLen; omega) _ _ _ rfl rfl (keyOf_int_mk Tryz.underlying3 (wfI HF.out)) _ [] (plainElem_int Tryz.underlying3 hk63) ?_; intro w5 hown5 hg5; have HP5 := h! (HP4.out.next HA.out hown5 hg5); clear hown5 hg5)
   go_roundw
   case rel => exact ⟨k + 1, by omega, by go_num, HP5⟩
   case measure => simp [intOf]; omega
  ·obtain rfl : n = k := by omega
   have HE := h! (show MpIs wr (.map (some b)) (l.map fun x => x.m.id) from ⟨b, rfl, by have h1 := HP.out.ow; rw [List.take_of_length_le (by rw [List.length_map]; have := HL.out; omega)] at h1; rw [List.length_map, HL.out]; exact h1⟩)
   go_wp2_with fail
   go_ret
   exact ⟨_, rfl, HE.out, HP.out.bl⟩
theorem pcid_any (t i : Int) (w : World) : Calls Tryz.prog 73 #[.agg #[.int .i64 t, .int .i64 i]] w fun e w' => e = .returned (.int .i64 i) ∧ Below w.heap.size w w' := by
 have HB := h! (show Below w.heap.size w (w.alloc (.cells #[.int .i64 t, .int .i64 i] 46)) from (Below.refl _ _).alloc n! _)
 have Y := h! (Box.new w 46 #[.int .i64 t, .int .i64 i])
 go_enter Tryz.func73, Tryz.ntmps73
 go_upto_region 1 with (fail)
 generalize w.alloc (.cells #[.int .i64 t, .int .i64 i] 46) = w1 at HB Y ⊢
 have y0 := Y.out.cell 1
 simp at y0
 go_wp2_with fail
 go_ret
 exact ⟨rfl, HB.out⟩
theorem pplS_any (A : Option Addr) (n c : Nat) (l : List Sp) (w : World) (h : SpsIs w A n c l) (hn : n ≤ 4096) (hi : ∀ x ∈ l, i64In x.i) :
  Calls Tryz.prog 72 #[.slice A n c, .func (.func 73) #[] #[]] w fun e w' => ∃ v, e = .returned v ∧ MpIs w' v (l.map fun x => x.i) ∧ Below w.heap.size w w' := by
 have hmm := makeMap_n
 have HL := h! (show l.length = n from h.2.1)
 have H := h! h
 have HI := h! hi
 obtain ⟨b, hb⟩ : ∃ b, w.heap.size = b := ⟨_, rfl⟩
 obtain ⟨W1, hW1⟩ : ∃ W1, W1 = w.alloc (.map #[] 0) := ⟨_, rfl⟩
 have HP := h! (show PlI w b (l.map fun x => x.i) 0 W1 from by
  refine ⟨by rw [hW1]; exact (Below.refl _ _).alloc n! _, by omega, ?_⟩
  rw [hW1, ← hb]
  exact World.ownsMap_made _ _ _ _)
 clear h hi
 go_enter Tryz.func72, Tryz.ntmps72
 go_upto_region 2 with (fail)
 rw [← hW1]
 clear hW1 hmm
 try simp only [hb]
 clear hb
 go_wp2_with fail
 go_loopw [13] (fun i wr => ∃ k : Nat, k ≤ n ∧ i = .int .i64 k ∧ Hid (PlI w b (l.map fun x => x.i) k wr)) (fun i _ => n - (intOf i).toNat)
 case atStart => exact ⟨0, by omega, rfl, HP⟩
 case round =>
  clear HP
  obtain ⟨k, hk, rfl, HP⟩ := hrel
  by_cases hlt : k < n
  ·obtain ⟨a, ha⟩ : ∃ a, l[k]? = some a := ⟨_, List.getElem?_eq_getElem (by have := HL.out; omega)⟩
   have HA := h! (show (l.map fun x => x.i)[k]? = some a.i by rw [List.getElem?_map, ha]; rfl)
   have HF := h! (HI.out a (List.mem_of_getElem? ha))
   obtain ⟨bl, o, rfl, _, _, x0, x1⟩ := (H.out.below HP.out.bl).at_ ha
   clear ha
   have hk0 : (0 : Int) ≤ (k : Int) := by omega
   have hkn : (k : Int) < (n : Int) := by omega
   have hk63 : (Lit.int .i64 (k : Nat)).wf = true := wfI (by unfold i64In; omega)
   have HB := h! (show Below wr.heap.size wr (wr.alloc (.cells #[.int .i64 a.t, .int .i64 a.i] 46)) from (Below.refl _ _).alloc n! _)
   have Y := h! (Box.new wr 46 #[.int .i64 a.t, .int .i64 a.i])
   go_upto_region 5 with (fail)
   generalize wr.alloc (.cells #[.int .i64 a.t, .int .i64 a.i] 46) = w3 at HB Y ⊢
   generalize wr.heap.size = g3 at Y ⊢
   have y0 := Y.out.cell 0
   have y1 := Y.out.cell 1
   simp at y0 y1
   go_wp2_with fail
   refine (pcid_any _ _ w3).mono ?_
   rintro e w4 ⟨rfl, hb4⟩
   have HP4 := h! (HP.out.below (bmore HB.out hb4 n!))
   clear hb4 x0 x1 y0 y1
   go_wp2_with (at_mapUpdate; refine wpList_mapUpdate_own _ rfl _ _ _ 72 rfl 3 3 lawI Tryz.underlying72 _ b k _ rfl HP4.out.ow (by unfold maxLen; omega) _ _ _ rfl rfl (keyOf_int_mk Tryz.underlying3 (wfI HF.out)) _ [] (plainElem_int Tryz.underlying3 hk63) ?_; intro w5 hown5 hg5; have HP5 := h! (HP4.out.next HA.out hown5 hg5); clear hown5 hg5)
   go_roundw
   case rel => exact ⟨k + 1, by omega, by go_num, HP5⟩
   case measure => simp [intOf]; omega
  ·obtain rfl : n = k := by omega
   have HE := h! (show MpIs wr (.map (some b)) (l.map fun x => x.i) from ⟨b, rfl, by have h1 := HP.out.ow; rw [List.take_of_length_le (by rw [List.length_map]; have := HL.out; omega)] at h1; rw [List.length_map, HL.out]; exact h1⟩)
   go_wp2_with fail
   go_ret
   exact ⟨_, rfl, HE.out, HP.out.bl⟩
end KP
end Go.Proofs.YteebeiaokfenmaaGreat
