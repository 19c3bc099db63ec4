/-
  What the document's own With of layer 11 answers (towncrierref11): a new row of votes. Conditions: at most 2,000 votes; the vote is zero, or promised something.
-/
import Derived.Test.YtohiemdodffhoaaStA
import Derived.Deep.RegionHeld3
namespace Go.Proofs.Ytohiemdodffhoaa.SP
open Go.RowKit
open SM (Sn Sb Vo)
set_option linter.unusedVariables false
set_option linter.unusedSimpArgs false
set_option maxRecDepth 100000

theorem info_seen : (Try.prog.info? 75).map (fun i => (i.zero, i.size, i.bytes)) = some (some (.agg #[.int .i64 0, .int .i64 0, .int .i64 0, .int .i64 0, .string ⟨#[]⟩]), 5, 48) := by kernel_rfl
set_option maxHeartbeats 8000000 in
theorem rwith_any (B : Option Addr) (m d : Nat) (l : List Sn) (x : Sn) (w : World) (h : VotesIs w B m d l) (hm2 : m ≤ 2000) (hxo : x.o = SM.vz ∨ x.o.p ≠ 0) :
    Calls Try.prog 43 #[.slice B m d, .agg #[.int .i64 x.g, .int .i64 x.s, .int .i64 x.o.p, .int .i64 x.o.b, .string x.o.v]] w fun e w' =>
      ∃ v, e = .returned v ∧ w'.ownsRow w.heap.size 75 5 v (SM.put l x).length (flat sncell (SM.put l x)) ∧ Below w.heap.size w w' := by
  obtain ⟨h1, hl, hmd, hm, hf⟩ := h
  obtain ⟨i0, hi, hz0, hz1, hz2⟩ := info_parts info_seen
  unfold maxLen at hm
  have HL := Lib.hid hl
  have hb : Below w.heap.size w (w.alloc (.cells #[.int .i64 x.g, .int .i64 x.s, .int .i64 x.o.p, .int .i64 x.o.b, .string x.o.v] 75)) := (Below.refl _ _).alloc (Nat.le_refl _) _
  have HB := Lib.hid hb
  have X := Lib.hid (Box.new w 75 #[.int .i64 x.g, .int .i64 x.s, .int .i64 x.o.p, .int .i64 x.o.b, .string x.o.v])
  have H1 := Lib.hid (h1.below hb)
  have HF := Lib.hid hf
  have HBS := Lib.hid (show (w.alloc (.cells #[.int .i64 x.g, .int .i64 x.s, .int .i64 x.o.p, .int .i64 x.o.b, .string x.o.v] 75)).heap.size = w.heap.size + 1 by simp)
  clear h1 hl hb hf
  obtain ⟨base, hbase⟩ : ∃ base, w.heap.size + 1 = base := ⟨_, rfl⟩
  rw [hbase] at HBS
  have HX := Lib.hid hxo
  clear hxo
  go_enter Try.func43, Try.ntmps43
  go_upto_region 1 with (fail)
  generalize w.alloc (.cells #[.int .i64 x.g, .int .i64 x.s, .int .i64 x.o.p, .int .i64 x.o.b, .string x.o.v] 75) = w1 at HB X H1 HBS ⊢
  obtain ⟨g, hg⟩ : ∃ g, w.heap.size = g := ⟨_, rfl⟩
  rw [hg] at X
  have hgb : g < base := by omega
  simp only [hg]
  have HG := Lib.hid hg
  clear hg
  go_wp2_with fail
  go_loopw [5, 6] (fun u i wr => ∃ (k : Nat) (u0 : Value), k ≤ m ∧ i = .int .i64 k ∧ u0 = u ∧ wr.ownsRow base 75 5 u ((l.take k).filter (fun y => SM.lt y x)).length (flat sncell ((l.take k).filter (fun y => SM.lt y x))) ∧ Hid (Below base w1 wr)) (fun _ i _ => m - (intOf i).toNat)
  case atStart => exact ⟨0, _, Nat.zero_le _, rfl, rfl, World.ownsRow_nil _ _ _ _, Lib.hid (Below.refl _ _)⟩
  case round =>
    obtain ⟨k, uk, hk, rfl, rfl, hown, HWk⟩ := hrel
    have hbz : base ≤ wr.heap.size := by have := HWk.out.size; have := HBS.out; omega
    have h2 : ((l.take k).filter (fun y => SM.lt y x)).length ≤ k := Nat.le_trans (List.length_filter_le _ _) (by rw [List.length_take]; omega)
    have HF2 := Lib.hid (show ((l.take k).filter (fun y => SM.lt y x)).length ≤ 2 * m + 1 by omega)
    clear h2
    by_cases hlt : k < m
    · obtain ⟨bl, oo, rfl⟩ := HF.out (by omega)
      obtain ⟨y, hy⟩ : ∃ y, l[k]? = some y := ⟨_, List.getElem?_eq_getElem (by have := HL.out; omega)⟩
      have hr2 := H1.out.below (by rw [HBS.out]; exact HWk.out)
      have hx2 := X.out.below HWk.out (by omega)
      have HSS := Lib.hid (show ∀ w', Below wr.heap.size wr w' → (w'.cell? ⟨bl, oo + k * 5, none⟩ = some (.int .i64 y.g) ∧ w'.cell? ⟨bl, oo + k * 5 + 1, none⟩ = some (.int .i64 y.s) ∧ w'.cell? ⟨bl, oo + k * 5 + 2, none⟩ = some (.int .i64 y.o.p) ∧ w'.cell? ⟨bl, oo + k * 5 + 3, none⟩ = some (.int .i64 y.o.b) ∧ w'.cell? ⟨bl, oo + k * 5 + 4, none⟩ = some (.string y.o.v)) ∧ (w'.cell? ⟨g, 0, none⟩ = some (.int .i64 x.g) ∧ w'.cell? ⟨g, 1, none⟩ = some (.int .i64 x.s) ∧ w'.cell? ⟨g, 2, none⟩ = some (.int .i64 x.o.p) ∧ w'.cell? ⟨g, 3, none⟩ = some (.int .i64 x.o.b) ∧ w'.cell? ⟨g, 4, none⟩ = some (.string x.o.v)) from fun w' h => ⟨rdg_sn (hr2.below h) hy, (hx2.below h hx2.lt).cell 0, (hx2.below h hx2.lt).cell 1, (hx2.below h hx2.lt).cell 2, (hx2.below h hx2.lt).cell 3, (hx2.below h hx2.lt).cell 4⟩)
      have HY := Lib.hid hy
      clear hr2 hx2 hy
      have bb1 : Below wr.heap.size wr wr.drew := (Below.refl _ _).drew
      obtain ⟨⟨_, _, _, _, _⟩, ⟨_, _, _, _, _⟩⟩ := HSS.out wr (Below.refl _ _)
      have hk0 : (0 : Int) ≤ (k : Int) := by omega
      have hkm : (k : Int) < (m : Int) := by omega
      obtain ⟨b, hbv⟩ : ∃ b, b = SM.lt y x := ⟨_, rfl⟩
      have C := Lib.hid (fun w => rahead_any y x w)
      rw [← hbv] at C
      have HOW := Lib.hid hown
      clear hown
      cases b
      · have HN := Lib.hid (show (l.take (k + 1)).filter (fun y => SM.lt y x) = (l.take k).filter (fun y => SM.lt y x) by
          rw [List.take_add_one, HY.out, List.filter_append]
          simp [← hbv])
        clear hbv
        go_wp2_with fail
        go_region_held3 (fun w' => (w'.cell? ⟨bl, oo + k * 5, none⟩ = some (.int .i64 y.g) ∧ w'.cell? ⟨bl, oo + k * 5 + 1, none⟩ = some (.int .i64 y.s) ∧ w'.cell? ⟨bl, oo + k * 5 + 2, none⟩ = some (.int .i64 y.o.p) ∧ w'.cell? ⟨bl, oo + k * 5 + 3, none⟩ = some (.int .i64 y.o.b) ∧ w'.cell? ⟨bl, oo + k * 5 + 4, none⟩ = some (.string y.o.v)) ∧ (w'.cell? ⟨g, 0, none⟩ = some (.int .i64 x.g) ∧ w'.cell? ⟨g, 1, none⟩ = some (.int .i64 x.s) ∧ w'.cell? ⟨g, 2, none⟩ = some (.int .i64 x.o.p) ∧ w'.cell? ⟨g, 3, none⟩ = some (.int .i64 x.o.b) ∧ w'.cell? ⟨g, 4, none⟩ = some (.string x.o.v)))
          (first | exact HSS.out _ bb2 | exact HSS.out _ bb1 | go_keep)
          (first | (go_at_call 54; ((with_reducible refine (C.out _).mono ?_); rintro e wa1 ⟨rfl, ha1⟩; have bb2 : Below wr.heap.size wr wa1 := bb1.trans (ha1.mono bb1.size))))
        all_goals
          go_wp2_with fail
          go_roundw
          case rel => exact ⟨k + 1, _, by omega, by go_num, rfl, by rw [HN.out]; exact own_below3 HOW.out bb2, Lib.hid (HWk.out.trans (bb2.mono hbz))⟩
          case measure => simp [intOf]; omega
      · have HN := Lib.hid (show (l.take (k + 1)).filter (fun y => SM.lt y x) = (l.take k).filter (fun y => SM.lt y x) ++ [y] by
          rw [List.take_add_one, HY.out, List.filter_append]
          simp [← hbv])
        clear hbv
        go_wp2_with fail
        go_region_held3 (fun w' => (w'.cell? ⟨bl, oo + k * 5, none⟩ = some (.int .i64 y.g) ∧ w'.cell? ⟨bl, oo + k * 5 + 1, none⟩ = some (.int .i64 y.s) ∧ w'.cell? ⟨bl, oo + k * 5 + 2, none⟩ = some (.int .i64 y.o.p) ∧ w'.cell? ⟨bl, oo + k * 5 + 3, none⟩ = some (.int .i64 y.o.b) ∧ w'.cell? ⟨bl, oo + k * 5 + 4, none⟩ = some (.string y.o.v)) ∧ (w'.cell? ⟨g, 0, none⟩ = some (.int .i64 x.g) ∧ w'.cell? ⟨g, 1, none⟩ = some (.int .i64 x.s) ∧ w'.cell? ⟨g, 2, none⟩ = some (.int .i64 x.o.p) ∧ w'.cell? ⟨g, 3, none⟩ = some (.int .i64 x.o.b) ∧ w'.cell? ⟨g, 4, none⟩ = some (.string x.o.v)))
          (first | exact HSS.out _ bb2 | exact HSS.out _ bb1 | go_keep)
          (first | (go_at_call 54; ((with_reducible refine (C.out _).mono ?_); rintro e wa1 ⟨rfl, ha1⟩; have bb2 : Below wr.heap.size wr wa1 := bb1.trans (ha1.mono bb1.size); have hbz2 : base ≤ wa1.heap.size := Nat.le_trans hbz bb2.size; have how2 := own_below3 HOW.out bb2; obtain ⟨⟨_, _, _, _, _⟩, ⟨_, _, _, _, _⟩⟩ := HSS.out wa1 bb2)))
        all_goals
          go_wp2_with (at_builtin; refine wpList_append_g _ rfl _ _ 23 rfl base 75 i0 _ 5 48 Try.underlying23 hi hz0 hz1 hz2 rfl (by omega) uk _ _ rfl (own_below3 how2 ((Below.refl _ _).alloc (Nat.le_refl _) _)) (some ⟨wa1.heap.size, 0, none⟩) 1 1 (sncell y) rfl (rdG_box (Box.new _ 75 #[.int .i64 y.g, .int .i64 y.s, .int .i64 y.o.p, .int .i64 y.o.b, .string y.o.v]) rfl rfl) (sn_one _) (by unfold maxLen; have := HF2.out; omega) (by have := HF2.out; omega) (by simp; omega) ?_; intro v2 w2 hown2 hg2 hob2)
          have hbel := below_row (((HWk.out.trans (bb2.mono hbz))).alloc hbz2 (.cells #[.int .i64 y.g, .int .i64 y.s, .int .i64 y.o.p, .int .i64 y.o.b, .string y.o.v] 75)) (own_below3 how2 ((Below.refl _ _).alloc (Nat.le_refl _) _)) (by simp; omega) hg2
          go_roundw
          case rel => exact ⟨k + 1, _, by omega, by go_num, rfl, by rw [HN.out]; rw [List.length_append, flat_append, flat_one]; exact hown2, Lib.hid hbel⟩
          case measure => simp [intOf]; omega
    · have hkm : m = k := by omega
      subst hkm
      rw [List.take_of_length_le (by have := HL.out; omega)] at hown HF2
      have x2 := X.out.below HWk.out (by omega)
      have c0 := x2.cell 0
      have c1 := x2.cell 1
      have c2 := x2.cell 2
      have c3 := x2.cell 3
      have c4 := x2.cell 4
      simp at c0 c1 c2 c3 c4
      clear x2
      have HOW := Lib.hid hown
      clear hown
      rcases HX.out with hz | hz
      · have p2 : x.o.p = 0 := by rw [hz]; rfl
        have p3 : x.o.b = 0 := by rw [hz]; rfl
        have p4 : x.o.v = ⟨#[]⟩ := by rw [hz]; rfl
        rw [p2] at c2
        rw [p3] at c3
        rw [p4] at c4
        have HE := Lib.hid (show SM.put l x = l.filter (fun y => SM.lt y x) ++ l.filter (fun y => SM.lt x y) by unfold SM.put; rw [if_pos hz, List.nil_append])
        have HP := Lib.hid (show (l.filter (fun y => SM.lt y x)).length ≤ m + 1 by have := List.length_filter_le (fun y => SM.lt y x) l; have := HL.out; omega)
        generalize l.filter (fun y => SM.lt y x) = P at HE HP HOW
        clear hz p2 p3 p4 HF2
        go_wp2_with fail
        clear c0 c1 c2 c3 c4
        go_loopw [5, 7] (fun u i wr => ∃ (j : Nat) (u0 : Value), j ≤ m ∧ i = .int .i64 j ∧ u0 = u ∧ wr.ownsRow base 75 5 u (P ++ (l.take j).filter (fun y => SM.lt x y)).length (flat sncell (P ++ (l.take j).filter (fun y => SM.lt x y))) ∧ Hid (Below base w1 wr)) (fun _ i _ => m - (intOf i).toNat)
        case atStart => exact ⟨0, _, Nat.zero_le _, rfl, rfl, by have := HOW.out; simp only [List.take_zero, List.filter_nil, List.append_nil]; exact this, HWk⟩
        case round =>
          obtain ⟨j, uj, hj, rfl, rfl, hown, HWj⟩ := hrel
          have hbz : base ≤ wr.heap.size := by have := HWj.out.size; have := HBS.out; omega
          have h2 : ((l.take j).filter (fun y => SM.lt x y)).length ≤ j := Nat.le_trans (List.length_filter_le _ _) (by rw [List.length_take]; omega)
          have HF2 := Lib.hid (show (P ++ (l.take j).filter (fun y => SM.lt x y)).length ≤ 2 * m + 1 by rw [List.length_append]; have := HP.out; omega)
          clear h2
          by_cases hlt : j < m
          · obtain ⟨bl, oo, rfl⟩ := HF.out (by omega)
            obtain ⟨y, hy⟩ : ∃ y, l[j]? = some y := ⟨_, List.getElem?_eq_getElem (by have := HL.out; omega)⟩
            have hr2 := H1.out.below (by rw [HBS.out]; exact HWj.out)
            have hx2 := X.out.below HWj.out (by omega)
            have HSS := Lib.hid (show ∀ w', Below wr.heap.size wr w' → (w'.cell? ⟨bl, oo + j * 5, none⟩ = some (.int .i64 y.g) ∧ w'.cell? ⟨bl, oo + j * 5 + 1, none⟩ = some (.int .i64 y.s) ∧ w'.cell? ⟨bl, oo + j * 5 + 2, none⟩ = some (.int .i64 y.o.p) ∧ w'.cell? ⟨bl, oo + j * 5 + 3, none⟩ = some (.int .i64 y.o.b) ∧ w'.cell? ⟨bl, oo + j * 5 + 4, none⟩ = some (.string y.o.v)) ∧ (w'.cell? ⟨g, 0, none⟩ = some (.int .i64 x.g) ∧ w'.cell? ⟨g, 1, none⟩ = some (.int .i64 x.s) ∧ w'.cell? ⟨g, 2, none⟩ = some (.int .i64 x.o.p) ∧ w'.cell? ⟨g, 3, none⟩ = some (.int .i64 x.o.b) ∧ w'.cell? ⟨g, 4, none⟩ = some (.string x.o.v)) from fun w' h => ⟨rdg_sn (hr2.below h) hy, (hx2.below h hx2.lt).cell 0, (hx2.below h hx2.lt).cell 1, (hx2.below h hx2.lt).cell 2, (hx2.below h hx2.lt).cell 3, (hx2.below h hx2.lt).cell 4⟩)
            have HY := Lib.hid hy
            clear hr2 hx2 hy
            have bb1 : Below wr.heap.size wr wr.drew := (Below.refl _ _).drew
            obtain ⟨⟨_, _, _, _, _⟩, ⟨_, _, _, _, _⟩⟩ := HSS.out wr (Below.refl _ _)
            have hk0 : (0 : Int) ≤ (j : Int) := by omega
            have hkm : (j : Int) < (m : Int) := by omega
            obtain ⟨b, hbv⟩ : ∃ b, b = SM.lt x y := ⟨_, rfl⟩
            have C := Lib.hid (fun w => rahead_any x y w)
            rw [← hbv] at C
            have HOW := Lib.hid hown
            clear hown
            cases b
            · have HN := Lib.hid (show (l.take (j + 1)).filter (fun y => SM.lt x y) = (l.take j).filter (fun y => SM.lt x y) by
                rw [List.take_add_one, HY.out, List.filter_append]
                simp [← hbv])
              clear hbv
              go_wp2_with fail
              go_region_held3 (fun w' => (w'.cell? ⟨bl, oo + j * 5, none⟩ = some (.int .i64 y.g) ∧ w'.cell? ⟨bl, oo + j * 5 + 1, none⟩ = some (.int .i64 y.s) ∧ w'.cell? ⟨bl, oo + j * 5 + 2, none⟩ = some (.int .i64 y.o.p) ∧ w'.cell? ⟨bl, oo + j * 5 + 3, none⟩ = some (.int .i64 y.o.b) ∧ w'.cell? ⟨bl, oo + j * 5 + 4, none⟩ = some (.string y.o.v)) ∧ (w'.cell? ⟨g, 0, none⟩ = some (.int .i64 x.g) ∧ w'.cell? ⟨g, 1, none⟩ = some (.int .i64 x.s) ∧ w'.cell? ⟨g, 2, none⟩ = some (.int .i64 x.o.p) ∧ w'.cell? ⟨g, 3, none⟩ = some (.int .i64 x.o.b) ∧ w'.cell? ⟨g, 4, none⟩ = some (.string x.o.v)))
                (first | exact HSS.out _ bb2 | exact HSS.out _ bb1 | go_keep)
                (first | (go_at_call 54; ((with_reducible refine (C.out _).mono ?_); rintro e wa1 ⟨rfl, ha1⟩; have bb2 : Below wr.heap.size wr wa1 := bb1.trans (ha1.mono bb1.size))))
              all_goals
                go_wp2_with fail
                go_roundw
                case rel => exact ⟨j + 1, _, by omega, by go_num, rfl, by rw [HN.out]; exact own_below3 HOW.out bb2, Lib.hid (HWj.out.trans (bb2.mono hbz))⟩
                case measure => simp [intOf]; omega
            · have HN := Lib.hid (show (l.take (j + 1)).filter (fun y => SM.lt x y) = (l.take j).filter (fun y => SM.lt x y) ++ [y] by
                rw [List.take_add_one, HY.out, List.filter_append]
                simp [← hbv])
              clear hbv
              go_wp2_with fail
              go_region_held3 (fun w' => (w'.cell? ⟨bl, oo + j * 5, none⟩ = some (.int .i64 y.g) ∧ w'.cell? ⟨bl, oo + j * 5 + 1, none⟩ = some (.int .i64 y.s) ∧ w'.cell? ⟨bl, oo + j * 5 + 2, none⟩ = some (.int .i64 y.o.p) ∧ w'.cell? ⟨bl, oo + j * 5 + 3, none⟩ = some (.int .i64 y.o.b) ∧ w'.cell? ⟨bl, oo + j * 5 + 4, none⟩ = some (.string y.o.v)) ∧ (w'.cell? ⟨g, 0, none⟩ = some (.int .i64 x.g) ∧ w'.cell? ⟨g, 1, none⟩ = some (.int .i64 x.s) ∧ w'.cell? ⟨g, 2, none⟩ = some (.int .i64 x.o.p) ∧ w'.cell? ⟨g, 3, none⟩ = some (.int .i64 x.o.b) ∧ w'.cell? ⟨g, 4, none⟩ = some (.string x.o.v)))
                (first | exact HSS.out _ bb2 | exact HSS.out _ bb1 | go_keep)
                (first | (go_at_call 54; ((with_reducible refine (C.out _).mono ?_); rintro e wa1 ⟨rfl, ha1⟩; have bb2 : Below wr.heap.size wr wa1 := bb1.trans (ha1.mono bb1.size); have hbz2 : base ≤ wa1.heap.size := Nat.le_trans hbz bb2.size; have how2 := own_below3 HOW.out bb2; obtain ⟨⟨_, _, _, _, _⟩, ⟨_, _, _, _, _⟩⟩ := HSS.out wa1 bb2)))
              all_goals
                go_wp2_with (at_builtin; refine wpList_append_g _ rfl _ _ 23 rfl base 75 i0 _ 5 48 Try.underlying23 hi hz0 hz1 hz2 rfl (by omega) uj _ _ rfl (own_below3 how2 ((Below.refl _ _).alloc (Nat.le_refl _) _)) (some ⟨wa1.heap.size, 0, none⟩) 1 1 (sncell y) rfl (rdG_box (Box.new _ 75 #[.int .i64 y.g, .int .i64 y.s, .int .i64 y.o.p, .int .i64 y.o.b, .string y.o.v]) rfl rfl) (sn_one _) (by unfold maxLen; have := HF2.out; omega) (by have := HF2.out; omega) (by simp; omega) ?_; intro v2 w2 hown2 hg2 hob2)
                have hbel := below_row (((HWj.out.trans (bb2.mono hbz))).alloc hbz2 (.cells #[.int .i64 y.g, .int .i64 y.s, .int .i64 y.o.p, .int .i64 y.o.b, .string y.o.v] 75)) (own_below3 how2 ((Below.refl _ _).alloc (Nat.le_refl _) _)) (by simp; omega) hg2
                go_roundw
                case rel => exact ⟨j + 1, _, by omega, by go_num, rfl, by rw [HN.out]; rw [← List.append_assoc, List.length_append, flat_append, flat_one]; exact hown2, Lib.hid hbel⟩
                case measure => simp [intOf]; omega
          · have hkm : m = j := by omega
            subst hkm
            rw [List.take_of_length_le (by have := HL.out; omega)] at hown HF2
            go_wp2_with fail
            go_ret
            refine ⟨_, rfl, ?_, HB.out.trans ((HWj.out).mono (by have := HG.out; omega))⟩
            rw [HE.out]
            exact own_base hown (by have := HG.out; omega)
      · have e2 : (x.o.p == 0) = false := by simpa using hz
        have hxz : x.o ≠ SM.vz := fun h => hz (by rw [h]; rfl)
        go_upto_region 9 with (at_builtin; refine wpList_append_g _ rfl _ _ 23 rfl base 75 i0 _ 5 48 Try.underlying23 hi hz0 hz1 hz2 rfl (by omega) uk _ _ rfl (own_below3 HOW.out ((Below.refl _ _).alloc (Nat.le_refl _) _)) (some ⟨wr.heap.size, 0, none⟩) 1 1 (sncell x) rfl (rdG_box (Box.new _ 75 #[.int .i64 x.g, .int .i64 x.s, .int .i64 x.o.p, .int .i64 x.o.b, .string x.o.v]) rfl rfl) (sn_one _) (by unfold maxLen; have := HF2.out; omega) (by have := HF2.out; omega) (by simp; omega) ?_; intro v2 w2 hown2 hg2 hob2)
        have hbel := below_row (HWk.out.alloc hbz (.cells #[.int .i64 x.g, .int .i64 x.s, .int .i64 x.o.p, .int .i64 x.o.b, .string x.o.v] 75)) (own_below3 HOW.out ((Below.refl _ _).alloc (Nat.le_refl _) _)) (by simp; omega) hg2
        have HE := Lib.hid (show SM.put l x = (l.filter (fun y => SM.lt y x) ++ [x]) ++ l.filter (fun y => SM.lt x y) by unfold SM.put; rw [if_neg hxz, List.append_assoc])
        have HP := Lib.hid (show (l.filter (fun y => SM.lt y x) ++ [x]).length ≤ m + 1 by rw [List.length_append]; have := List.length_filter_le (fun y => SM.lt y x) l; have := HL.out; simp; omega)
        have HOW2 := Lib.hid (show w2.ownsRow base 75 5 v2 (l.filter (fun y => SM.lt y x) ++ [x]).length (flat sncell (l.filter (fun y => SM.lt y x) ++ [x])) by rw [List.length_append, flat_append, flat_one]; exact hown2)
        have HW2 := Lib.hid hbel
        clear hown2 hbel hg2 hob2 HOW HF2 hxz hz c0 c1 c2 c3 c4 HWk
        generalize l.filter (fun y => SM.lt y x) ++ [x] = P at HE HP HOW2
        go_wp2_with fail
        go_loopw [5, 7] (fun u i wr => ∃ (j : Nat) (u0 : Value), j ≤ m ∧ i = .int .i64 j ∧ u0 = u ∧ wr.ownsRow base 75 5 u (P ++ (l.take j).filter (fun y => SM.lt x y)).length (flat sncell (P ++ (l.take j).filter (fun y => SM.lt x y))) ∧ Hid (Below base w1 wr)) (fun _ i _ => m - (intOf i).toNat)
        case atStart => exact ⟨0, _, Nat.zero_le _, rfl, rfl, by have := HOW2.out; simp only [List.take_zero, List.filter_nil, List.append_nil]; exact this, HW2⟩
        case round =>
          obtain ⟨j, uj, hj, rfl, rfl, hown, HWj⟩ := hrel
          have hbz : base ≤ wr.heap.size := by have := HWj.out.size; have := HBS.out; omega
          have h2 : ((l.take j).filter (fun y => SM.lt x y)).length ≤ j := Nat.le_trans (List.length_filter_le _ _) (by rw [List.length_take]; omega)
          have HF2 := Lib.hid (show (P ++ (l.take j).filter (fun y => SM.lt x y)).length ≤ 2 * m + 1 by rw [List.length_append]; have := HP.out; omega)
          clear h2
          by_cases hlt : j < m
          · obtain ⟨bl, oo, rfl⟩ := HF.out (by omega)
            obtain ⟨y, hy⟩ : ∃ y, l[j]? = some y := ⟨_, List.getElem?_eq_getElem (by have := HL.out; omega)⟩
            have hr2 := H1.out.below (by rw [HBS.out]; exact HWj.out)
            have hx2 := X.out.below HWj.out (by omega)
            have HSS := Lib.hid (show ∀ w', Below wr.heap.size wr w' → (w'.cell? ⟨bl, oo + j * 5, none⟩ = some (.int .i64 y.g) ∧ w'.cell? ⟨bl, oo + j * 5 + 1, none⟩ = some (.int .i64 y.s) ∧ w'.cell? ⟨bl, oo + j * 5 + 2, none⟩ = some (.int .i64 y.o.p) ∧ w'.cell? ⟨bl, oo + j * 5 + 3, none⟩ = some (.int .i64 y.o.b) ∧ w'.cell? ⟨bl, oo + j * 5 + 4, none⟩ = some (.string y.o.v)) ∧ (w'.cell? ⟨g, 0, none⟩ = some (.int .i64 x.g) ∧ w'.cell? ⟨g, 1, none⟩ = some (.int .i64 x.s) ∧ w'.cell? ⟨g, 2, none⟩ = some (.int .i64 x.o.p) ∧ w'.cell? ⟨g, 3, none⟩ = some (.int .i64 x.o.b) ∧ w'.cell? ⟨g, 4, none⟩ = some (.string x.o.v)) from fun w' h => ⟨rdg_sn (hr2.below h) hy, (hx2.below h hx2.lt).cell 0, (hx2.below h hx2.lt).cell 1, (hx2.below h hx2.lt).cell 2, (hx2.below h hx2.lt).cell 3, (hx2.below h hx2.lt).cell 4⟩)
            have HY := Lib.hid hy
            clear hr2 hx2 hy
            have bb1 : Below wr.heap.size wr wr.drew := (Below.refl _ _).drew
            obtain ⟨⟨_, _, _, _, _⟩, ⟨_, _, _, _, _⟩⟩ := HSS.out wr (Below.refl _ _)
            have hk0 : (0 : Int) ≤ (j : Int) := by omega
            have hkm : (j : Int) < (m : Int) := by omega
            obtain ⟨b, hbv⟩ : ∃ b, b = SM.lt x y := ⟨_, rfl⟩
            have C := Lib.hid (fun w => rahead_any x y w)
            rw [← hbv] at C
            have HOW := Lib.hid hown
            clear hown
            cases b
            · have HN := Lib.hid (show (l.take (j + 1)).filter (fun y => SM.lt x y) = (l.take j).filter (fun y => SM.lt x y) by
                rw [List.take_add_one, HY.out, List.filter_append]
                simp [← hbv])
              clear hbv
              go_wp2_with fail
              go_region_held3 (fun w' => (w'.cell? ⟨bl, oo + j * 5, none⟩ = some (.int .i64 y.g) ∧ w'.cell? ⟨bl, oo + j * 5 + 1, none⟩ = some (.int .i64 y.s) ∧ w'.cell? ⟨bl, oo + j * 5 + 2, none⟩ = some (.int .i64 y.o.p) ∧ w'.cell? ⟨bl, oo + j * 5 + 3, none⟩ = some (.int .i64 y.o.b) ∧ w'.cell? ⟨bl, oo + j * 5 + 4, none⟩ = some (.string y.o.v)) ∧ (w'.cell? ⟨g, 0, none⟩ = some (.int .i64 x.g) ∧ w'.cell? ⟨g, 1, none⟩ = some (.int .i64 x.s) ∧ w'.cell? ⟨g, 2, none⟩ = some (.int .i64 x.o.p) ∧ w'.cell? ⟨g, 3, none⟩ = some (.int .i64 x.o.b) ∧ w'.cell? ⟨g, 4, none⟩ = some (.string x.o.v)))
                (first | exact HSS.out _ bb2 | exact HSS.out _ bb1 | go_keep)
                (first | (go_at_call 54; ((with_reducible refine (C.out _).mono ?_); rintro e wa1 ⟨rfl, ha1⟩; have bb2 : Below wr.heap.size wr wa1 := bb1.trans (ha1.mono bb1.size))))
              all_goals
                go_wp2_with fail
                go_roundw
                case rel => exact ⟨j + 1, _, by omega, by go_num, rfl, by rw [HN.out]; exact own_below3 HOW.out bb2, Lib.hid (HWj.out.trans (bb2.mono hbz))⟩
                case measure => simp [intOf]; omega
            · have HN := Lib.hid (show (l.take (j + 1)).filter (fun y => SM.lt x y) = (l.take j).filter (fun y => SM.lt x y) ++ [y] by
                rw [List.take_add_one, HY.out, List.filter_append]
                simp [← hbv])
              clear hbv
              go_wp2_with fail
              go_region_held3 (fun w' => (w'.cell? ⟨bl, oo + j * 5, none⟩ = some (.int .i64 y.g) ∧ w'.cell? ⟨bl, oo + j * 5 + 1, none⟩ = some (.int .i64 y.s) ∧ w'.cell? ⟨bl, oo + j * 5 + 2, none⟩ = some (.int .i64 y.o.p) ∧ w'.cell? ⟨bl, oo + j * 5 + 3, none⟩ = some (.int .i64 y.o.b) ∧ w'.cell? ⟨bl, oo + j * 5 + 4, none⟩ = some (.string y.o.v)) ∧ (w'.cell? ⟨g, 0, none⟩ = some (.int .i64 x.g) ∧ w'.cell? ⟨g, 1, none⟩ = some (.int .i64 x.s) ∧ w'.cell? ⟨g, 2, none⟩ = some (.int .i64 x.o.p) ∧ w'.cell? ⟨g, 3, none⟩ = some (.int .i64 x.o.b) ∧ w'.cell? ⟨g, 4, none⟩ = some (.string x.o.v)))
                (first | exact HSS.out _ bb2 | exact HSS.out _ bb1 | go_keep)
                (first | (go_at_call 54; ((with_reducible refine (C.out _).mono ?_); rintro e wa1 ⟨rfl, ha1⟩; have bb2 : Below wr.heap.size wr wa1 := bb1.trans (ha1.mono bb1.size); have hbz2 : base ≤ wa1.heap.size := Nat.le_trans hbz bb2.size; have how2 := own_below3 HOW.out bb2; obtain ⟨⟨_, _, _, _, _⟩, ⟨_, _, _, _, _⟩⟩ := HSS.out wa1 bb2)))
              all_goals
                go_wp2_with (at_builtin; refine wpList_append_g _ rfl _ _ 23 rfl base 75 i0 _ 5 48 Try.underlying23 hi hz0 hz1 hz2 rfl (by omega) uj _ _ rfl (own_below3 how2 ((Below.refl _ _).alloc (Nat.le_refl _) _)) (some ⟨wa1.heap.size, 0, none⟩) 1 1 (sncell y) rfl (rdG_box (Box.new _ 75 #[.int .i64 y.g, .int .i64 y.s, .int .i64 y.o.p, .int .i64 y.o.b, .string y.o.v]) rfl rfl) (sn_one _) (by unfold maxLen; have := HF2.out; omega) (by have := HF2.out; omega) (by simp; omega) ?_; intro v2 w2 hown2 hg2 hob2)
                have hbel := below_row (((HWj.out.trans (bb2.mono hbz))).alloc hbz2 (.cells #[.int .i64 y.g, .int .i64 y.s, .int .i64 y.o.p, .int .i64 y.o.b, .string y.o.v] 75)) (own_below3 how2 ((Below.refl _ _).alloc (Nat.le_refl _) _)) (by simp; omega) hg2
                go_roundw
                case rel => exact ⟨j + 1, _, by omega, by go_num, rfl, by rw [HN.out]; rw [← List.append_assoc, List.length_append, flat_append, flat_one]; exact hown2, Lib.hid hbel⟩
                case measure => simp [intOf]; omega
          · have hkm : m = j := by omega
            subst hkm
            rw [List.take_of_length_le (by have := HL.out; omega)] at hown HF2
            go_wp2_with fail
            go_ret
            refine ⟨_, rfl, ?_, HB.out.trans ((HWj.out).mono (by have := HG.out; omega))⟩
            rw [HE.out]
            exact own_base hown (by have := HG.out; omega)
end Go.Proofs.Ytohiemdodffhoaa.SP
