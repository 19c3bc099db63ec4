/-
  The walk of DecreeNames: kinds have their numbers, the chapter's examples are so. No input.
-/
import Derived.Test.YtiiobafcgdelmaaKLawDo
import Derived.Deep.LoopGhost
import Derived.Deep.CutRange
namespace Go.Proofs.Ytiiobafcgdelmaa
open Go.RowKit Go.Shelf PD
set_option linter.unusedVariables false
set_option linter.unusedSimpArgs false

def soloX : ByteArray := ⟨#[115, 111, 108, 111]⟩
def nE : ByteArray := ⟨#[]⟩
def nS : DC.Wd := DC.start [0, 1, 2]
def nA : DC.Wd := DC.aft nS ⟨1, 0, 0, exX⟩
def nR : DC.Wd := DC.runF (DC.start [4]) [⟨1, 4, 0, soloX⟩]
theorem nS_may : DC.May nS := DC.may_begin (by decide)
theorem nS_fit : WFit nS := fit_may nS_may (DC.pm_start _)
theorem n1 : DC.errD nS ⟨1, 0, 0, exX⟩ = 0 := by decide +kernel
theorem n2 : DC.errD nS ⟨2, 0, 0, nE⟩ = 6 := by decide +kernel
theorem n3 : DC.errD nS ⟨1, 6, 0, exX⟩ = 2 := by decide +kernel
theorem n4 : DC.errD nS ⟨6, 0, 0, nE⟩ = 2 := by decide +kernel
theorem nA_ml : nA.ml = [⟨0, 1, 1, 0, 0, 8, 0, nE, 0, 0⟩, ⟨0, 2, 1, 0, 0, 8, 0, nE, 0, 0⟩] := by decide +kernel
theorem nR_ch : nR.ch = [⟨4, soloX⟩] := by decide +kernel
/-- the rows of mail and of choices of a world in new memory -/
theorem own_rows {W : World} {base : Nat} {w : DC.Wd} {A0 A1 A2 A3 A4 : Option Addr} {c0 c1 c2 c3 c4 : Nat} (h : WOwn W base (.agg #[.slice A0 w.ms.length c0, .slice A1 w.vs.length c1, .slice A2 w.ts.length c2, .slice A3 w.ml.length c3, .slice A4 w.ch.length c4]) w) :
    W.ownsRow base 40 10 (.slice A3 w.ml.length c3) w.ml.length (flat mcell w.ml) ∧ W.ownsRow base 43 2 (.slice A4 w.ch.length c4) w.ch.length (flat ccell w.ch) := by
  obtain ⟨B0, d0, B1, d1, B2, d2, B3, d3, B4, d4, xs, e, o0, o1, o2, ht, o3, o4⟩ := h
  simp only [Value.agg.injEq, Array.mk.injEq, List.cons.injEq, Value.slice.injEq, and_true, true_and] at e
  obtain ⟨⟨rfl, rfl⟩, ⟨rfl, rfl⟩, ⟨rfl, rfl⟩, ⟨rfl, rfl⟩, rfl, rfl⟩ := e
  exact ⟨o3, o4⟩
def mv0 : DC.Mv := ⟨0, 0, 0, nE⟩
def nM : List DC.Mv := List.replicate 1001 mv0
theorem n5 : QM.ChkIs [] 60 := .inr (.inl ⟨by decide, by decide, rfl⟩)
theorem n6 : RunIs [0] nM 4 := .inr (.inl ⟨.inr (.inr ⟨by decide, rfl⟩), by unfold nM; rw [List.length_replicate]; decide, rfl⟩)
theorem n7 : RunIs [4] [⟨1, 4, 0, soloX⟩] 0 := .inr (.inr ⟨.inr (.inr ⟨by decide, rfl⟩), by decide, rfl⟩)
theorem n8 : QM.ChkIs [0, 1, 2] 0 := .inr (.inr ⟨by decide, rfl⟩)
theorem nM_fit : ∀ x ∈ nM, MvFit x := fun x hx => by rw [List.eq_of_mem_replicate hx]; exact ⟨by decide, by decide, by decide⟩
theorem n7_fit : ∀ x ∈ ([⟨1, 4, 0, soloX⟩] : List DC.Mv), MvFit x := fun x hx => by rw [List.mem_singleton.1 hx]; exact ⟨by decide, by decide, by decide⟩
theorem doIs_n {m : DC.Mv} {y k : Int} (h : DoIs nS m y) (hk : DC.errD nS m = k) : y = k := by
  rcases h with ⟨_, h⟩ | ⟨h, _⟩
  · rw [h, hk]
  · exact absurd nS_may h
theorem zW_is (W : World) : WIs W zeroW DC.zero := ⟨none, 0, none, 0, none, 0, none, 0, none, 0, [], rfl, Rd.nil, ⟨rfl, fun h => absurd h (by decide)⟩, ⟨rfl, fun h => absurd h (by decide)⟩, ⟨[], rfl, rfl, fun i t h => by cases h⟩, ⟨rfl, fun h => absurd h (by decide)⟩, ⟨rfl, fun h => absurd h (by decide)⟩⟩
theorem zW_fit : WFit DC.zero := ⟨by decide, by decide, by decide, by decide, by decide, fun v h => absurd h (by intro h; cases h), fun v h => absurd h (by intro h; cases h), fun v h => absurd h (by intro h; cases h), fun v h => absurd h (by intro h; cases h)⟩
theorem zW_not : ¬ DC.May DC.zero := fun h => absurd h.vl (by decide)
theorem info_mv : (Try.prog.info? 34).map (fun i => (i.zero, i.size, i.bytes)) = some (some (.agg #[.int .u8 0, .int .i64 0, .int .i64 0, .string ⟨#[]⟩]), 4, 40) := by kernel_rfl
theorem mvs_cells : ∀ n : Nat, (madeCells (Value.agg #[.int .u8 0, .int .i64 0, .int .i64 0, .string ⟨#[]⟩]).cells (n * 4)).toList = flat vmove (List.replicate n mv0)
  | 0 => by unfold madeCells; rw [Nat.zero_mul, Array.toList_map, Array.toList_range]; rfl
  | n + 1 => by
    have ih := mvs_cells n
    have hz : (Value.agg #[.int .u8 0, .int .i64 0, .int .i64 0, .string ⟨#[]⟩]).cells = #[.int .u8 0, .int .i64 0, .int .i64 0, .string ⟨#[]⟩] := rfl
    rw [hz] at ih ⊢
    unfold madeCells at ih ⊢
    rw [Array.toList_map, Array.toList_range] at ih ⊢
    rw [List.replicate_succ', flat_append, flat_one, ← ih, show (n + 1) * 4 = n * 4 + 1 + 1 + 1 + 1 by omega, List.range_succ, List.range_succ, List.range_succ, List.range_succ]
    simp only [List.map_append, List.append_assoc, List.map_cons, List.map_nil]
    congr 1
    have s4 : (#[.int .u8 0, .int .i64 0, .int .i64 0, .string ⟨#[]⟩] : Array Value).size = 4 := rfl
    rw [s4, show n * 4 % 4 = 0 by omega, show (n * 4 + 1) % 4 = 1 by omega, show (n * 4 + 1 + 1) % 4 = 2 by omega, show (n * 4 + 1 + 1 + 1) % 4 = 3 by omega]
    rfl
/-- 1,001 zero moves -/
theorem mk_moves : ∃ mk : Array Value, (∀ W, (Instr.makeSlice 38 (.int .i64 1001) (.int .i64 1001)).run Try.prog W = .ok (.slice (some ⟨W.heap.size, 0, none⟩) 1001 1001) (W.alloc (.cells mk 34))) ∧
    (∀ W : World, RdG (W.alloc (.cells mk 34)) 4 (some ⟨W.heap.size, 0, none⟩) 1001 (flat vmove nM)) := by
  obtain ⟨i0, hi, hz0, hz1, hz2⟩ := info_parts info_mv
  refine ⟨_, fun W => run_make (P := Try.prog) W _ _ i0 _ Try.underlying38 hi hz0 .i64 .i64 1001 1001 (by omega) (by omega) (by rw [hz2]; omega) (by omega), fun W => ?_⟩
  have := World.ownsRow_lit (base := W.heap.size) (e := 34) (size := 4) W (madeCells (Value.agg #[.int .u8 0, .int .i64 0, .int .i64 0, .string ⟨#[]⟩]).cells (1001 * 4)) 1001 (Nat.le_refl _) (by unfold maxLen; omega) (size_madeCells _ _)
  rw [mvs_cells] at this
  rw [hz1]
  exact rdG_own this
set_option maxRecDepth 100000 in
set_option maxHeartbeats 16000000 in
theorem decreeNames_walk (w : World) : Calls Try.prog 3 #[] w (BoolIs true w) := by
  have HM := Lib.hid (show Box (w.alloc (.cells #[.int .i64 0, .int .i64 1, .int .i64 2] 3)) w.heap.size 3 #[.int .i64 0, .int .i64 1, .int .i64 2] from Box.new _ _ _)
  have HB0 := Lib.hid (show Below w.heap.size w (w.alloc (.cells #[.int .i64 0, .int .i64 1, .int .i64 2] 3)) from (Below.refl _ _).alloc (Nat.le_refl _) _)
  have mixed : Try.prog.follows Departure.mixedOrders = true := by kernel_rfl
  go_enter Try.func3, Try.ntmps3
  go_wp2_with fail
  generalize w.alloc (.cells #[.int .i64 0, .int .i64 1, .int .i64 2] 3) = u0 at HM HB0 ⊢
  have hrm : Rd u0 (some ⟨w.heap.size, 0, none⟩) 3 (ic [0, 1, 2]) := rd_box HM.out rfl rfl
  refine (wnew_any _ 3 3 [0, 1, 2] 0 _ hrm (by omega) n8).mono ?_
  rintro e w1 ⟨v, rfl, hb, (⟨h, _⟩ | ⟨_, hown⟩)⟩
  · exact absurd rfl h
  change WOwn w1 u0.heap.size v nS at hown
  obtain ⟨A0, a0, A1, a1, A2, a2, A3, a3, A4, a4, rfl⟩ := hown.form
  have HB1 := Lib.hid (bmore HB0.out hb (Nat.le_refl _))
  clear hb hrm HM HB0
  have hal : Below w1.heap.size w1 (w1.alloc (.cells #[.slice A0 nS.ms.length a0, .slice A1 nS.vs.length a1, .slice A2 nS.ts.length a2, .slice A3 nS.ml.length a3, .slice A4 nS.ch.length a4] 28)) := (Below.refl _ _).alloc (Nat.le_refl _) _
  have HBU := Lib.hid (bmore HB1.out hal (Nat.le_refl _))
  have HX := Lib.hid (Box.new w1 28 #[.slice A0 nS.ms.length a0, .slice A1 nS.vs.length a1, .slice A2 nS.ts.length a2, .slice A3 nS.ml.length a3, .slice A4 nS.ch.length a4])
  have HWI := Lib.hid (hown.is.below hal)
  clear hal hown HB1
  go_upto_region 2 with (fail)
  generalize w1.alloc (.cells #[.slice A0 nS.ms.length a0, .slice A1 nS.vs.length a1, .slice A2 nS.ts.length a2, .slice A3 nS.ml.length a3, .slice A4 nS.ch.length a4] 28) = u at HBU HX HWI ⊢
  generalize w1.heap.size = g1 at HX ⊢
  have HDO := Lib.hid (fun (U : World) (hU : Below u.heap.size u U) => wdo_any (.agg #[.slice A0 nS.ms.length a0, .slice A1 nS.vs.length a1, .slice A2 nS.ts.length a2, .slice A3 nS.ml.length a3, .slice A4 nS.ch.length a4]) nS 1 0 0 exX U (HWI.out.below hU) nS_fit (by decide) (by decide) (by decide))
  go_cut [3, 4] (fun x y wx => DoMid u nS ⟨1, 0, 0, exX⟩ x y wx)
  case first => as_aux_lemma =>
    have HSS : Hid (∀ w', Below u.heap.size u w' → w'.cell? ⟨g1, 0, none⟩ = some (.slice A0 nS.ms.length a0) ∧ w'.cell? ⟨g1, 1, none⟩ = some (.slice A1 nS.vs.length a1) ∧ w'.cell? ⟨g1, 2, none⟩ = some (.slice A2 nS.ts.length a2) ∧ w'.cell? ⟨g1, 3, none⟩ = some (.slice A3 nS.ml.length a3) ∧ w'.cell? ⟨g1, 4, none⟩ = some (.slice A4 nS.ch.length a4)) := Lib.hid (fun w' hb => (HX.out.below hb HX.out.lt).five.1)
    have HB := Lib.hid (show Below u.heap.size u u.drew from (Below.refl _ _).drew)
    refine wp_region_held_drew (S := fun w' => w'.cell? ⟨g1, 0, none⟩ = some (.slice A0 nS.ms.length a0) ∧ w'.cell? ⟨g1, 1, none⟩ = some (.slice A1 nS.vs.length a1) ∧ w'.cell? ⟨g1, 2, none⟩ = some (.slice A2 nS.ts.length a2) ∧ w'.cell? ⟨g1, 3, none⟩ = some (.slice A3 nS.ml.length a3) ∧ w'.cell? ⟨g1, 4, none⟩ = some (.slice A4 nS.ch.length a4)) (by kernel_rfl) (HSS.out _ HB.out) (fun hHeld => ?_)
    refine wpAnyH_take (i := 0) (v := ?_) rfl (by kernel_rfl) (by kernel_rfl) (by kernel_rfl) (fun _ _ _ h => h) (Or.inl ⟨by rfl, ?_⟩) (by assumption) ?_
    rotate_left
    · intro w' hSw
      (try dsimp only at hSw)
      go_simp
      all_goals (with_reducible rfl)
    try simp only [Act.put, List.setIfInBounds_toArray, List.set_cons_zero, List.set_cons_succ, List.getElem_toArray, List.getElem_cons_zero, List.getElem_cons_succ]
    have HSS2 := HSS
    obtain ⟨ud, hud⟩ : ∃ ud, ud = u.drew := ⟨_, rfl⟩
    rw [← hud] at HB hHeld ⊢
    clear hud HSS2
    refine wpAnyH_ready (rs := [1, 6]) (by kernel_rfl) (by simp) ?_
    refine AllReadyH.cons rfl (fun K hK => ?_) (AllReadyH.cons rfl (fun K hK => ?_) AllReadyH.nil)
    · skip
      go_simp
      refine (lbegin_any 0 exX _).mono ?_
      rintro e wb1 ⟨rfl, hb⟩
      have HB := Lib.hid (bmore HB.out hb (Nat.le_refl _))
      clear hb
      refine hK.out _ _ (HSS.out _ HB.out) (fun hHeld => ?_)
      clear hK
      try simp only [Act.put, List.setIfInBounds_toArray, List.set_cons_zero, List.set_cons_succ, List.getElem_toArray, List.getElem_cons_zero, List.getElem_cons_succ]
      refine wpAnyH_ready (rs := [2, 6]) (by kernel_rfl) (by simp) ?_
      refine AllReadyH.cons rfl (fun K hK => ?_) (AllReadyH.cons rfl (fun K hK => ?_) AllReadyH.nil)
      · skip
        go_simp
        refine (HDO.out _ HB.out).mono ?_
        rintro e wd2 ⟨v5, y5, rfl, hd5, hb, hv5⟩
        have HSZ := Lib.hid HB.out.size
        have HB := Lib.hid (bmore HB.out hb (Nat.le_refl _))
        skip
        have HD := Lib.hid hd5
        clear hb hd5
        rcases hv5 with ⟨hn5, rfl⟩ | ⟨rfl, ho5⟩
        · have HN := Lib.hid hn5
          clear hn5
          unfold zeroW
          refine hK.out _ _ (HSS.out _ HB.out) (fun hHeld => ?_)
          clear hK
          try simp only [Act.put, List.setIfInBounds_toArray, List.set_cons_zero, List.set_cons_succ, List.getElem_toArray, List.getElem_cons_zero, List.getElem_cons_succ]
          refine wpAnyH_take (i := 3) (v := ?_) rfl (by kernel_rfl) (by kernel_rfl) (by kernel_rfl) (fun _ _ _ h => h) (Or.inl ⟨by rfl, ?_⟩) (by assumption) ?_
          rotate_left
          · intro w' hSw
            (try dsimp only at hSw)
            go_simp
            all_goals (with_reducible rfl)
          try simp only [Act.put, List.setIfInBounds_toArray, List.set_cons_zero, List.set_cons_succ, List.getElem_toArray, List.getElem_cons_zero, List.getElem_cons_succ]
          refine wpAnyH_take (i := 4) (v := ?_) rfl (by kernel_rfl) (by kernel_rfl) (by kernel_rfl) (fun _ _ _ h => h) (Or.inl ⟨by rfl, ?_⟩) (by assumption) ?_
          rotate_left
          · intro w' hSw
            (try dsimp only at hSw)
            go_simp
            all_goals (with_reducible rfl)
          try simp only [Act.put, List.setIfInBounds_toArray, List.set_cons_zero, List.set_cons_succ, List.getElem_toArray, List.getElem_cons_zero, List.getElem_cons_succ]
          refine wpAnyH_take (i := 5) (v := ?_) rfl (by kernel_rfl) (by kernel_rfl) (by kernel_rfl) (fun _ _ _ h => h) (Or.inl ⟨by rfl, ?_⟩) (by assumption) ?_
          rotate_left
          · intro w' hSw
            (try dsimp only at hSw)
            go_simp
            all_goals (with_reducible rfl)
          try simp only [Act.put, List.setIfInBounds_toArray, List.set_cons_zero, List.set_cons_succ, List.getElem_toArray, List.getElem_cons_zero, List.getElem_cons_succ]
          refine wpAnyH_ready (rs := [6]) (by kernel_rfl) (by simp) ?_
          refine AllReadyH.cons rfl (fun K hK => ?_) AllReadyH.nil
          go_simp
          have hb : Below wd2.heap.size wd2 (wd2.alloc (.cells #[.slice none 0 0, .slice none 0 0, .slice none 0 0, .slice none 0 0, .slice none 0 0] 28)) := (Below.refl _ _).alloc (Nat.le_refl _) _
          have HG := Lib.hid (Box.new wd2 28 #[.slice none 0 0, .slice none 0 0, .slice none 0 0, .slice none 0 0, .slice none 0 0])
          have HGL := Lib.hid (HB.out.size)
          have HB := Lib.hid (bmore HB.out hb (Nat.le_refl _))
          clear hb
          refine hK.out _ _ (HSS.out _ HB.out) (fun hHeld => ?_)
          clear hK
          try simp only [Act.put, List.setIfInBounds_toArray, List.set_cons_zero, List.set_cons_succ, List.getElem_toArray, List.getElem_cons_zero, List.getElem_cons_succ]
          generalize wd2.alloc (.cells #[.slice none 0 0, .slice none 0 0, .slice none 0 0, .slice none 0 0, .slice none 0 0] 28) = wa3 at HB HG hHeld ⊢
          generalize wd2.heap.size = gx at HG HGL ⊢
          obtain ⟨⟨_, _, _, _, _⟩, z0, z1, z2, z3, z4⟩ := HG.out.five
          have HFIN := Lib.hid (doMid_zero HB.out HGL.out HG.out HD.out HN.out)
          have HSF := Lib.hid (HSS.out _ HFIN.out.choose_spec.choose_spec.2.2.1)
          refine wpAnyH_ready (rs := [7]) (by kernel_rfl) (by simp) ?_
          refine AllReadyH.cons rfl (fun K hK => ?_) AllReadyH.nil
          go_simp
          refine hK.out _ _ HSF.out (fun hHeld => ?_)
          clear hK
          try simp only [Act.put, List.setIfInBounds_toArray, List.set_cons_zero, List.set_cons_succ, List.getElem_toArray, List.getElem_cons_zero, List.getElem_cons_succ]
          refine wpAnyH_take (i := 8) (v := ?_) rfl (by kernel_rfl) (by kernel_rfl) (by kernel_rfl) (fun _ _ _ h => h) (Or.inl ⟨by rfl, ?_⟩) (by assumption) ?_
          rotate_left
          · intro w' hSw
            (try dsimp only at hSw)
            go_simp
            all_goals (with_reducible rfl)
          try simp only [Act.put, List.setIfInBounds_toArray, List.set_cons_zero, List.set_cons_succ, List.getElem_toArray, List.getElem_cons_zero, List.getElem_cons_succ]
          refine wpAnyH_done (by kernel_rfl) ?_ _
          clear hHeld HSF z0 z1 z2 z3 z4
          go_wp2_with fail
          go_meet
          case rel => exact HFIN.out
        · obtain ⟨wn, hwn⟩ : ∃ wn, DC.aft nS ⟨1, 0, 0, exX⟩ = wn := ⟨_, rfl⟩
          rw [hwn] at ho5
          have HA := Lib.hid hwn
          obtain ⟨E0, f0, E1, f1, E2, f2, E3, f3, E4, f4, rfl⟩ := ho5.form
          have HW := Lib.hid (ho5.mono HSZ.out)
          clear ho5 hwn
          refine hK.out _ _ (HSS.out _ HB.out) (fun hHeld => ?_)
          clear hK
          try simp only [Act.put, List.setIfInBounds_toArray, List.set_cons_zero, List.set_cons_succ, List.getElem_toArray, List.getElem_cons_zero, List.getElem_cons_succ]
          refine wpAnyH_take (i := 3) (v := ?_) rfl (by kernel_rfl) (by kernel_rfl) (by kernel_rfl) (fun _ _ _ h => h) (Or.inl ⟨by rfl, ?_⟩) (by assumption) ?_
          rotate_left
          · intro w' hSw
            (try dsimp only at hSw)
            go_simp
            all_goals (with_reducible rfl)
          try simp only [Act.put, List.setIfInBounds_toArray, List.set_cons_zero, List.set_cons_succ, List.getElem_toArray, List.getElem_cons_zero, List.getElem_cons_succ]
          refine wpAnyH_take (i := 4) (v := ?_) rfl (by kernel_rfl) (by kernel_rfl) (by kernel_rfl) (fun _ _ _ h => h) (Or.inl ⟨by rfl, ?_⟩) (by assumption) ?_
          rotate_left
          · intro w' hSw
            (try dsimp only at hSw)
            go_simp
            all_goals (with_reducible rfl)
          try simp only [Act.put, List.setIfInBounds_toArray, List.set_cons_zero, List.set_cons_succ, List.getElem_toArray, List.getElem_cons_zero, List.getElem_cons_succ]
          refine wpAnyH_take (i := 5) (v := ?_) rfl (by kernel_rfl) (by kernel_rfl) (by kernel_rfl) (fun _ _ _ h => h) (Or.inl ⟨by rfl, ?_⟩) (by assumption) ?_
          rotate_left
          · intro w' hSw
            (try dsimp only at hSw)
            go_simp
            all_goals (with_reducible rfl)
          try simp only [Act.put, List.setIfInBounds_toArray, List.set_cons_zero, List.set_cons_succ, List.getElem_toArray, List.getElem_cons_zero, List.getElem_cons_succ]
          refine wpAnyH_ready (rs := [6]) (by kernel_rfl) (by simp) ?_
          refine AllReadyH.cons rfl (fun K hK => ?_) AllReadyH.nil
          go_simp
          have hb : Below wd2.heap.size wd2 (wd2.alloc (.cells #[.slice none 0 0, .slice none 0 0, .slice none 0 0, .slice none 0 0, .slice none 0 0] 28)) := (Below.refl _ _).alloc (Nat.le_refl _) _
          have HG := Lib.hid (Box.new wd2 28 #[.slice none 0 0, .slice none 0 0, .slice none 0 0, .slice none 0 0, .slice none 0 0])
          have HGL := Lib.hid (HB.out.size)
          have HB := Lib.hid (bmore HB.out hb (Nat.le_refl _))
          have HW := Lib.hid (HW.out.below hb)
          clear hb
          refine hK.out _ _ (HSS.out _ HB.out) (fun hHeld => ?_)
          clear hK
          try simp only [Act.put, List.setIfInBounds_toArray, List.set_cons_zero, List.set_cons_succ, List.getElem_toArray, List.getElem_cons_zero, List.getElem_cons_succ]
          generalize wd2.alloc (.cells #[.slice none 0 0, .slice none 0 0, .slice none 0 0, .slice none 0 0, .slice none 0 0] 28) = wa4 at HB HG HW hHeld ⊢
          generalize wd2.heap.size = gx at HG HGL ⊢
          obtain ⟨⟨_, _, _, _, _⟩, z0, z1, z2, z3, z4⟩ := HG.out.five
          have HFIN := Lib.hid (doMid_own HB.out HGL.out HG.out HD.out HA.out HW.out)
          have HSF := Lib.hid (HSS.out _ HFIN.out.choose_spec.choose_spec.2.2.1)
          refine wpAnyH_ready (rs := [7]) (by kernel_rfl) (by simp) ?_
          refine AllReadyH.cons rfl (fun K hK => ?_) AllReadyH.nil
          go_simp
          refine hK.out _ _ HSF.out (fun hHeld => ?_)
          clear hK
          try simp only [Act.put, List.setIfInBounds_toArray, List.set_cons_zero, List.set_cons_succ, List.getElem_toArray, List.getElem_cons_zero, List.getElem_cons_succ]
          refine wpAnyH_take (i := 8) (v := ?_) rfl (by kernel_rfl) (by kernel_rfl) (by kernel_rfl) (fun _ _ _ h => h) (Or.inl ⟨by rfl, ?_⟩) (by assumption) ?_
          rotate_left
          · intro w' hSw
            (try dsimp only at hSw)
            go_simp
            all_goals (with_reducible rfl)
          try simp only [Act.put, List.setIfInBounds_toArray, List.set_cons_zero, List.set_cons_succ, List.getElem_toArray, List.getElem_cons_zero, List.getElem_cons_succ]
          refine wpAnyH_done (by kernel_rfl) ?_ _
          clear hHeld HSF z0 z1 z2 z3 z4
          go_wp2_with fail
          go_meet
          case rel => exact HFIN.out
      · skip
        go_simp
        have hb : Below wb1.heap.size wb1 (wb1.alloc (.cells #[.slice none 0 0, .slice none 0 0, .slice none 0 0, .slice none 0 0, .slice none 0 0] 28)) := (Below.refl _ _).alloc (Nat.le_refl _) _
        have HG := Lib.hid (Box.new wb1 28 #[.slice none 0 0, .slice none 0 0, .slice none 0 0, .slice none 0 0, .slice none 0 0])
        have HGL := Lib.hid (HB.out.size)
        have HB := Lib.hid (bmore HB.out hb (Nat.le_refl _))
        clear hb
        refine hK.out _ _ (HSS.out _ HB.out) (fun hHeld => ?_)
        clear hK
        try simp only [Act.put, List.setIfInBounds_toArray, List.set_cons_zero, List.set_cons_succ, List.getElem_toArray, List.getElem_cons_zero, List.getElem_cons_succ]
        generalize wb1.alloc (.cells #[.slice none 0 0, .slice none 0 0, .slice none 0 0, .slice none 0 0, .slice none 0 0] 28) = wa5 at HB HG hHeld ⊢
        generalize wb1.heap.size = gx at HG HGL ⊢
        refine wpAnyH_ready (rs := [2]) (by kernel_rfl) (by simp) ?_
        refine AllReadyH.cons rfl (fun K hK => ?_) AllReadyH.nil
        go_simp
        refine (HDO.out _ HB.out).mono ?_
        rintro e wd6 ⟨v5, y5, rfl, hd5, hb, hv5⟩
        have HSZ := Lib.hid HB.out.size
        have HB := Lib.hid (bmore HB.out hb (Nat.le_refl _))
        have HG := Lib.hid (HG.out.below hb HG.out.lt)
        have HD := Lib.hid hd5
        clear hb hd5
        rcases hv5 with ⟨hn5, rfl⟩ | ⟨rfl, ho5⟩
        · have HN := Lib.hid hn5
          clear hn5
          unfold zeroW
          refine hK.out _ _ (HSS.out _ HB.out) (fun hHeld => ?_)
          clear hK
          try simp only [Act.put, List.setIfInBounds_toArray, List.set_cons_zero, List.set_cons_succ, List.getElem_toArray, List.getElem_cons_zero, List.getElem_cons_succ]
          refine wpAnyH_take (i := 3) (v := ?_) rfl (by kernel_rfl) (by kernel_rfl) (by kernel_rfl) (fun _ _ _ h => h) (Or.inl ⟨by rfl, ?_⟩) (by assumption) ?_
          rotate_left
          · intro w' hSw
            (try dsimp only at hSw)
            go_simp
            all_goals (with_reducible rfl)
          try simp only [Act.put, List.setIfInBounds_toArray, List.set_cons_zero, List.set_cons_succ, List.getElem_toArray, List.getElem_cons_zero, List.getElem_cons_succ]
          refine wpAnyH_take (i := 4) (v := ?_) rfl (by kernel_rfl) (by kernel_rfl) (by kernel_rfl) (fun _ _ _ h => h) (Or.inl ⟨by rfl, ?_⟩) (by assumption) ?_
          rotate_left
          · intro w' hSw
            (try dsimp only at hSw)
            go_simp
            all_goals (with_reducible rfl)
          try simp only [Act.put, List.setIfInBounds_toArray, List.set_cons_zero, List.set_cons_succ, List.getElem_toArray, List.getElem_cons_zero, List.getElem_cons_succ]
          refine wpAnyH_take (i := 5) (v := ?_) rfl (by kernel_rfl) (by kernel_rfl) (by kernel_rfl) (fun _ _ _ h => h) (Or.inl ⟨by rfl, ?_⟩) (by assumption) ?_
          rotate_left
          · intro w' hSw
            (try dsimp only at hSw)
            go_simp
            all_goals (with_reducible rfl)
          try simp only [Act.put, List.setIfInBounds_toArray, List.set_cons_zero, List.set_cons_succ, List.getElem_toArray, List.getElem_cons_zero, List.getElem_cons_succ]
          obtain ⟨⟨_, _, _, _, _⟩, z0, z1, z2, z3, z4⟩ := HG.out.five
          have HFIN := Lib.hid (doMid_zero HB.out HGL.out HG.out HD.out HN.out)
          have HSF := Lib.hid (HSS.out _ HFIN.out.choose_spec.choose_spec.2.2.1)
          refine wpAnyH_ready (rs := [7]) (by kernel_rfl) (by simp) ?_
          refine AllReadyH.cons rfl (fun K hK => ?_) AllReadyH.nil
          go_simp
          refine hK.out _ _ HSF.out (fun hHeld => ?_)
          clear hK
          try simp only [Act.put, List.setIfInBounds_toArray, List.set_cons_zero, List.set_cons_succ, List.getElem_toArray, List.getElem_cons_zero, List.getElem_cons_succ]
          refine wpAnyH_take (i := 8) (v := ?_) rfl (by kernel_rfl) (by kernel_rfl) (by kernel_rfl) (fun _ _ _ h => h) (Or.inl ⟨by rfl, ?_⟩) (by assumption) ?_
          rotate_left
          · intro w' hSw
            (try dsimp only at hSw)
            go_simp
            all_goals (with_reducible rfl)
          try simp only [Act.put, List.setIfInBounds_toArray, List.set_cons_zero, List.set_cons_succ, List.getElem_toArray, List.getElem_cons_zero, List.getElem_cons_succ]
          refine wpAnyH_done (by kernel_rfl) ?_ _
          clear hHeld HSF z0 z1 z2 z3 z4
          go_wp2_with fail
          go_meet
          case rel => exact HFIN.out
        · obtain ⟨wn, hwn⟩ : ∃ wn, DC.aft nS ⟨1, 0, 0, exX⟩ = wn := ⟨_, rfl⟩
          rw [hwn] at ho5
          have HA := Lib.hid hwn
          obtain ⟨E0, f0, E1, f1, E2, f2, E3, f3, E4, f4, rfl⟩ := ho5.form
          have HW := Lib.hid (ho5.mono HSZ.out)
          clear ho5 hwn
          refine hK.out _ _ (HSS.out _ HB.out) (fun hHeld => ?_)
          clear hK
          try simp only [Act.put, List.setIfInBounds_toArray, List.set_cons_zero, List.set_cons_succ, List.getElem_toArray, List.getElem_cons_zero, List.getElem_cons_succ]
          refine wpAnyH_take (i := 3) (v := ?_) rfl (by kernel_rfl) (by kernel_rfl) (by kernel_rfl) (fun _ _ _ h => h) (Or.inl ⟨by rfl, ?_⟩) (by assumption) ?_
          rotate_left
          · intro w' hSw
            (try dsimp only at hSw)
            go_simp
            all_goals (with_reducible rfl)
          try simp only [Act.put, List.setIfInBounds_toArray, List.set_cons_zero, List.set_cons_succ, List.getElem_toArray, List.getElem_cons_zero, List.getElem_cons_succ]
          refine wpAnyH_take (i := 4) (v := ?_) rfl (by kernel_rfl) (by kernel_rfl) (by kernel_rfl) (fun _ _ _ h => h) (Or.inl ⟨by rfl, ?_⟩) (by assumption) ?_
          rotate_left
          · intro w' hSw
            (try dsimp only at hSw)
            go_simp
            all_goals (with_reducible rfl)
          try simp only [Act.put, List.setIfInBounds_toArray, List.set_cons_zero, List.set_cons_succ, List.getElem_toArray, List.getElem_cons_zero, List.getElem_cons_succ]
          refine wpAnyH_take (i := 5) (v := ?_) rfl (by kernel_rfl) (by kernel_rfl) (by kernel_rfl) (fun _ _ _ h => h) (Or.inl ⟨by rfl, ?_⟩) (by assumption) ?_
          rotate_left
          · intro w' hSw
            (try dsimp only at hSw)
            go_simp
            all_goals (with_reducible rfl)
          try simp only [Act.put, List.setIfInBounds_toArray, List.set_cons_zero, List.set_cons_succ, List.getElem_toArray, List.getElem_cons_zero, List.getElem_cons_succ]
          obtain ⟨⟨_, _, _, _, _⟩, z0, z1, z2, z3, z4⟩ := HG.out.five
          have HFIN := Lib.hid (doMid_own HB.out HGL.out HG.out HD.out HA.out HW.out)
          have HSF := Lib.hid (HSS.out _ HFIN.out.choose_spec.choose_spec.2.2.1)
          refine wpAnyH_ready (rs := [7]) (by kernel_rfl) (by simp) ?_
          refine AllReadyH.cons rfl (fun K hK => ?_) AllReadyH.nil
          go_simp
          refine hK.out _ _ HSF.out (fun hHeld => ?_)
          clear hK
          try simp only [Act.put, List.setIfInBounds_toArray, List.set_cons_zero, List.set_cons_succ, List.getElem_toArray, List.getElem_cons_zero, List.getElem_cons_succ]
          refine wpAnyH_take (i := 8) (v := ?_) rfl (by kernel_rfl) (by kernel_rfl) (by kernel_rfl) (fun _ _ _ h => h) (Or.inl ⟨by rfl, ?_⟩) (by assumption) ?_
          rotate_left
          · intro w' hSw
            (try dsimp only at hSw)
            go_simp
            all_goals (with_reducible rfl)
          try simp only [Act.put, List.setIfInBounds_toArray, List.set_cons_zero, List.set_cons_succ, List.getElem_toArray, List.getElem_cons_zero, List.getElem_cons_succ]
          refine wpAnyH_done (by kernel_rfl) ?_ _
          clear hHeld HSF z0 z1 z2 z3 z4
          go_wp2_with fail
          go_meet
          case rel => exact HFIN.out
    · skip
      go_simp
      have hb : Below ud.heap.size ud (ud.alloc (.cells #[.slice none 0 0, .slice none 0 0, .slice none 0 0, .slice none 0 0, .slice none 0 0] 28)) := (Below.refl _ _).alloc (Nat.le_refl _) _
      have HG := Lib.hid (Box.new ud 28 #[.slice none 0 0, .slice none 0 0, .slice none 0 0, .slice none 0 0, .slice none 0 0])
      have HGL := Lib.hid (HB.out.size)
      have HB := Lib.hid (bmore HB.out hb (Nat.le_refl _))
      clear hb
      refine hK.out _ _ (HSS.out _ HB.out) (fun hHeld => ?_)
      clear hK
      try simp only [Act.put, List.setIfInBounds_toArray, List.set_cons_zero, List.set_cons_succ, List.getElem_toArray, List.getElem_cons_zero, List.getElem_cons_succ]
      generalize ud.alloc (.cells #[.slice none 0 0, .slice none 0 0, .slice none 0 0, .slice none 0 0, .slice none 0 0] 28) = wa7 at HB HG hHeld ⊢
      generalize ud.heap.size = gx at HG HGL ⊢
      refine wpAnyH_ready (rs := [1]) (by kernel_rfl) (by simp) ?_
      refine AllReadyH.cons rfl (fun K hK => ?_) AllReadyH.nil
      go_simp
      refine (lbegin_any 0 exX _).mono ?_
      rintro e wb8 ⟨rfl, hb⟩
      have HB := Lib.hid (bmore HB.out hb (Nat.le_refl _))
      have HG := Lib.hid (HG.out.below hb HG.out.lt)
      clear hb
      refine hK.out _ _ (HSS.out _ HB.out) (fun hHeld => ?_)
      clear hK
      try simp only [Act.put, List.setIfInBounds_toArray, List.set_cons_zero, List.set_cons_succ, List.getElem_toArray, List.getElem_cons_zero, List.getElem_cons_succ]
      refine wpAnyH_ready (rs := [2]) (by kernel_rfl) (by simp) ?_
      refine AllReadyH.cons rfl (fun K hK => ?_) AllReadyH.nil
      go_simp
      refine (HDO.out _ HB.out).mono ?_
      rintro e wd9 ⟨v5, y5, rfl, hd5, hb, hv5⟩
      have HSZ := Lib.hid HB.out.size
      have HB := Lib.hid (bmore HB.out hb (Nat.le_refl _))
      have HG := Lib.hid (HG.out.below hb HG.out.lt)
      have HD := Lib.hid hd5
      clear hb hd5
      rcases hv5 with ⟨hn5, rfl⟩ | ⟨rfl, ho5⟩
      · have HN := Lib.hid hn5
        clear hn5
        unfold zeroW
        refine hK.out _ _ (HSS.out _ HB.out) (fun hHeld => ?_)
        clear hK
        try simp only [Act.put, List.setIfInBounds_toArray, List.set_cons_zero, List.set_cons_succ, List.getElem_toArray, List.getElem_cons_zero, List.getElem_cons_succ]
        refine wpAnyH_take (i := 3) (v := ?_) rfl (by kernel_rfl) (by kernel_rfl) (by kernel_rfl) (fun _ _ _ h => h) (Or.inl ⟨by rfl, ?_⟩) (by assumption) ?_
        rotate_left
        · intro w' hSw
          (try dsimp only at hSw)
          go_simp
          all_goals (with_reducible rfl)
        try simp only [Act.put, List.setIfInBounds_toArray, List.set_cons_zero, List.set_cons_succ, List.getElem_toArray, List.getElem_cons_zero, List.getElem_cons_succ]
        refine wpAnyH_take (i := 4) (v := ?_) rfl (by kernel_rfl) (by kernel_rfl) (by kernel_rfl) (fun _ _ _ h => h) (Or.inl ⟨by rfl, ?_⟩) (by assumption) ?_
        rotate_left
        · intro w' hSw
          (try dsimp only at hSw)
          go_simp
          all_goals (with_reducible rfl)
        try simp only [Act.put, List.setIfInBounds_toArray, List.set_cons_zero, List.set_cons_succ, List.getElem_toArray, List.getElem_cons_zero, List.getElem_cons_succ]
        refine wpAnyH_take (i := 5) (v := ?_) rfl (by kernel_rfl) (by kernel_rfl) (by kernel_rfl) (fun _ _ _ h => h) (Or.inl ⟨by rfl, ?_⟩) (by assumption) ?_
        rotate_left
        · intro w' hSw
          (try dsimp only at hSw)
          go_simp
          all_goals (with_reducible rfl)
        try simp only [Act.put, List.setIfInBounds_toArray, List.set_cons_zero, List.set_cons_succ, List.getElem_toArray, List.getElem_cons_zero, List.getElem_cons_succ]
        obtain ⟨⟨_, _, _, _, _⟩, z0, z1, z2, z3, z4⟩ := HG.out.five
        have HFIN := Lib.hid (doMid_zero HB.out HGL.out HG.out HD.out HN.out)
        have HSF := Lib.hid (HSS.out _ HFIN.out.choose_spec.choose_spec.2.2.1)
        refine wpAnyH_ready (rs := [7]) (by kernel_rfl) (by simp) ?_
        refine AllReadyH.cons rfl (fun K hK => ?_) AllReadyH.nil
        go_simp
        refine hK.out _ _ HSF.out (fun hHeld => ?_)
        clear hK
        try simp only [Act.put, List.setIfInBounds_toArray, List.set_cons_zero, List.set_cons_succ, List.getElem_toArray, List.getElem_cons_zero, List.getElem_cons_succ]
        refine wpAnyH_take (i := 8) (v := ?_) rfl (by kernel_rfl) (by kernel_rfl) (by kernel_rfl) (fun _ _ _ h => h) (Or.inl ⟨by rfl, ?_⟩) (by assumption) ?_
        rotate_left
        · intro w' hSw
          (try dsimp only at hSw)
          go_simp
          all_goals (with_reducible rfl)
        try simp only [Act.put, List.setIfInBounds_toArray, List.set_cons_zero, List.set_cons_succ, List.getElem_toArray, List.getElem_cons_zero, List.getElem_cons_succ]
        refine wpAnyH_done (by kernel_rfl) ?_ _
        clear hHeld HSF z0 z1 z2 z3 z4
        go_wp2_with fail
        go_meet
        case rel => exact HFIN.out
      · obtain ⟨wn, hwn⟩ : ∃ wn, DC.aft nS ⟨1, 0, 0, exX⟩ = wn := ⟨_, rfl⟩
        rw [hwn] at ho5
        have HA := Lib.hid hwn
        obtain ⟨E0, f0, E1, f1, E2, f2, E3, f3, E4, f4, rfl⟩ := ho5.form
        have HW := Lib.hid (ho5.mono HSZ.out)
        clear ho5 hwn
        refine hK.out _ _ (HSS.out _ HB.out) (fun hHeld => ?_)
        clear hK
        try simp only [Act.put, List.setIfInBounds_toArray, List.set_cons_zero, List.set_cons_succ, List.getElem_toArray, List.getElem_cons_zero, List.getElem_cons_succ]
        refine wpAnyH_take (i := 3) (v := ?_) rfl (by kernel_rfl) (by kernel_rfl) (by kernel_rfl) (fun _ _ _ h => h) (Or.inl ⟨by rfl, ?_⟩) (by assumption) ?_
        rotate_left
        · intro w' hSw
          (try dsimp only at hSw)
          go_simp
          all_goals (with_reducible rfl)
        try simp only [Act.put, List.setIfInBounds_toArray, List.set_cons_zero, List.set_cons_succ, List.getElem_toArray, List.getElem_cons_zero, List.getElem_cons_succ]
        refine wpAnyH_take (i := 4) (v := ?_) rfl (by kernel_rfl) (by kernel_rfl) (by kernel_rfl) (fun _ _ _ h => h) (Or.inl ⟨by rfl, ?_⟩) (by assumption) ?_
        rotate_left
        · intro w' hSw
          (try dsimp only at hSw)
          go_simp
          all_goals (with_reducible rfl)
        try simp only [Act.put, List.setIfInBounds_toArray, List.set_cons_zero, List.set_cons_succ, List.getElem_toArray, List.getElem_cons_zero, List.getElem_cons_succ]
        refine wpAnyH_take (i := 5) (v := ?_) rfl (by kernel_rfl) (by kernel_rfl) (by kernel_rfl) (fun _ _ _ h => h) (Or.inl ⟨by rfl, ?_⟩) (by assumption) ?_
        rotate_left
        · intro w' hSw
          (try dsimp only at hSw)
          go_simp
          all_goals (with_reducible rfl)
        try simp only [Act.put, List.setIfInBounds_toArray, List.set_cons_zero, List.set_cons_succ, List.getElem_toArray, List.getElem_cons_zero, List.getElem_cons_succ]
        obtain ⟨⟨_, _, _, _, _⟩, z0, z1, z2, z3, z4⟩ := HG.out.five
        have HFIN := Lib.hid (doMid_own HB.out HGL.out HG.out HD.out HA.out HW.out)
        have HSF := Lib.hid (HSS.out _ HFIN.out.choose_spec.choose_spec.2.2.1)
        refine wpAnyH_ready (rs := [7]) (by kernel_rfl) (by simp) ?_
        refine AllReadyH.cons rfl (fun K hK => ?_) AllReadyH.nil
        go_simp
        refine hK.out _ _ HSF.out (fun hHeld => ?_)
        clear hK
        try simp only [Act.put, List.setIfInBounds_toArray, List.set_cons_zero, List.set_cons_succ, List.getElem_toArray, List.getElem_cons_zero, List.getElem_cons_succ]
        refine wpAnyH_take (i := 8) (v := ?_) rfl (by kernel_rfl) (by kernel_rfl) (by kernel_rfl) (fun _ _ _ h => h) (Or.inl ⟨by rfl, ?_⟩) (by assumption) ?_
        rotate_left
        · intro w' hSw
          (try dsimp only at hSw)
          go_simp
          all_goals (with_reducible rfl)
        try simp only [Act.put, List.setIfInBounds_toArray, List.set_cons_zero, List.set_cons_succ, List.getElem_toArray, List.getElem_cons_zero, List.getElem_cons_succ]
        refine wpAnyH_done (by kernel_rfl) ?_ _
        clear hHeld HSF z0 z1 z2 z3 z4
        go_wp2_with fail
        go_meet
        case rel => exact HFIN.out
  case rest =>
    obtain ⟨g3, yy, rfl, rfl, hb3, hg3, hdo, hv3⟩ := hcut
    obtain rfl : yy = 0 := doIs_n hdo n1
    rcases hv3 with ⟨h, _⟩ | ⟨_, hvar⟩
    · exact absurd rfl h
    change WVar u _ g3 nA at hvar
    obtain ⟨B0, b0, B1, b1, B2, b2, B3, b3, B4, b4, _, hxa, hoa⟩ := hvar
    have hra := (own_rows hoa).1
    have hla : nA.ml.length = 2 := by rw [nA_ml]; rfl
    rw [hla] at hxa hra
    rw [nA_ml] at hra
    generalize nA.ms.length = la0 at hxa
    generalize nA.vs.length = la1 at hxa
    generalize nA.ts.length = la2 at hxa
    generalize nA.ch.length = la4 at hxa
    have HA := Lib.hid hxa
    have HR := Lib.hid hra
    have HBU := Lib.hid (bmore HBU.out hb3 (Nat.le_refl _))
    have HX := Lib.hid (HX.out.below hb3 HX.out.lt)
    have HWI := Lib.hid (HWI.out.below hb3)
    clear hxa hoa hra hla hb3 hg3 hdo HDO
    rename World => u2
    go_upto_region 3 with (fail)
    have HDO := Lib.hid (fun (U : World) (hU : Below u2.heap.size u2 U) => wdo_any (.agg #[.slice A0 nS.ms.length a0, .slice A1 nS.vs.length a1, .slice A2 nS.ts.length a2, .slice A3 nS.ml.length a3, .slice A4 nS.ch.length a4]) nS 2 0 0 nE U (HWI.out.below hU) nS_fit (by decide) (by decide) (by decide))
    go_cut [5, 6] (fun x y wx => DoMid u2 nS ⟨2, 0, 0, nE⟩ x y wx)
    case first => as_aux_lemma =>
      have HSS : Hid (∀ w', Below u2.heap.size u2 w' → w'.cell? ⟨g1, 0, none⟩ = some (.slice A0 nS.ms.length a0) ∧ w'.cell? ⟨g1, 1, none⟩ = some (.slice A1 nS.vs.length a1) ∧ w'.cell? ⟨g1, 2, none⟩ = some (.slice A2 nS.ts.length a2) ∧ w'.cell? ⟨g1, 3, none⟩ = some (.slice A3 nS.ml.length a3) ∧ w'.cell? ⟨g1, 4, none⟩ = some (.slice A4 nS.ch.length a4)) := Lib.hid (fun w' hb => (HX.out.below hb HX.out.lt).five.1)
      have HB := Lib.hid (show Below u2.heap.size u2 u2.drew from (Below.refl _ _).drew)
      refine wp_region_held_drew (S := fun w' => w'.cell? ⟨g1, 0, none⟩ = some (.slice A0 nS.ms.length a0) ∧ w'.cell? ⟨g1, 1, none⟩ = some (.slice A1 nS.vs.length a1) ∧ w'.cell? ⟨g1, 2, none⟩ = some (.slice A2 nS.ts.length a2) ∧ w'.cell? ⟨g1, 3, none⟩ = some (.slice A3 nS.ml.length a3) ∧ w'.cell? ⟨g1, 4, none⟩ = some (.slice A4 nS.ch.length a4)) (by kernel_rfl) (HSS.out _ HB.out) (fun hHeld => ?_)
      refine wpAnyH_take (i := 0) (v := ?_) rfl (by kernel_rfl) (by kernel_rfl) (by kernel_rfl) (fun _ _ _ h => h) (Or.inl ⟨by rfl, ?_⟩) (by assumption) ?_
      rotate_left
      · intro w' hSw
        (try dsimp only at hSw)
        go_simp
        all_goals (with_reducible rfl)
      try simp only [Act.put, List.setIfInBounds_toArray, List.set_cons_zero, List.set_cons_succ, List.getElem_toArray, List.getElem_cons_zero, List.getElem_cons_succ]
      have HSS2 := HSS
      obtain ⟨ud, hud⟩ : ∃ ud, ud = u2.drew := ⟨_, rfl⟩
      rw [← hud] at HB hHeld ⊢
      clear hud HSS2
      refine wpAnyH_ready (rs := [1, 6]) (by kernel_rfl) (by simp) ?_
      refine AllReadyH.cons rfl (fun K hK => ?_) (AllReadyH.cons rfl (fun K hK => ?_) AllReadyH.nil)
      · skip
        go_simp
        refine (ldeliver_any 0 _).mono ?_
        rintro e wb1 ⟨rfl, hb⟩
        have HB := Lib.hid (bmore HB.out hb (Nat.le_refl _))
        clear hb
        refine hK.out _ _ (HSS.out _ HB.out) (fun hHeld => ?_)
        clear hK
        try simp only [Act.put, List.setIfInBounds_toArray, List.set_cons_zero, List.set_cons_succ, List.getElem_toArray, List.getElem_cons_zero, List.getElem_cons_succ]
        refine wpAnyH_ready (rs := [2, 6]) (by kernel_rfl) (by simp) ?_
        refine AllReadyH.cons rfl (fun K hK => ?_) (AllReadyH.cons rfl (fun K hK => ?_) AllReadyH.nil)
        · skip
          go_simp
          refine (HDO.out _ HB.out).mono ?_
          rintro e wd2 ⟨v5, y5, rfl, hd5, hb, hv5⟩
          have HSZ := Lib.hid HB.out.size
          have HB := Lib.hid (bmore HB.out hb (Nat.le_refl _))
          skip
          have HD := Lib.hid hd5
          clear hb hd5
          rcases hv5 with ⟨hn5, rfl⟩ | ⟨rfl, ho5⟩
          · have HN := Lib.hid hn5
            clear hn5
            unfold zeroW
            refine hK.out _ _ (HSS.out _ HB.out) (fun hHeld => ?_)
            clear hK
            try simp only [Act.put, List.setIfInBounds_toArray, List.set_cons_zero, List.set_cons_succ, List.getElem_toArray, List.getElem_cons_zero, List.getElem_cons_succ]
            refine wpAnyH_take (i := 3) (v := ?_) rfl (by kernel_rfl) (by kernel_rfl) (by kernel_rfl) (fun _ _ _ h => h) (Or.inl ⟨by rfl, ?_⟩) (by assumption) ?_
            rotate_left
            · intro w' hSw
              (try dsimp only at hSw)
              go_simp
              all_goals (with_reducible rfl)
            try simp only [Act.put, List.setIfInBounds_toArray, List.set_cons_zero, List.set_cons_succ, List.getElem_toArray, List.getElem_cons_zero, List.getElem_cons_succ]
            refine wpAnyH_take (i := 4) (v := ?_) rfl (by kernel_rfl) (by kernel_rfl) (by kernel_rfl) (fun _ _ _ h => h) (Or.inl ⟨by rfl, ?_⟩) (by assumption) ?_
            rotate_left
            · intro w' hSw
              (try dsimp only at hSw)
              go_simp
              all_goals (with_reducible rfl)
            try simp only [Act.put, List.setIfInBounds_toArray, List.set_cons_zero, List.set_cons_succ, List.getElem_toArray, List.getElem_cons_zero, List.getElem_cons_succ]
            refine wpAnyH_take (i := 5) (v := ?_) rfl (by kernel_rfl) (by kernel_rfl) (by kernel_rfl) (fun _ _ _ h => h) (Or.inl ⟨by rfl, ?_⟩) (by assumption) ?_
            rotate_left
            · intro w' hSw
              (try dsimp only at hSw)
              go_simp
              all_goals (with_reducible rfl)
            try simp only [Act.put, List.setIfInBounds_toArray, List.set_cons_zero, List.set_cons_succ, List.getElem_toArray, List.getElem_cons_zero, List.getElem_cons_succ]
            refine wpAnyH_ready (rs := [6]) (by kernel_rfl) (by simp) ?_
            refine AllReadyH.cons rfl (fun K hK => ?_) AllReadyH.nil
            go_simp
            have hb : Below wd2.heap.size wd2 (wd2.alloc (.cells #[.slice none 0 0, .slice none 0 0, .slice none 0 0, .slice none 0 0, .slice none 0 0] 28)) := (Below.refl _ _).alloc (Nat.le_refl _) _
            have HG := Lib.hid (Box.new wd2 28 #[.slice none 0 0, .slice none 0 0, .slice none 0 0, .slice none 0 0, .slice none 0 0])
            have HGL := Lib.hid (HB.out.size)
            have HB := Lib.hid (bmore HB.out hb (Nat.le_refl _))
            clear hb
            refine hK.out _ _ (HSS.out _ HB.out) (fun hHeld => ?_)
            clear hK
            try simp only [Act.put, List.setIfInBounds_toArray, List.set_cons_zero, List.set_cons_succ, List.getElem_toArray, List.getElem_cons_zero, List.getElem_cons_succ]
            generalize wd2.alloc (.cells #[.slice none 0 0, .slice none 0 0, .slice none 0 0, .slice none 0 0, .slice none 0 0] 28) = wa3 at HB HG hHeld ⊢
            generalize wd2.heap.size = gx at HG HGL ⊢
            obtain ⟨⟨_, _, _, _, _⟩, z0, z1, z2, z3, z4⟩ := HG.out.five
            have HFIN := Lib.hid (doMid_zero HB.out HGL.out HG.out HD.out HN.out)
            have HSF := Lib.hid (HSS.out _ HFIN.out.choose_spec.choose_spec.2.2.1)
            refine wpAnyH_ready (rs := [7]) (by kernel_rfl) (by simp) ?_
            refine AllReadyH.cons rfl (fun K hK => ?_) AllReadyH.nil
            go_simp
            refine hK.out _ _ HSF.out (fun hHeld => ?_)
            clear hK
            try simp only [Act.put, List.setIfInBounds_toArray, List.set_cons_zero, List.set_cons_succ, List.getElem_toArray, List.getElem_cons_zero, List.getElem_cons_succ]
            refine wpAnyH_take (i := 8) (v := ?_) rfl (by kernel_rfl) (by kernel_rfl) (by kernel_rfl) (fun _ _ _ h => h) (Or.inl ⟨by rfl, ?_⟩) (by assumption) ?_
            rotate_left
            · intro w' hSw
              (try dsimp only at hSw)
              go_simp
              all_goals (with_reducible rfl)
            try simp only [Act.put, List.setIfInBounds_toArray, List.set_cons_zero, List.set_cons_succ, List.getElem_toArray, List.getElem_cons_zero, List.getElem_cons_succ]
            refine wpAnyH_done (by kernel_rfl) ?_ _
            clear hHeld HSF z0 z1 z2 z3 z4
            go_wp2_with fail
            go_meet
            case rel => exact HFIN.out
          · obtain ⟨wn, hwn⟩ : ∃ wn, DC.aft nS ⟨2, 0, 0, nE⟩ = wn := ⟨_, rfl⟩
            rw [hwn] at ho5
            have HA := Lib.hid hwn
            obtain ⟨E0, f0, E1, f1, E2, f2, E3, f3, E4, f4, rfl⟩ := ho5.form
            have HW := Lib.hid (ho5.mono HSZ.out)
            clear ho5 hwn
            refine hK.out _ _ (HSS.out _ HB.out) (fun hHeld => ?_)
            clear hK
            try simp only [Act.put, List.setIfInBounds_toArray, List.set_cons_zero, List.set_cons_succ, List.getElem_toArray, List.getElem_cons_zero, List.getElem_cons_succ]
            refine wpAnyH_take (i := 3) (v := ?_) rfl (by kernel_rfl) (by kernel_rfl) (by kernel_rfl) (fun _ _ _ h => h) (Or.inl ⟨by rfl, ?_⟩) (by assumption) ?_
            rotate_left
            · intro w' hSw
              (try dsimp only at hSw)
              go_simp
              all_goals (with_reducible rfl)
            try simp only [Act.put, List.setIfInBounds_toArray, List.set_cons_zero, List.set_cons_succ, List.getElem_toArray, List.getElem_cons_zero, List.getElem_cons_succ]
            refine wpAnyH_take (i := 4) (v := ?_) rfl (by kernel_rfl) (by kernel_rfl) (by kernel_rfl) (fun _ _ _ h => h) (Or.inl ⟨by rfl, ?_⟩) (by assumption) ?_
            rotate_left
            · intro w' hSw
              (try dsimp only at hSw)
              go_simp
              all_goals (with_reducible rfl)
            try simp only [Act.put, List.setIfInBounds_toArray, List.set_cons_zero, List.set_cons_succ, List.getElem_toArray, List.getElem_cons_zero, List.getElem_cons_succ]
            refine wpAnyH_take (i := 5) (v := ?_) rfl (by kernel_rfl) (by kernel_rfl) (by kernel_rfl) (fun _ _ _ h => h) (Or.inl ⟨by rfl, ?_⟩) (by assumption) ?_
            rotate_left
            · intro w' hSw
              (try dsimp only at hSw)
              go_simp
              all_goals (with_reducible rfl)
            try simp only [Act.put, List.setIfInBounds_toArray, List.set_cons_zero, List.set_cons_succ, List.getElem_toArray, List.getElem_cons_zero, List.getElem_cons_succ]
            refine wpAnyH_ready (rs := [6]) (by kernel_rfl) (by simp) ?_
            refine AllReadyH.cons rfl (fun K hK => ?_) AllReadyH.nil
            go_simp
            have hb : Below wd2.heap.size wd2 (wd2.alloc (.cells #[.slice none 0 0, .slice none 0 0, .slice none 0 0, .slice none 0 0, .slice none 0 0] 28)) := (Below.refl _ _).alloc (Nat.le_refl _) _
            have HG := Lib.hid (Box.new wd2 28 #[.slice none 0 0, .slice none 0 0, .slice none 0 0, .slice none 0 0, .slice none 0 0])
            have HGL := Lib.hid (HB.out.size)
            have HB := Lib.hid (bmore HB.out hb (Nat.le_refl _))
            have HW := Lib.hid (HW.out.below hb)
            clear hb
            refine hK.out _ _ (HSS.out _ HB.out) (fun hHeld => ?_)
            clear hK
            try simp only [Act.put, List.setIfInBounds_toArray, List.set_cons_zero, List.set_cons_succ, List.getElem_toArray, List.getElem_cons_zero, List.getElem_cons_succ]
            generalize wd2.alloc (.cells #[.slice none 0 0, .slice none 0 0, .slice none 0 0, .slice none 0 0, .slice none 0 0] 28) = wa4 at HB HG HW hHeld ⊢
            generalize wd2.heap.size = gx at HG HGL ⊢
            obtain ⟨⟨_, _, _, _, _⟩, z0, z1, z2, z3, z4⟩ := HG.out.five
            have HFIN := Lib.hid (doMid_own HB.out HGL.out HG.out HD.out HA.out HW.out)
            have HSF := Lib.hid (HSS.out _ HFIN.out.choose_spec.choose_spec.2.2.1)
            refine wpAnyH_ready (rs := [7]) (by kernel_rfl) (by simp) ?_
            refine AllReadyH.cons rfl (fun K hK => ?_) AllReadyH.nil
            go_simp
            refine hK.out _ _ HSF.out (fun hHeld => ?_)
            clear hK
            try simp only [Act.put, List.setIfInBounds_toArray, List.set_cons_zero, List.set_cons_succ, List.getElem_toArray, List.getElem_cons_zero, List.getElem_cons_succ]
            refine wpAnyH_take (i := 8) (v := ?_) rfl (by kernel_rfl) (by kernel_rfl) (by kernel_rfl) (fun _ _ _ h => h) (Or.inl ⟨by rfl, ?_⟩) (by assumption) ?_
            rotate_left
            · intro w' hSw
              (try dsimp only at hSw)
              go_simp
              all_goals (with_reducible rfl)
            try simp only [Act.put, List.setIfInBounds_toArray, List.set_cons_zero, List.set_cons_succ, List.getElem_toArray, List.getElem_cons_zero, List.getElem_cons_succ]
            refine wpAnyH_done (by kernel_rfl) ?_ _
            clear hHeld HSF z0 z1 z2 z3 z4
            go_wp2_with fail
            go_meet
            case rel => exact HFIN.out
        · skip
          go_simp
          have hb : Below wb1.heap.size wb1 (wb1.alloc (.cells #[.slice none 0 0, .slice none 0 0, .slice none 0 0, .slice none 0 0, .slice none 0 0] 28)) := (Below.refl _ _).alloc (Nat.le_refl _) _
          have HG := Lib.hid (Box.new wb1 28 #[.slice none 0 0, .slice none 0 0, .slice none 0 0, .slice none 0 0, .slice none 0 0])
          have HGL := Lib.hid (HB.out.size)
          have HB := Lib.hid (bmore HB.out hb (Nat.le_refl _))
          clear hb
          refine hK.out _ _ (HSS.out _ HB.out) (fun hHeld => ?_)
          clear hK
          try simp only [Act.put, List.setIfInBounds_toArray, List.set_cons_zero, List.set_cons_succ, List.getElem_toArray, List.getElem_cons_zero, List.getElem_cons_succ]
          generalize wb1.alloc (.cells #[.slice none 0 0, .slice none 0 0, .slice none 0 0, .slice none 0 0, .slice none 0 0] 28) = wa5 at HB HG hHeld ⊢
          generalize wb1.heap.size = gx at HG HGL ⊢
          refine wpAnyH_ready (rs := [2]) (by kernel_rfl) (by simp) ?_
          refine AllReadyH.cons rfl (fun K hK => ?_) AllReadyH.nil
          go_simp
          refine (HDO.out _ HB.out).mono ?_
          rintro e wd6 ⟨v5, y5, rfl, hd5, hb, hv5⟩
          have HSZ := Lib.hid HB.out.size
          have HB := Lib.hid (bmore HB.out hb (Nat.le_refl _))
          have HG := Lib.hid (HG.out.below hb HG.out.lt)
          have HD := Lib.hid hd5
          clear hb hd5
          rcases hv5 with ⟨hn5, rfl⟩ | ⟨rfl, ho5⟩
          · have HN := Lib.hid hn5
            clear hn5
            unfold zeroW
            refine hK.out _ _ (HSS.out _ HB.out) (fun hHeld => ?_)
            clear hK
            try simp only [Act.put, List.setIfInBounds_toArray, List.set_cons_zero, List.set_cons_succ, List.getElem_toArray, List.getElem_cons_zero, List.getElem_cons_succ]
            refine wpAnyH_take (i := 3) (v := ?_) rfl (by kernel_rfl) (by kernel_rfl) (by kernel_rfl) (fun _ _ _ h => h) (Or.inl ⟨by rfl, ?_⟩) (by assumption) ?_
            rotate_left
            · intro w' hSw
              (try dsimp only at hSw)
              go_simp
              all_goals (with_reducible rfl)
            try simp only [Act.put, List.setIfInBounds_toArray, List.set_cons_zero, List.set_cons_succ, List.getElem_toArray, List.getElem_cons_zero, List.getElem_cons_succ]
            refine wpAnyH_take (i := 4) (v := ?_) rfl (by kernel_rfl) (by kernel_rfl) (by kernel_rfl) (fun _ _ _ h => h) (Or.inl ⟨by rfl, ?_⟩) (by assumption) ?_
            rotate_left
            · intro w' hSw
              (try dsimp only at hSw)
              go_simp
              all_goals (with_reducible rfl)
            try simp only [Act.put, List.setIfInBounds_toArray, List.set_cons_zero, List.set_cons_succ, List.getElem_toArray, List.getElem_cons_zero, List.getElem_cons_succ]
            refine wpAnyH_take (i := 5) (v := ?_) rfl (by kernel_rfl) (by kernel_rfl) (by kernel_rfl) (fun _ _ _ h => h) (Or.inl ⟨by rfl, ?_⟩) (by assumption) ?_
            rotate_left
            · intro w' hSw
              (try dsimp only at hSw)
              go_simp
              all_goals (with_reducible rfl)
            try simp only [Act.put, List.setIfInBounds_toArray, List.set_cons_zero, List.set_cons_succ, List.getElem_toArray, List.getElem_cons_zero, List.getElem_cons_succ]
            obtain ⟨⟨_, _, _, _, _⟩, z0, z1, z2, z3, z4⟩ := HG.out.five
            have HFIN := Lib.hid (doMid_zero HB.out HGL.out HG.out HD.out HN.out)
            have HSF := Lib.hid (HSS.out _ HFIN.out.choose_spec.choose_spec.2.2.1)
            refine wpAnyH_ready (rs := [7]) (by kernel_rfl) (by simp) ?_
            refine AllReadyH.cons rfl (fun K hK => ?_) AllReadyH.nil
            go_simp
            refine hK.out _ _ HSF.out (fun hHeld => ?_)
            clear hK
            try simp only [Act.put, List.setIfInBounds_toArray, List.set_cons_zero, List.set_cons_succ, List.getElem_toArray, List.getElem_cons_zero, List.getElem_cons_succ]
            refine wpAnyH_take (i := 8) (v := ?_) rfl (by kernel_rfl) (by kernel_rfl) (by kernel_rfl) (fun _ _ _ h => h) (Or.inl ⟨by rfl, ?_⟩) (by assumption) ?_
            rotate_left
            · intro w' hSw
              (try dsimp only at hSw)
              go_simp
              all_goals (with_reducible rfl)
            try simp only [Act.put, List.setIfInBounds_toArray, List.set_cons_zero, List.set_cons_succ, List.getElem_toArray, List.getElem_cons_zero, List.getElem_cons_succ]
            refine wpAnyH_done (by kernel_rfl) ?_ _
            clear hHeld HSF z0 z1 z2 z3 z4
            go_wp2_with fail
            go_meet
            case rel => exact HFIN.out
          · obtain ⟨wn, hwn⟩ : ∃ wn, DC.aft nS ⟨2, 0, 0, nE⟩ = wn := ⟨_, rfl⟩
            rw [hwn] at ho5
            have HA := Lib.hid hwn
            obtain ⟨E0, f0, E1, f1, E2, f2, E3, f3, E4, f4, rfl⟩ := ho5.form
            have HW := Lib.hid (ho5.mono HSZ.out)
            clear ho5 hwn
            refine hK.out _ _ (HSS.out _ HB.out) (fun hHeld => ?_)
            clear hK
            try simp only [Act.put, List.setIfInBounds_toArray, List.set_cons_zero, List.set_cons_succ, List.getElem_toArray, List.getElem_cons_zero, List.getElem_cons_succ]
            refine wpAnyH_take (i := 3) (v := ?_) rfl (by kernel_rfl) (by kernel_rfl) (by kernel_rfl) (fun _ _ _ h => h) (Or.inl ⟨by rfl, ?_⟩) (by assumption) ?_
            rotate_left
            · intro w' hSw
              (try dsimp only at hSw)
              go_simp
              all_goals (with_reducible rfl)
            try simp only [Act.put, List.setIfInBounds_toArray, List.set_cons_zero, List.set_cons_succ, List.getElem_toArray, List.getElem_cons_zero, List.getElem_cons_succ]
            refine wpAnyH_take (i := 4) (v := ?_) rfl (by kernel_rfl) (by kernel_rfl) (by kernel_rfl) (fun _ _ _ h => h) (Or.inl ⟨by rfl, ?_⟩) (by assumption) ?_
            rotate_left
            · intro w' hSw
              (try dsimp only at hSw)
              go_simp
              all_goals (with_reducible rfl)
            try simp only [Act.put, List.setIfInBounds_toArray, List.set_cons_zero, List.set_cons_succ, List.getElem_toArray, List.getElem_cons_zero, List.getElem_cons_succ]
            refine wpAnyH_take (i := 5) (v := ?_) rfl (by kernel_rfl) (by kernel_rfl) (by kernel_rfl) (fun _ _ _ h => h) (Or.inl ⟨by rfl, ?_⟩) (by assumption) ?_
            rotate_left
            · intro w' hSw
              (try dsimp only at hSw)
              go_simp
              all_goals (with_reducible rfl)
            try simp only [Act.put, List.setIfInBounds_toArray, List.set_cons_zero, List.set_cons_succ, List.getElem_toArray, List.getElem_cons_zero, List.getElem_cons_succ]
            obtain ⟨⟨_, _, _, _, _⟩, z0, z1, z2, z3, z4⟩ := HG.out.five
            have HFIN := Lib.hid (doMid_own HB.out HGL.out HG.out HD.out HA.out HW.out)
            have HSF := Lib.hid (HSS.out _ HFIN.out.choose_spec.choose_spec.2.2.1)
            refine wpAnyH_ready (rs := [7]) (by kernel_rfl) (by simp) ?_
            refine AllReadyH.cons rfl (fun K hK => ?_) AllReadyH.nil
            go_simp
            refine hK.out _ _ HSF.out (fun hHeld => ?_)
            clear hK
            try simp only [Act.put, List.setIfInBounds_toArray, List.set_cons_zero, List.set_cons_succ, List.getElem_toArray, List.getElem_cons_zero, List.getElem_cons_succ]
            refine wpAnyH_take (i := 8) (v := ?_) rfl (by kernel_rfl) (by kernel_rfl) (by kernel_rfl) (fun _ _ _ h => h) (Or.inl ⟨by rfl, ?_⟩) (by assumption) ?_
            rotate_left
            · intro w' hSw
              (try dsimp only at hSw)
              go_simp
              all_goals (with_reducible rfl)
            try simp only [Act.put, List.setIfInBounds_toArray, List.set_cons_zero, List.set_cons_succ, List.getElem_toArray, List.getElem_cons_zero, List.getElem_cons_succ]
            refine wpAnyH_done (by kernel_rfl) ?_ _
            clear hHeld HSF z0 z1 z2 z3 z4
            go_wp2_with fail
            go_meet
            case rel => exact HFIN.out
      · skip
        go_simp
        have hb : Below ud.heap.size ud (ud.alloc (.cells #[.slice none 0 0, .slice none 0 0, .slice none 0 0, .slice none 0 0, .slice none 0 0] 28)) := (Below.refl _ _).alloc (Nat.le_refl _) _
        have HG := Lib.hid (Box.new ud 28 #[.slice none 0 0, .slice none 0 0, .slice none 0 0, .slice none 0 0, .slice none 0 0])
        have HGL := Lib.hid (HB.out.size)
        have HB := Lib.hid (bmore HB.out hb (Nat.le_refl _))
        clear hb
        refine hK.out _ _ (HSS.out _ HB.out) (fun hHeld => ?_)
        clear hK
        try simp only [Act.put, List.setIfInBounds_toArray, List.set_cons_zero, List.set_cons_succ, List.getElem_toArray, List.getElem_cons_zero, List.getElem_cons_succ]
        generalize ud.alloc (.cells #[.slice none 0 0, .slice none 0 0, .slice none 0 0, .slice none 0 0, .slice none 0 0] 28) = wa7 at HB HG hHeld ⊢
        generalize ud.heap.size = gx at HG HGL ⊢
        refine wpAnyH_ready (rs := [1]) (by kernel_rfl) (by simp) ?_
        refine AllReadyH.cons rfl (fun K hK => ?_) AllReadyH.nil
        go_simp
        refine (ldeliver_any 0 _).mono ?_
        rintro e wb8 ⟨rfl, hb⟩
        have HB := Lib.hid (bmore HB.out hb (Nat.le_refl _))
        have HG := Lib.hid (HG.out.below hb HG.out.lt)
        clear hb
        refine hK.out _ _ (HSS.out _ HB.out) (fun hHeld => ?_)
        clear hK
        try simp only [Act.put, List.setIfInBounds_toArray, List.set_cons_zero, List.set_cons_succ, List.getElem_toArray, List.getElem_cons_zero, List.getElem_cons_succ]
        refine wpAnyH_ready (rs := [2]) (by kernel_rfl) (by simp) ?_
        refine AllReadyH.cons rfl (fun K hK => ?_) AllReadyH.nil
        go_simp
        refine (HDO.out _ HB.out).mono ?_
        rintro e wd9 ⟨v5, y5, rfl, hd5, hb, hv5⟩
        have HSZ := Lib.hid HB.out.size
        have HB := Lib.hid (bmore HB.out hb (Nat.le_refl _))
        have HG := Lib.hid (HG.out.below hb HG.out.lt)
        have HD := Lib.hid hd5
        clear hb hd5
        rcases hv5 with ⟨hn5, rfl⟩ | ⟨rfl, ho5⟩
        · have HN := Lib.hid hn5
          clear hn5
          unfold zeroW
          refine hK.out _ _ (HSS.out _ HB.out) (fun hHeld => ?_)
          clear hK
          try simp only [Act.put, List.setIfInBounds_toArray, List.set_cons_zero, List.set_cons_succ, List.getElem_toArray, List.getElem_cons_zero, List.getElem_cons_succ]
          refine wpAnyH_take (i := 3) (v := ?_) rfl (by kernel_rfl) (by kernel_rfl) (by kernel_rfl) (fun _ _ _ h => h) (Or.inl ⟨by rfl, ?_⟩) (by assumption) ?_
          rotate_left
          · intro w' hSw
            (try dsimp only at hSw)
            go_simp
            all_goals (with_reducible rfl)
          try simp only [Act.put, List.setIfInBounds_toArray, List.set_cons_zero, List.set_cons_succ, List.getElem_toArray, List.getElem_cons_zero, List.getElem_cons_succ]
          refine wpAnyH_take (i := 4) (v := ?_) rfl (by kernel_rfl) (by kernel_rfl) (by kernel_rfl) (fun _ _ _ h => h) (Or.inl ⟨by rfl, ?_⟩) (by assumption) ?_
          rotate_left
          · intro w' hSw
            (try dsimp only at hSw)
            go_simp
            all_goals (with_reducible rfl)
          try simp only [Act.put, List.setIfInBounds_toArray, List.set_cons_zero, List.set_cons_succ, List.getElem_toArray, List.getElem_cons_zero, List.getElem_cons_succ]
          refine wpAnyH_take (i := 5) (v := ?_) rfl (by kernel_rfl) (by kernel_rfl) (by kernel_rfl) (fun _ _ _ h => h) (Or.inl ⟨by rfl, ?_⟩) (by assumption) ?_
          rotate_left
          · intro w' hSw
            (try dsimp only at hSw)
            go_simp
            all_goals (with_reducible rfl)
          try simp only [Act.put, List.setIfInBounds_toArray, List.set_cons_zero, List.set_cons_succ, List.getElem_toArray, List.getElem_cons_zero, List.getElem_cons_succ]
          obtain ⟨⟨_, _, _, _, _⟩, z0, z1, z2, z3, z4⟩ := HG.out.five
          have HFIN := Lib.hid (doMid_zero HB.out HGL.out HG.out HD.out HN.out)
          have HSF := Lib.hid (HSS.out _ HFIN.out.choose_spec.choose_spec.2.2.1)
          refine wpAnyH_ready (rs := [7]) (by kernel_rfl) (by simp) ?_
          refine AllReadyH.cons rfl (fun K hK => ?_) AllReadyH.nil
          go_simp
          refine hK.out _ _ HSF.out (fun hHeld => ?_)
          clear hK
          try simp only [Act.put, List.setIfInBounds_toArray, List.set_cons_zero, List.set_cons_succ, List.getElem_toArray, List.getElem_cons_zero, List.getElem_cons_succ]
          refine wpAnyH_take (i := 8) (v := ?_) rfl (by kernel_rfl) (by kernel_rfl) (by kernel_rfl) (fun _ _ _ h => h) (Or.inl ⟨by rfl, ?_⟩) (by assumption) ?_
          rotate_left
          · intro w' hSw
            (try dsimp only at hSw)
            go_simp
            all_goals (with_reducible rfl)
          try simp only [Act.put, List.setIfInBounds_toArray, List.set_cons_zero, List.set_cons_succ, List.getElem_toArray, List.getElem_cons_zero, List.getElem_cons_succ]
          refine wpAnyH_done (by kernel_rfl) ?_ _
          clear hHeld HSF z0 z1 z2 z3 z4
          go_wp2_with fail
          go_meet
          case rel => exact HFIN.out
        · obtain ⟨wn, hwn⟩ : ∃ wn, DC.aft nS ⟨2, 0, 0, nE⟩ = wn := ⟨_, rfl⟩
          rw [hwn] at ho5
          have HA := Lib.hid hwn
          obtain ⟨E0, f0, E1, f1, E2, f2, E3, f3, E4, f4, rfl⟩ := ho5.form
          have HW := Lib.hid (ho5.mono HSZ.out)
          clear ho5 hwn
          refine hK.out _ _ (HSS.out _ HB.out) (fun hHeld => ?_)
          clear hK
          try simp only [Act.put, List.setIfInBounds_toArray, List.set_cons_zero, List.set_cons_succ, List.getElem_toArray, List.getElem_cons_zero, List.getElem_cons_succ]
          refine wpAnyH_take (i := 3) (v := ?_) rfl (by kernel_rfl) (by kernel_rfl) (by kernel_rfl) (fun _ _ _ h => h) (Or.inl ⟨by rfl, ?_⟩) (by assumption) ?_
          rotate_left
          · intro w' hSw
            (try dsimp only at hSw)
            go_simp
            all_goals (with_reducible rfl)
          try simp only [Act.put, List.setIfInBounds_toArray, List.set_cons_zero, List.set_cons_succ, List.getElem_toArray, List.getElem_cons_zero, List.getElem_cons_succ]
          refine wpAnyH_take (i := 4) (v := ?_) rfl (by kernel_rfl) (by kernel_rfl) (by kernel_rfl) (fun _ _ _ h => h) (Or.inl ⟨by rfl, ?_⟩) (by assumption) ?_
          rotate_left
          · intro w' hSw
            (try dsimp only at hSw)
            go_simp
            all_goals (with_reducible rfl)
          try simp only [Act.put, List.setIfInBounds_toArray, List.set_cons_zero, List.set_cons_succ, List.getElem_toArray, List.getElem_cons_zero, List.getElem_cons_succ]
          refine wpAnyH_take (i := 5) (v := ?_) rfl (by kernel_rfl) (by kernel_rfl) (by kernel_rfl) (fun _ _ _ h => h) (Or.inl ⟨by rfl, ?_⟩) (by assumption) ?_
          rotate_left
          · intro w' hSw
            (try dsimp only at hSw)
            go_simp
            all_goals (with_reducible rfl)
          try simp only [Act.put, List.setIfInBounds_toArray, List.set_cons_zero, List.set_cons_succ, List.getElem_toArray, List.getElem_cons_zero, List.getElem_cons_succ]
          obtain ⟨⟨_, _, _, _, _⟩, z0, z1, z2, z3, z4⟩ := HG.out.five
          have HFIN := Lib.hid (doMid_own HB.out HGL.out HG.out HD.out HA.out HW.out)
          have HSF := Lib.hid (HSS.out _ HFIN.out.choose_spec.choose_spec.2.2.1)
          refine wpAnyH_ready (rs := [7]) (by kernel_rfl) (by simp) ?_
          refine AllReadyH.cons rfl (fun K hK => ?_) AllReadyH.nil
          go_simp
          refine hK.out _ _ HSF.out (fun hHeld => ?_)
          clear hK
          try simp only [Act.put, List.setIfInBounds_toArray, List.set_cons_zero, List.set_cons_succ, List.getElem_toArray, List.getElem_cons_zero, List.getElem_cons_succ]
          refine wpAnyH_take (i := 8) (v := ?_) rfl (by kernel_rfl) (by kernel_rfl) (by kernel_rfl) (fun _ _ _ h => h) (Or.inl ⟨by rfl, ?_⟩) (by assumption) ?_
          rotate_left
          · intro w' hSw
            (try dsimp only at hSw)
            go_simp
            all_goals (with_reducible rfl)
          try simp only [Act.put, List.setIfInBounds_toArray, List.set_cons_zero, List.set_cons_succ, List.getElem_toArray, List.getElem_cons_zero, List.getElem_cons_succ]
          refine wpAnyH_done (by kernel_rfl) ?_ _
          clear hHeld HSF z0 z1 z2 z3 z4
          go_wp2_with fail
          go_meet
          case rel => exact HFIN.out
    case rest =>
      obtain ⟨ggu3, yy, rfl, rfl, hb3, _, hdo, _⟩ := hcut
      obtain rfl : yy = 6 := doIs_n hdo n2
      have HBU := Lib.hid (bmore HBU.out hb3 (Nat.le_refl _))
      have HA := Lib.hid (HA.out.below hb3 HA.out.lt)
      have HR := Lib.hid (own_below3 HR.out hb3)
      have HX := Lib.hid (HX.out.below hb3 HX.out.lt)
      have HWI := Lib.hid (HWI.out.below hb3)
      clear hb3 hdo HDO
      rename World => u3
      go_upto_region 4 with (fail)
      have HDO := Lib.hid (fun (U : World) (hU : Below u3.heap.size u3 U) => wdo_any (.agg #[.slice A0 nS.ms.length a0, .slice A1 nS.vs.length a1, .slice A2 nS.ts.length a2, .slice A3 nS.ml.length a3, .slice A4 nS.ch.length a4]) nS 1 6 0 exX U (HWI.out.below hU) nS_fit (by decide) (by decide) (by decide))
      go_cut [7, 8] (fun x y wx => DoMid u3 nS ⟨1, 6, 0, exX⟩ x y wx)
      case first => as_aux_lemma =>
        have HSS : Hid (∀ w', Below u3.heap.size u3 w' → w'.cell? ⟨g1, 0, none⟩ = some (.slice A0 nS.ms.length a0) ∧ w'.cell? ⟨g1, 1, none⟩ = some (.slice A1 nS.vs.length a1) ∧ w'.cell? ⟨g1, 2, none⟩ = some (.slice A2 nS.ts.length a2) ∧ w'.cell? ⟨g1, 3, none⟩ = some (.slice A3 nS.ml.length a3) ∧ w'.cell? ⟨g1, 4, none⟩ = some (.slice A4 nS.ch.length a4)) := Lib.hid (fun w' hb => (HX.out.below hb HX.out.lt).five.1)
        have HB := Lib.hid (show Below u3.heap.size u3 u3.drew from (Below.refl _ _).drew)
        refine wp_region_held_drew (S := fun w' => w'.cell? ⟨g1, 0, none⟩ = some (.slice A0 nS.ms.length a0) ∧ w'.cell? ⟨g1, 1, none⟩ = some (.slice A1 nS.vs.length a1) ∧ w'.cell? ⟨g1, 2, none⟩ = some (.slice A2 nS.ts.length a2) ∧ w'.cell? ⟨g1, 3, none⟩ = some (.slice A3 nS.ml.length a3) ∧ w'.cell? ⟨g1, 4, none⟩ = some (.slice A4 nS.ch.length a4)) (by kernel_rfl) (HSS.out _ HB.out) (fun hHeld => ?_)
        refine wpAnyH_take (i := 0) (v := ?_) rfl (by kernel_rfl) (by kernel_rfl) (by kernel_rfl) (fun _ _ _ h => h) (Or.inl ⟨by rfl, ?_⟩) (by assumption) ?_
        rotate_left
        · intro w' hSw
          (try dsimp only at hSw)
          go_simp
          all_goals (with_reducible rfl)
        try simp only [Act.put, List.setIfInBounds_toArray, List.set_cons_zero, List.set_cons_succ, List.getElem_toArray, List.getElem_cons_zero, List.getElem_cons_succ]
        have HSS2 := HSS
        obtain ⟨ud, hud⟩ : ∃ ud, ud = u3.drew := ⟨_, rfl⟩
        rw [← hud] at HB hHeld ⊢
        clear hud HSS2
        refine wpAnyH_ready (rs := [1, 6]) (by kernel_rfl) (by simp) ?_
        refine AllReadyH.cons rfl (fun K hK => ?_) (AllReadyH.cons rfl (fun K hK => ?_) AllReadyH.nil)
        · skip
          go_simp
          refine (lbegin_any 6 exX _).mono ?_
          rintro e wb1 ⟨rfl, hb⟩
          have HB := Lib.hid (bmore HB.out hb (Nat.le_refl _))
          clear hb
          refine hK.out _ _ (HSS.out _ HB.out) (fun hHeld => ?_)
          clear hK
          try simp only [Act.put, List.setIfInBounds_toArray, List.set_cons_zero, List.set_cons_succ, List.getElem_toArray, List.getElem_cons_zero, List.getElem_cons_succ]
          refine wpAnyH_ready (rs := [2, 6]) (by kernel_rfl) (by simp) ?_
          refine AllReadyH.cons rfl (fun K hK => ?_) (AllReadyH.cons rfl (fun K hK => ?_) AllReadyH.nil)
          · skip
            go_simp
            refine (HDO.out _ HB.out).mono ?_
            rintro e wd2 ⟨v5, y5, rfl, hd5, hb, hv5⟩
            have HSZ := Lib.hid HB.out.size
            have HB := Lib.hid (bmore HB.out hb (Nat.le_refl _))
            skip
            have HD := Lib.hid hd5
            clear hb hd5
            rcases hv5 with ⟨hn5, rfl⟩ | ⟨rfl, ho5⟩
            · have HN := Lib.hid hn5
              clear hn5
              unfold zeroW
              refine hK.out _ _ (HSS.out _ HB.out) (fun hHeld => ?_)
              clear hK
              try simp only [Act.put, List.setIfInBounds_toArray, List.set_cons_zero, List.set_cons_succ, List.getElem_toArray, List.getElem_cons_zero, List.getElem_cons_succ]
              refine wpAnyH_take (i := 3) (v := ?_) rfl (by kernel_rfl) (by kernel_rfl) (by kernel_rfl) (fun _ _ _ h => h) (Or.inl ⟨by rfl, ?_⟩) (by assumption) ?_
              rotate_left
              · intro w' hSw
                (try dsimp only at hSw)
                go_simp
                all_goals (with_reducible rfl)
              try simp only [Act.put, List.setIfInBounds_toArray, List.set_cons_zero, List.set_cons_succ, List.getElem_toArray, List.getElem_cons_zero, List.getElem_cons_succ]
              refine wpAnyH_take (i := 4) (v := ?_) rfl (by kernel_rfl) (by kernel_rfl) (by kernel_rfl) (fun _ _ _ h => h) (Or.inl ⟨by rfl, ?_⟩) (by assumption) ?_
              rotate_left
              · intro w' hSw
                (try dsimp only at hSw)
                go_simp
                all_goals (with_reducible rfl)
              try simp only [Act.put, List.setIfInBounds_toArray, List.set_cons_zero, List.set_cons_succ, List.getElem_toArray, List.getElem_cons_zero, List.getElem_cons_succ]
              refine wpAnyH_take (i := 5) (v := ?_) rfl (by kernel_rfl) (by kernel_rfl) (by kernel_rfl) (fun _ _ _ h => h) (Or.inl ⟨by rfl, ?_⟩) (by assumption) ?_
              rotate_left
              · intro w' hSw
                (try dsimp only at hSw)
                go_simp
                all_goals (with_reducible rfl)
              try simp only [Act.put, List.setIfInBounds_toArray, List.set_cons_zero, List.set_cons_succ, List.getElem_toArray, List.getElem_cons_zero, List.getElem_cons_succ]
              refine wpAnyH_ready (rs := [6]) (by kernel_rfl) (by simp) ?_
              refine AllReadyH.cons rfl (fun K hK => ?_) AllReadyH.nil
              go_simp
              have hb : Below wd2.heap.size wd2 (wd2.alloc (.cells #[.slice none 0 0, .slice none 0 0, .slice none 0 0, .slice none 0 0, .slice none 0 0] 28)) := (Below.refl _ _).alloc (Nat.le_refl _) _
              have HG := Lib.hid (Box.new wd2 28 #[.slice none 0 0, .slice none 0 0, .slice none 0 0, .slice none 0 0, .slice none 0 0])
              have HGL := Lib.hid (HB.out.size)
              have HB := Lib.hid (bmore HB.out hb (Nat.le_refl _))
              clear hb
              refine hK.out _ _ (HSS.out _ HB.out) (fun hHeld => ?_)
              clear hK
              try simp only [Act.put, List.setIfInBounds_toArray, List.set_cons_zero, List.set_cons_succ, List.getElem_toArray, List.getElem_cons_zero, List.getElem_cons_succ]
              generalize wd2.alloc (.cells #[.slice none 0 0, .slice none 0 0, .slice none 0 0, .slice none 0 0, .slice none 0 0] 28) = wa3 at HB HG hHeld ⊢
              generalize wd2.heap.size = gx at HG HGL ⊢
              obtain ⟨⟨_, _, _, _, _⟩, z0, z1, z2, z3, z4⟩ := HG.out.five
              have HFIN := Lib.hid (doMid_zero HB.out HGL.out HG.out HD.out HN.out)
              have HSF := Lib.hid (HSS.out _ HFIN.out.choose_spec.choose_spec.2.2.1)
              refine wpAnyH_ready (rs := [7]) (by kernel_rfl) (by simp) ?_
              refine AllReadyH.cons rfl (fun K hK => ?_) AllReadyH.nil
              go_simp
              refine hK.out _ _ HSF.out (fun hHeld => ?_)
              clear hK
              try simp only [Act.put, List.setIfInBounds_toArray, List.set_cons_zero, List.set_cons_succ, List.getElem_toArray, List.getElem_cons_zero, List.getElem_cons_succ]
              refine wpAnyH_take (i := 8) (v := ?_) rfl (by kernel_rfl) (by kernel_rfl) (by kernel_rfl) (fun _ _ _ h => h) (Or.inl ⟨by rfl, ?_⟩) (by assumption) ?_
              rotate_left
              · intro w' hSw
                (try dsimp only at hSw)
                go_simp
                all_goals (with_reducible rfl)
              try simp only [Act.put, List.setIfInBounds_toArray, List.set_cons_zero, List.set_cons_succ, List.getElem_toArray, List.getElem_cons_zero, List.getElem_cons_succ]
              refine wpAnyH_done (by kernel_rfl) ?_ _
              clear hHeld HSF z0 z1 z2 z3 z4
              go_wp2_with fail
              go_meet
              case rel => exact HFIN.out
            · obtain ⟨wn, hwn⟩ : ∃ wn, DC.aft nS ⟨1, 6, 0, exX⟩ = wn := ⟨_, rfl⟩
              rw [hwn] at ho5
              have HA := Lib.hid hwn
              obtain ⟨E0, f0, E1, f1, E2, f2, E3, f3, E4, f4, rfl⟩ := ho5.form
              have HW := Lib.hid (ho5.mono HSZ.out)
              clear ho5 hwn
              refine hK.out _ _ (HSS.out _ HB.out) (fun hHeld => ?_)
              clear hK
              try simp only [Act.put, List.setIfInBounds_toArray, List.set_cons_zero, List.set_cons_succ, List.getElem_toArray, List.getElem_cons_zero, List.getElem_cons_succ]
              refine wpAnyH_take (i := 3) (v := ?_) rfl (by kernel_rfl) (by kernel_rfl) (by kernel_rfl) (fun _ _ _ h => h) (Or.inl ⟨by rfl, ?_⟩) (by assumption) ?_
              rotate_left
              · intro w' hSw
                (try dsimp only at hSw)
                go_simp
                all_goals (with_reducible rfl)
              try simp only [Act.put, List.setIfInBounds_toArray, List.set_cons_zero, List.set_cons_succ, List.getElem_toArray, List.getElem_cons_zero, List.getElem_cons_succ]
              refine wpAnyH_take (i := 4) (v := ?_) rfl (by kernel_rfl) (by kernel_rfl) (by kernel_rfl) (fun _ _ _ h => h) (Or.inl ⟨by rfl, ?_⟩) (by assumption) ?_
              rotate_left
              · intro w' hSw
                (try dsimp only at hSw)
                go_simp
                all_goals (with_reducible rfl)
              try simp only [Act.put, List.setIfInBounds_toArray, List.set_cons_zero, List.set_cons_succ, List.getElem_toArray, List.getElem_cons_zero, List.getElem_cons_succ]
              refine wpAnyH_take (i := 5) (v := ?_) rfl (by kernel_rfl) (by kernel_rfl) (by kernel_rfl) (fun _ _ _ h => h) (Or.inl ⟨by rfl, ?_⟩) (by assumption) ?_
              rotate_left
              · intro w' hSw
                (try dsimp only at hSw)
                go_simp
                all_goals (with_reducible rfl)
              try simp only [Act.put, List.setIfInBounds_toArray, List.set_cons_zero, List.set_cons_succ, List.getElem_toArray, List.getElem_cons_zero, List.getElem_cons_succ]
              refine wpAnyH_ready (rs := [6]) (by kernel_rfl) (by simp) ?_
              refine AllReadyH.cons rfl (fun K hK => ?_) AllReadyH.nil
              go_simp
              have hb : Below wd2.heap.size wd2 (wd2.alloc (.cells #[.slice none 0 0, .slice none 0 0, .slice none 0 0, .slice none 0 0, .slice none 0 0] 28)) := (Below.refl _ _).alloc (Nat.le_refl _) _
              have HG := Lib.hid (Box.new wd2 28 #[.slice none 0 0, .slice none 0 0, .slice none 0 0, .slice none 0 0, .slice none 0 0])
              have HGL := Lib.hid (HB.out.size)
              have HB := Lib.hid (bmore HB.out hb (Nat.le_refl _))
              have HW := Lib.hid (HW.out.below hb)
              clear hb
              refine hK.out _ _ (HSS.out _ HB.out) (fun hHeld => ?_)
              clear hK
              try simp only [Act.put, List.setIfInBounds_toArray, List.set_cons_zero, List.set_cons_succ, List.getElem_toArray, List.getElem_cons_zero, List.getElem_cons_succ]
              generalize wd2.alloc (.cells #[.slice none 0 0, .slice none 0 0, .slice none 0 0, .slice none 0 0, .slice none 0 0] 28) = wa4 at HB HG HW hHeld ⊢
              generalize wd2.heap.size = gx at HG HGL ⊢
              obtain ⟨⟨_, _, _, _, _⟩, z0, z1, z2, z3, z4⟩ := HG.out.five
              have HFIN := Lib.hid (doMid_own HB.out HGL.out HG.out HD.out HA.out HW.out)
              have HSF := Lib.hid (HSS.out _ HFIN.out.choose_spec.choose_spec.2.2.1)
              refine wpAnyH_ready (rs := [7]) (by kernel_rfl) (by simp) ?_
              refine AllReadyH.cons rfl (fun K hK => ?_) AllReadyH.nil
              go_simp
              refine hK.out _ _ HSF.out (fun hHeld => ?_)
              clear hK
              try simp only [Act.put, List.setIfInBounds_toArray, List.set_cons_zero, List.set_cons_succ, List.getElem_toArray, List.getElem_cons_zero, List.getElem_cons_succ]
              refine wpAnyH_take (i := 8) (v := ?_) rfl (by kernel_rfl) (by kernel_rfl) (by kernel_rfl) (fun _ _ _ h => h) (Or.inl ⟨by rfl, ?_⟩) (by assumption) ?_
              rotate_left
              · intro w' hSw
                (try dsimp only at hSw)
                go_simp
                all_goals (with_reducible rfl)
              try simp only [Act.put, List.setIfInBounds_toArray, List.set_cons_zero, List.set_cons_succ, List.getElem_toArray, List.getElem_cons_zero, List.getElem_cons_succ]
              refine wpAnyH_done (by kernel_rfl) ?_ _
              clear hHeld HSF z0 z1 z2 z3 z4
              go_wp2_with fail
              go_meet
              case rel => exact HFIN.out
          · skip
            go_simp
            have hb : Below wb1.heap.size wb1 (wb1.alloc (.cells #[.slice none 0 0, .slice none 0 0, .slice none 0 0, .slice none 0 0, .slice none 0 0] 28)) := (Below.refl _ _).alloc (Nat.le_refl _) _
            have HG := Lib.hid (Box.new wb1 28 #[.slice none 0 0, .slice none 0 0, .slice none 0 0, .slice none 0 0, .slice none 0 0])
            have HGL := Lib.hid (HB.out.size)
            have HB := Lib.hid (bmore HB.out hb (Nat.le_refl _))
            clear hb
            refine hK.out _ _ (HSS.out _ HB.out) (fun hHeld => ?_)
            clear hK
            try simp only [Act.put, List.setIfInBounds_toArray, List.set_cons_zero, List.set_cons_succ, List.getElem_toArray, List.getElem_cons_zero, List.getElem_cons_succ]
            generalize wb1.alloc (.cells #[.slice none 0 0, .slice none 0 0, .slice none 0 0, .slice none 0 0, .slice none 0 0] 28) = wa5 at HB HG hHeld ⊢
            generalize wb1.heap.size = gx at HG HGL ⊢
            refine wpAnyH_ready (rs := [2]) (by kernel_rfl) (by simp) ?_
            refine AllReadyH.cons rfl (fun K hK => ?_) AllReadyH.nil
            go_simp
            refine (HDO.out _ HB.out).mono ?_
            rintro e wd6 ⟨v5, y5, rfl, hd5, hb, hv5⟩
            have HSZ := Lib.hid HB.out.size
            have HB := Lib.hid (bmore HB.out hb (Nat.le_refl _))
            have HG := Lib.hid (HG.out.below hb HG.out.lt)
            have HD := Lib.hid hd5
            clear hb hd5
            rcases hv5 with ⟨hn5, rfl⟩ | ⟨rfl, ho5⟩
            · have HN := Lib.hid hn5
              clear hn5
              unfold zeroW
              refine hK.out _ _ (HSS.out _ HB.out) (fun hHeld => ?_)
              clear hK
              try simp only [Act.put, List.setIfInBounds_toArray, List.set_cons_zero, List.set_cons_succ, List.getElem_toArray, List.getElem_cons_zero, List.getElem_cons_succ]
              refine wpAnyH_take (i := 3) (v := ?_) rfl (by kernel_rfl) (by kernel_rfl) (by kernel_rfl) (fun _ _ _ h => h) (Or.inl ⟨by rfl, ?_⟩) (by assumption) ?_
              rotate_left
              · intro w' hSw
                (try dsimp only at hSw)
                go_simp
                all_goals (with_reducible rfl)
              try simp only [Act.put, List.setIfInBounds_toArray, List.set_cons_zero, List.set_cons_succ, List.getElem_toArray, List.getElem_cons_zero, List.getElem_cons_succ]
              refine wpAnyH_take (i := 4) (v := ?_) rfl (by kernel_rfl) (by kernel_rfl) (by kernel_rfl) (fun _ _ _ h => h) (Or.inl ⟨by rfl, ?_⟩) (by assumption) ?_
              rotate_left
              · intro w' hSw
                (try dsimp only at hSw)
                go_simp
                all_goals (with_reducible rfl)
              try simp only [Act.put, List.setIfInBounds_toArray, List.set_cons_zero, List.set_cons_succ, List.getElem_toArray, List.getElem_cons_zero, List.getElem_cons_succ]
              refine wpAnyH_take (i := 5) (v := ?_) rfl (by kernel_rfl) (by kernel_rfl) (by kernel_rfl) (fun _ _ _ h => h) (Or.inl ⟨by rfl, ?_⟩) (by assumption) ?_
              rotate_left
              · intro w' hSw
                (try dsimp only at hSw)
                go_simp
                all_goals (with_reducible rfl)
              try simp only [Act.put, List.setIfInBounds_toArray, List.set_cons_zero, List.set_cons_succ, List.getElem_toArray, List.getElem_cons_zero, List.getElem_cons_succ]
              obtain ⟨⟨_, _, _, _, _⟩, z0, z1, z2, z3, z4⟩ := HG.out.five
              have HFIN := Lib.hid (doMid_zero HB.out HGL.out HG.out HD.out HN.out)
              have HSF := Lib.hid (HSS.out _ HFIN.out.choose_spec.choose_spec.2.2.1)
              refine wpAnyH_ready (rs := [7]) (by kernel_rfl) (by simp) ?_
              refine AllReadyH.cons rfl (fun K hK => ?_) AllReadyH.nil
              go_simp
              refine hK.out _ _ HSF.out (fun hHeld => ?_)
              clear hK
              try simp only [Act.put, List.setIfInBounds_toArray, List.set_cons_zero, List.set_cons_succ, List.getElem_toArray, List.getElem_cons_zero, List.getElem_cons_succ]
              refine wpAnyH_take (i := 8) (v := ?_) rfl (by kernel_rfl) (by kernel_rfl) (by kernel_rfl) (fun _ _ _ h => h) (Or.inl ⟨by rfl, ?_⟩) (by assumption) ?_
              rotate_left
              · intro w' hSw
                (try dsimp only at hSw)
                go_simp
                all_goals (with_reducible rfl)
              try simp only [Act.put, List.setIfInBounds_toArray, List.set_cons_zero, List.set_cons_succ, List.getElem_toArray, List.getElem_cons_zero, List.getElem_cons_succ]
              refine wpAnyH_done (by kernel_rfl) ?_ _
              clear hHeld HSF z0 z1 z2 z3 z4
              go_wp2_with fail
              go_meet
              case rel => exact HFIN.out
            · obtain ⟨wn, hwn⟩ : ∃ wn, DC.aft nS ⟨1, 6, 0, exX⟩ = wn := ⟨_, rfl⟩
              rw [hwn] at ho5
              have HA := Lib.hid hwn
              obtain ⟨E0, f0, E1, f1, E2, f2, E3, f3, E4, f4, rfl⟩ := ho5.form
              have HW := Lib.hid (ho5.mono HSZ.out)
              clear ho5 hwn
              refine hK.out _ _ (HSS.out _ HB.out) (fun hHeld => ?_)
              clear hK
              try simp only [Act.put, List.setIfInBounds_toArray, List.set_cons_zero, List.set_cons_succ, List.getElem_toArray, List.getElem_cons_zero, List.getElem_cons_succ]
              refine wpAnyH_take (i := 3) (v := ?_) rfl (by kernel_rfl) (by kernel_rfl) (by kernel_rfl) (fun _ _ _ h => h) (Or.inl ⟨by rfl, ?_⟩) (by assumption) ?_
              rotate_left
              · intro w' hSw
                (try dsimp only at hSw)
                go_simp
                all_goals (with_reducible rfl)
              try simp only [Act.put, List.setIfInBounds_toArray, List.set_cons_zero, List.set_cons_succ, List.getElem_toArray, List.getElem_cons_zero, List.getElem_cons_succ]
              refine wpAnyH_take (i := 4) (v := ?_) rfl (by kernel_rfl) (by kernel_rfl) (by kernel_rfl) (fun _ _ _ h => h) (Or.inl ⟨by rfl, ?_⟩) (by assumption) ?_
              rotate_left
              · intro w' hSw
                (try dsimp only at hSw)
                go_simp
                all_goals (with_reducible rfl)
              try simp only [Act.put, List.setIfInBounds_toArray, List.set_cons_zero, List.set_cons_succ, List.getElem_toArray, List.getElem_cons_zero, List.getElem_cons_succ]
              refine wpAnyH_take (i := 5) (v := ?_) rfl (by kernel_rfl) (by kernel_rfl) (by kernel_rfl) (fun _ _ _ h => h) (Or.inl ⟨by rfl, ?_⟩) (by assumption) ?_
              rotate_left
              · intro w' hSw
                (try dsimp only at hSw)
                go_simp
                all_goals (with_reducible rfl)
              try simp only [Act.put, List.setIfInBounds_toArray, List.set_cons_zero, List.set_cons_succ, List.getElem_toArray, List.getElem_cons_zero, List.getElem_cons_succ]
              obtain ⟨⟨_, _, _, _, _⟩, z0, z1, z2, z3, z4⟩ := HG.out.five
              have HFIN := Lib.hid (doMid_own HB.out HGL.out HG.out HD.out HA.out HW.out)
              have HSF := Lib.hid (HSS.out _ HFIN.out.choose_spec.choose_spec.2.2.1)
              refine wpAnyH_ready (rs := [7]) (by kernel_rfl) (by simp) ?_
              refine AllReadyH.cons rfl (fun K hK => ?_) AllReadyH.nil
              go_simp
              refine hK.out _ _ HSF.out (fun hHeld => ?_)
              clear hK
              try simp only [Act.put, List.setIfInBounds_toArray, List.set_cons_zero, List.set_cons_succ, List.getElem_toArray, List.getElem_cons_zero, List.getElem_cons_succ]
              refine wpAnyH_take (i := 8) (v := ?_) rfl (by kernel_rfl) (by kernel_rfl) (by kernel_rfl) (fun _ _ _ h => h) (Or.inl ⟨by rfl, ?_⟩) (by assumption) ?_
              rotate_left
              · intro w' hSw
                (try dsimp only at hSw)
                go_simp
                all_goals (with_reducible rfl)
              try simp only [Act.put, List.setIfInBounds_toArray, List.set_cons_zero, List.set_cons_succ, List.getElem_toArray, List.getElem_cons_zero, List.getElem_cons_succ]
              refine wpAnyH_done (by kernel_rfl) ?_ _
              clear hHeld HSF z0 z1 z2 z3 z4
              go_wp2_with fail
              go_meet
              case rel => exact HFIN.out
        · skip
          go_simp
          have hb : Below ud.heap.size ud (ud.alloc (.cells #[.slice none 0 0, .slice none 0 0, .slice none 0 0, .slice none 0 0, .slice none 0 0] 28)) := (Below.refl _ _).alloc (Nat.le_refl _) _
          have HG := Lib.hid (Box.new ud 28 #[.slice none 0 0, .slice none 0 0, .slice none 0 0, .slice none 0 0, .slice none 0 0])
          have HGL := Lib.hid (HB.out.size)
          have HB := Lib.hid (bmore HB.out hb (Nat.le_refl _))
          clear hb
          refine hK.out _ _ (HSS.out _ HB.out) (fun hHeld => ?_)
          clear hK
          try simp only [Act.put, List.setIfInBounds_toArray, List.set_cons_zero, List.set_cons_succ, List.getElem_toArray, List.getElem_cons_zero, List.getElem_cons_succ]
          generalize ud.alloc (.cells #[.slice none 0 0, .slice none 0 0, .slice none 0 0, .slice none 0 0, .slice none 0 0] 28) = wa7 at HB HG hHeld ⊢
          generalize ud.heap.size = gx at HG HGL ⊢
          refine wpAnyH_ready (rs := [1]) (by kernel_rfl) (by simp) ?_
          refine AllReadyH.cons rfl (fun K hK => ?_) AllReadyH.nil
          go_simp
          refine (lbegin_any 6 exX _).mono ?_
          rintro e wb8 ⟨rfl, hb⟩
          have HB := Lib.hid (bmore HB.out hb (Nat.le_refl _))
          have HG := Lib.hid (HG.out.below hb HG.out.lt)
          clear hb
          refine hK.out _ _ (HSS.out _ HB.out) (fun hHeld => ?_)
          clear hK
          try simp only [Act.put, List.setIfInBounds_toArray, List.set_cons_zero, List.set_cons_succ, List.getElem_toArray, List.getElem_cons_zero, List.getElem_cons_succ]
          refine wpAnyH_ready (rs := [2]) (by kernel_rfl) (by simp) ?_
          refine AllReadyH.cons rfl (fun K hK => ?_) AllReadyH.nil
          go_simp
          refine (HDO.out _ HB.out).mono ?_
          rintro e wd9 ⟨v5, y5, rfl, hd5, hb, hv5⟩
          have HSZ := Lib.hid HB.out.size
          have HB := Lib.hid (bmore HB.out hb (Nat.le_refl _))
          have HG := Lib.hid (HG.out.below hb HG.out.lt)
          have HD := Lib.hid hd5
          clear hb hd5
          rcases hv5 with ⟨hn5, rfl⟩ | ⟨rfl, ho5⟩
          · have HN := Lib.hid hn5
            clear hn5
            unfold zeroW
            refine hK.out _ _ (HSS.out _ HB.out) (fun hHeld => ?_)
            clear hK
            try simp only [Act.put, List.setIfInBounds_toArray, List.set_cons_zero, List.set_cons_succ, List.getElem_toArray, List.getElem_cons_zero, List.getElem_cons_succ]
            refine wpAnyH_take (i := 3) (v := ?_) rfl (by kernel_rfl) (by kernel_rfl) (by kernel_rfl) (fun _ _ _ h => h) (Or.inl ⟨by rfl, ?_⟩) (by assumption) ?_
            rotate_left
            · intro w' hSw
              (try dsimp only at hSw)
              go_simp
              all_goals (with_reducible rfl)
            try simp only [Act.put, List.setIfInBounds_toArray, List.set_cons_zero, List.set_cons_succ, List.getElem_toArray, List.getElem_cons_zero, List.getElem_cons_succ]
            refine wpAnyH_take (i := 4) (v := ?_) rfl (by kernel_rfl) (by kernel_rfl) (by kernel_rfl) (fun _ _ _ h => h) (Or.inl ⟨by rfl, ?_⟩) (by assumption) ?_
            rotate_left
            · intro w' hSw
              (try dsimp only at hSw)
              go_simp
              all_goals (with_reducible rfl)
            try simp only [Act.put, List.setIfInBounds_toArray, List.set_cons_zero, List.set_cons_succ, List.getElem_toArray, List.getElem_cons_zero, List.getElem_cons_succ]
            refine wpAnyH_take (i := 5) (v := ?_) rfl (by kernel_rfl) (by kernel_rfl) (by kernel_rfl) (fun _ _ _ h => h) (Or.inl ⟨by rfl, ?_⟩) (by assumption) ?_
            rotate_left
            · intro w' hSw
              (try dsimp only at hSw)
              go_simp
              all_goals (with_reducible rfl)
            try simp only [Act.put, List.setIfInBounds_toArray, List.set_cons_zero, List.set_cons_succ, List.getElem_toArray, List.getElem_cons_zero, List.getElem_cons_succ]
            obtain ⟨⟨_, _, _, _, _⟩, z0, z1, z2, z3, z4⟩ := HG.out.five
            have HFIN := Lib.hid (doMid_zero HB.out HGL.out HG.out HD.out HN.out)
            have HSF := Lib.hid (HSS.out _ HFIN.out.choose_spec.choose_spec.2.2.1)
            refine wpAnyH_ready (rs := [7]) (by kernel_rfl) (by simp) ?_
            refine AllReadyH.cons rfl (fun K hK => ?_) AllReadyH.nil
            go_simp
            refine hK.out _ _ HSF.out (fun hHeld => ?_)
            clear hK
            try simp only [Act.put, List.setIfInBounds_toArray, List.set_cons_zero, List.set_cons_succ, List.getElem_toArray, List.getElem_cons_zero, List.getElem_cons_succ]
            refine wpAnyH_take (i := 8) (v := ?_) rfl (by kernel_rfl) (by kernel_rfl) (by kernel_rfl) (fun _ _ _ h => h) (Or.inl ⟨by rfl, ?_⟩) (by assumption) ?_
            rotate_left
            · intro w' hSw
              (try dsimp only at hSw)
              go_simp
              all_goals (with_reducible rfl)
            try simp only [Act.put, List.setIfInBounds_toArray, List.set_cons_zero, List.set_cons_succ, List.getElem_toArray, List.getElem_cons_zero, List.getElem_cons_succ]
            refine wpAnyH_done (by kernel_rfl) ?_ _
            clear hHeld HSF z0 z1 z2 z3 z4
            go_wp2_with fail
            go_meet
            case rel => exact HFIN.out
          · obtain ⟨wn, hwn⟩ : ∃ wn, DC.aft nS ⟨1, 6, 0, exX⟩ = wn := ⟨_, rfl⟩
            rw [hwn] at ho5
            have HA := Lib.hid hwn
            obtain ⟨E0, f0, E1, f1, E2, f2, E3, f3, E4, f4, rfl⟩ := ho5.form
            have HW := Lib.hid (ho5.mono HSZ.out)
            clear ho5 hwn
            refine hK.out _ _ (HSS.out _ HB.out) (fun hHeld => ?_)
            clear hK
            try simp only [Act.put, List.setIfInBounds_toArray, List.set_cons_zero, List.set_cons_succ, List.getElem_toArray, List.getElem_cons_zero, List.getElem_cons_succ]
            refine wpAnyH_take (i := 3) (v := ?_) rfl (by kernel_rfl) (by kernel_rfl) (by kernel_rfl) (fun _ _ _ h => h) (Or.inl ⟨by rfl, ?_⟩) (by assumption) ?_
            rotate_left
            · intro w' hSw
              (try dsimp only at hSw)
              go_simp
              all_goals (with_reducible rfl)
            try simp only [Act.put, List.setIfInBounds_toArray, List.set_cons_zero, List.set_cons_succ, List.getElem_toArray, List.getElem_cons_zero, List.getElem_cons_succ]
            refine wpAnyH_take (i := 4) (v := ?_) rfl (by kernel_rfl) (by kernel_rfl) (by kernel_rfl) (fun _ _ _ h => h) (Or.inl ⟨by rfl, ?_⟩) (by assumption) ?_
            rotate_left
            · intro w' hSw
              (try dsimp only at hSw)
              go_simp
              all_goals (with_reducible rfl)
            try simp only [Act.put, List.setIfInBounds_toArray, List.set_cons_zero, List.set_cons_succ, List.getElem_toArray, List.getElem_cons_zero, List.getElem_cons_succ]
            refine wpAnyH_take (i := 5) (v := ?_) rfl (by kernel_rfl) (by kernel_rfl) (by kernel_rfl) (fun _ _ _ h => h) (Or.inl ⟨by rfl, ?_⟩) (by assumption) ?_
            rotate_left
            · intro w' hSw
              (try dsimp only at hSw)
              go_simp
              all_goals (with_reducible rfl)
            try simp only [Act.put, List.setIfInBounds_toArray, List.set_cons_zero, List.set_cons_succ, List.getElem_toArray, List.getElem_cons_zero, List.getElem_cons_succ]
            obtain ⟨⟨_, _, _, _, _⟩, z0, z1, z2, z3, z4⟩ := HG.out.five
            have HFIN := Lib.hid (doMid_own HB.out HGL.out HG.out HD.out HA.out HW.out)
            have HSF := Lib.hid (HSS.out _ HFIN.out.choose_spec.choose_spec.2.2.1)
            refine wpAnyH_ready (rs := [7]) (by kernel_rfl) (by simp) ?_
            refine AllReadyH.cons rfl (fun K hK => ?_) AllReadyH.nil
            go_simp
            refine hK.out _ _ HSF.out (fun hHeld => ?_)
            clear hK
            try simp only [Act.put, List.setIfInBounds_toArray, List.set_cons_zero, List.set_cons_succ, List.getElem_toArray, List.getElem_cons_zero, List.getElem_cons_succ]
            refine wpAnyH_take (i := 8) (v := ?_) rfl (by kernel_rfl) (by kernel_rfl) (by kernel_rfl) (fun _ _ _ h => h) (Or.inl ⟨by rfl, ?_⟩) (by assumption) ?_
            rotate_left
            · intro w' hSw
              (try dsimp only at hSw)
              go_simp
              all_goals (with_reducible rfl)
            try simp only [Act.put, List.setIfInBounds_toArray, List.set_cons_zero, List.set_cons_succ, List.getElem_toArray, List.getElem_cons_zero, List.getElem_cons_succ]
            refine wpAnyH_done (by kernel_rfl) ?_ _
            clear hHeld HSF z0 z1 z2 z3 z4
            go_wp2_with fail
            go_meet
            case rel => exact HFIN.out
      case rest =>
        obtain ⟨ggu4, yy, rfl, rfl, hb3, _, hdo, _⟩ := hcut
        obtain rfl : yy = 2 := doIs_n hdo n3
        have HBU := Lib.hid (bmore HBU.out hb3 (Nat.le_refl _))
        have HA := Lib.hid (HA.out.below hb3 HA.out.lt)
        have HR := Lib.hid (own_below3 HR.out hb3)
        have HX := Lib.hid (HX.out.below hb3 HX.out.lt)
        have HWI := Lib.hid (HWI.out.below hb3)
        clear hb3 hdo HDO
        rename World => u4
        go_upto_region 5 with (fail)
        obtain ⟨⟨x0, x1, x2, x3, x4⟩, _⟩ := HX.out.five
        have HDO := Lib.hid (wdo_any (.agg #[.slice A0 nS.ms.length a0, .slice A1 nS.vs.length a1, .slice A2 nS.ts.length a2, .slice A3 nS.ml.length a3, .slice A4 nS.ch.length a4]) nS 6 0 0 nE u4 HWI.out nS_fit (by decide) (by decide) (by decide))
        go_wp2_with fail
        refine HDO.out.mono ?_
        rintro e w5 ⟨v, y, rfl, hd, hb, hv⟩
        obtain rfl : y = 2 := doIs_n hd n4
        rcases hv with ⟨_, rfl⟩ | ⟨h, _⟩
        rotate_left
        · exact absurd h (by decide)
        have HBU := Lib.hid (bmore HBU.out hb (Nat.le_refl _))
        have HA := Lib.hid (HA.out.below hb HA.out.lt)
        have HR := Lib.hid (own_below3 HR.out hb)
        clear hb hd HDO HX HWI x0 x1 x2 x3 x4
        unfold zeroW
        have hal : Below w5.heap.size w5 (w5.alloc (.cells #[.slice none 0 0, .slice none 0 0, .slice none 0 0, .slice none 0 0, .slice none 0 0] 28)) := (Below.refl _ _).alloc (Nat.le_refl _) _
        have HBU := Lib.hid (bmore HBU.out hal (Nat.le_refl _))
        have HA := Lib.hid (HA.out.below hal HA.out.lt)
        have HR := Lib.hid (own_below3 HR.out hal)
        clear hal
        go_wp2_with fail
        generalize w5.alloc (.cells #[.slice none 0 0, .slice none 0 0, .slice none 0 0, .slice none 0 0, .slice none 0 0] 28) = u5 at HA HR HBU ⊢
        generalize w5.heap.size = g9
        refine (wnew_any none 0 0 [] 60 u5 Rd.nil (by omega) n5).mono ?_
        rintro e w6 ⟨v, rfl, hb, (⟨_, rfl⟩ | ⟨h, _⟩)⟩
        rotate_left
        · exact absurd h (by decide)
        have HBU := Lib.hid (bmore HBU.out hb (Nat.le_refl _))
        have HA := Lib.hid (HA.out.below hb HA.out.lt)
        have HR := Lib.hid (own_below3 HR.out hb)
        clear hb
        unfold zeroW
        have hal : Below w6.heap.size w6 (w6.alloc (.cells #[.slice none 0 0, .slice none 0 0, .slice none 0 0, .slice none 0 0, .slice none 0 0] 28)) := (Below.refl _ _).alloc (Nat.le_refl _) _
        have HBU := Lib.hid (bmore HBU.out hal (Nat.le_refl _))
        have HA := Lib.hid (HA.out.below hal HA.out.lt)
        have HR := Lib.hid (own_below3 HR.out hal)
        clear hal
        obtain ⟨mk, hmk, hrk⟩ := mk_moves
        have HRK := Lib.hid hrk
        clear hrk
        go_upto_region 7 with (fail)
        generalize w6.alloc (.cells #[.slice none 0 0, .slice none 0 0, .slice none 0 0, .slice none 0 0, .slice none 0 0] 28) = u6 at HA HR HBU ⊢
        generalize w6.heap.size = g11
        obtain ⟨ua, hua⟩ : ∃ ua, ua = u6.alloc (.cells #[.int .i64 0] 3) := ⟨_, rfl⟩
        have hba : Below u6.heap.size u6 ua := by rw [hua]; exact (Below.refl _ _).alloc (Nat.le_refl _) _
        have hbx : Box ua u6.heap.size 3 #[.int .i64 0] := by rw [hua]; exact Box.new _ _ _
        have hsz : ua.heap.size = u6.heap.size + 1 := by rw [hua]; simp
        have hrl : RdG (ua.alloc (.cells mk 34)) 4 (some ⟨u6.heap.size + 1, 0, none⟩) 1001 (flat vmove nM) := by have := HRK.out ua; rwa [hsz] at this
        have hbb : Below ua.heap.size ua (ua.alloc (.cells mk 34)) := (Below.refl _ _).alloc (Nat.le_refl _) _
        have HBU := Lib.hid (bmore HBU.out hba (Nat.le_refl _))
        have HA := Lib.hid (HA.out.below hba HA.out.lt)
        have HR := Lib.hid (own_below3 HR.out hba)
        have HBU := Lib.hid (bmore HBU.out hbb (Nat.le_refl _))
        have HA := Lib.hid (HA.out.below hbb HA.out.lt)
        have HR := Lib.hid (own_below3 HR.out hbb)
        have hrd0 : Rd (ua.alloc (.cells mk 34)) (some ⟨u6.heap.size, 0, none⟩) 1 (ic [0]) := (rd_box hbx rfl rfl).below hbb
        have HUA := Lib.hid hua
        have HRU := Lib.hid (wrun_any _ 1 1 [0] _ 1001 1001 nM 4 _ hrd0 (by omega) hrl (by unfold nM; rw [List.length_replicate]) (by omega) nM_fit n6)
        clear hba hbb hbx hsz hrl hrd0 hua
        go_wp2_with fail
        rw [← HUA.out]
        refine HRU.out.mono ?_
        rintro e w7 ⟨v, rfl, hb, (⟨_, rfl⟩ | ⟨h, _⟩)⟩
        rotate_left
        · exact absurd h (by decide)
        have HBU := Lib.hid (bmore HBU.out hb (Nat.le_refl _))
        have HA := Lib.hid (HA.out.below hb HA.out.lt)
        have HR := Lib.hid (own_below3 HR.out hb)
        clear hb HUA HRU hmk HRK
        unfold zeroW
        have hal : Below w7.heap.size w7 (w7.alloc (.cells #[.slice none 0 0, .slice none 0 0, .slice none 0 0, .slice none 0 0, .slice none 0 0] 28)) := (Below.refl _ _).alloc (Nat.le_refl _) _
        have HBU := Lib.hid (bmore HBU.out hal (Nat.le_refl _))
        have HA := Lib.hid (HA.out.below hal HA.out.lt)
        have HR := Lib.hid (own_below3 HR.out hal)
        clear hal
        go_upto_region 8 with (fail)
        generalize w7.alloc (.cells #[.slice none 0 0, .slice none 0 0, .slice none 0 0, .slice none 0 0, .slice none 0 0] 28) = u7 at HA HR HBU ⊢
        generalize w7.heap.size = g13
        have HM := Lib.hid (show Box (u7.alloc (.cells #[.int .i64 4] 3)) u7.heap.size 3 #[.int .i64 4] from Box.new _ _ _)
        have hal : Below u7.heap.size u7 (u7.alloc (.cells #[.int .i64 4] 3)) := (Below.refl _ _).alloc (Nat.le_refl _) _
        have HBU := Lib.hid (bmore HBU.out hal (Nat.le_refl _))
        have HA := Lib.hid (HA.out.below hal HA.out.lt)
        have HR := Lib.hid (own_below3 HR.out hal)
        clear hal
        go_wp2_with fail
        generalize u7.alloc (.cells #[.int .i64 4] 3) = u8 at HA HR HBU HM ⊢
        generalize u7.heap.size = gm at HM ⊢
        refine (lbegin_any 4 soloX _).mono ?_
        rintro e w8 ⟨rfl, hb⟩
        have HBU := Lib.hid (bmore HBU.out hb (Nat.le_refl _))
        have HA := Lib.hid (HA.out.below hb HA.out.lt)
        have HR := Lib.hid (own_below3 HR.out hb)
        have HM := Lib.hid (HM.out.below hb HM.out.lt)
        clear hb
        go_wp2_with fail
        have hal : Below w8.heap.size w8 (w8.alloc (.cells #[.int .u8 1, .int .i64 4, .int .i64 0, .string soloX] 34)) := (Below.refl _ _).alloc (Nat.le_refl _) _
        have hrm : Rd (w8.alloc (.cells #[.int .u8 1, .int .i64 4, .int .i64 0, .string soloX] 34)) (some ⟨gm, 0, none⟩) 1 (ic [4]) := (rd_box HM.out rfl rfl).below hal
        have hrl : RdG (w8.alloc (.cells #[.int .u8 1, .int .i64 4, .int .i64 0, .string soloX] 34)) 4 (some ⟨w8.heap.size, 0, none⟩) 1 (flat vmove [⟨1, 4, 0, soloX⟩]) := rdG_box (Box.new _ _ _) rfl rfl
        have HBU := Lib.hid (bmore HBU.out hal (Nat.le_refl _))
        have HA := Lib.hid (HA.out.below hal HA.out.lt)
        have HR := Lib.hid (own_below3 HR.out hal)
        refine (wrun_any _ 1 1 [4] _ 1 1 [⟨1, 4, 0, soloX⟩] 0 _ hrm (by omega) hrl rfl (by omega) n7_fit n7).mono ?_
        clear hal hrm hrl HM
        generalize w8.alloc (.cells #[.int .u8 1, .int .i64 4, .int .i64 0, .string soloX] 34) = u8 at HA HR HBU ⊢
        rintro e w9 ⟨v, rfl, hb, (⟨h, _⟩ | ⟨_, hown⟩)⟩
        · exact absurd rfl h
        change WOwn w9 u8.heap.size v nR at hown
        obtain ⟨E0, e0, E1, e1, E2, e2, E3, e3, E4, e4, rfl⟩ := hown.form
        have hre := (own_rows hown).2
        have hlc : nR.ch.length = 1 := by rw [nR_ch]; rfl
        rw [hlc, nR_ch] at hre
        rw [hlc]
        generalize nR.ms.length = ka0
        generalize nR.vs.length = ka1
        generalize nR.ts.length = ka2
        generalize nR.ml.length = ka3
        have HBU := Lib.hid (bmore HBU.out hb (Nat.le_refl _))
        have HA := Lib.hid (HA.out.below hb HA.out.lt)
        have HR := Lib.hid (own_below3 HR.out hb)
        have hal : Below w9.heap.size w9 (w9.alloc (.cells #[.slice E0 ka0 e0, .slice E1 ka1 e1, .slice E2 ka2 e2, .slice E3 ka3 e3, .slice E4 1 e4] 28)) := (Below.refl _ _).alloc (Nat.le_refl _) _
        have HBU := Lib.hid (bmore HBU.out hal (Nat.le_refl _))
        have HA := Lib.hid (HA.out.below hal HA.out.lt)
        have HR := Lib.hid (own_below3 HR.out hal)
        have HE := Lib.hid (Box.new w9 28 #[.slice E0 ka0 e0, .slice E1 ka1 e1, .slice E2 ka2 e2, .slice E3 ka3 e3, .slice E4 1 e4])
        have HRE := Lib.hid (own_below3 hre hal)
        clear hb hown hlc hre hal
        go_upto_region 9 with (fail)
        generalize w9.alloc (.cells #[.slice E0 ka0 e0, .slice E1 ka1 e1, .slice E2 ka2 e2, .slice E3 ka3 e3, .slice E4 1 e4] 28) = u9 at HA HR HBU HE HRE ⊢
        generalize w9.heap.size = g15 at HE ⊢
        obtain ⟨⟨_, _, _, a3, _⟩, _⟩ := HA.out.five
        obtain ⟨⟨_, _, _, _, e4⟩, _⟩ := HE.out.five
        obtain ⟨qm, rfl, hqm, hcm⟩ := own_some HR.out (by decide)
        obtain ⟨qe, rfl, hqe, hce⟩ := own_some HRE.out (by decide)
        have hqml : qm < u9.heap.size := by obtain ⟨_, cur, hx⟩ := own_block HR.out rfl; exact hx.lt
        have hqel : qe < u9.heap.size := by obtain ⟨_, cur, hx⟩ := own_block HRE.out rfl; exact hx.lt
        have c0 := hcm 0 _ rfl
        have c1 := hcm 1 _ rfl
        have c2 := hcm 2 _ rfl
        have c3 := hcm 3 _ rfl
        have c4 := hcm 4 _ rfl
        have c5 := hcm 5 _ rfl
        have c6 := hcm 6 _ rfl
        have c7 := hcm 7 _ rfl
        have c8 := hcm 8 _ rfl
        have c9 := hcm 9 _ rfl
        have c11 := hcm 11 _ rfl
        have HCE := Lib.hid hce
        have HAL := Lib.hid (alive_any u9)
        unfold nE at c7
        clear hcm hce hqm hqe
        go_wp2_with fail
        refine HAL.out.mono ?_
        rintro e w10 ⟨rfl, hb⟩
        have HBF := Lib.hid (bmore HBU.out hb (Nat.le_refl _))
        have a3 := (HA.out.below hb HA.out.lt).five.1.2.2.2.1
        have e4 := (HE.out.below hb HE.out.lt).five.1.2.2.2.2
        obtain ⟨q2, e5, _, hc2⟩ := own_some (own_below3 HRE.out hb) (by decide)
        have hq2 : q2 = qe := by injection e5 with e5; injection e5 with e5; exact e5.symm
        subst hq2
        have d1 := hc2 1 _ rfl
        have hqel2 : q2 < w10.heap.size := Nat.lt_of_lt_of_le hqel hb.size
        have HCK := Lib.hid (fun U => wcheck_any zeroW DC.zero 8 U (zW_is U) zW_fit (.inr ⟨zW_not, rfl⟩))
        unfold zeroW at HCK
        unfold soloX at d1
        clear hc2 e5 hb HAL
        go_wp2_with fail
        refine (HCK.out _).mono ?_
        rintro e w11 ⟨rfl, hb⟩
        have HBF := Lib.hid (bmore HBF.out hb (Nat.le_refl _))
        clear hb
        go_wp2_with fail
        go_ret
        exact ⟨rfl, HBF.out⟩
end Go.Proofs.Ytiiobafcgdelmaa
