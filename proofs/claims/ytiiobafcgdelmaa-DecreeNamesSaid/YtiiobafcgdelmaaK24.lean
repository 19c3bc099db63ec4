/-
  What package decree's promised leaves: a node's attempt takes a promise. Conditions: the world may be; the promise fits.
-/
import Derived.Test.YtiiobafcgdelmaaK22
namespace Go.Proofs.Ytiiobafcgdelmaa.PD
open Go.RowKit Go.Shelf
set_option linter.unusedVariables false
set_option linter.unusedSimpArgs false

def TakPost (base g : Nat) (w : DC.Wd) (n k : Int) (p : AM.Pr) (W : World) (e : Ending) (W' : World) : Prop :=
  e = .returned (.tuple #[]) ∧ WdAt W' base g (DC.takes w n k p) ∧ Kept isTk W W' ∧ Below base W W'
theorem tells_set {w : DC.Wd} {i : Nat} {a : AM.At} : DC.tells ⟨w.ms, w.vs, w.ts.set i a, w.ml, w.ch⟩ (i : Int) a = DC.tells w (i : Int) a := by
  unfold DC.tells DC.tell2 DC.tell1 DC.getV
  simp only [Int.toNat_natCast, List.set_set]

set_option maxRecDepth 100000 in
set_option maxHeartbeats 8000000 in
theorem promised_any (base g i : Nat) (w : DC.Wd) (k : Int) (p : AM.Pr) (W : World) (H : WdAt W base g w) (h0 : DC.May0 w) (hi : i < 6) (FP : FitP p) (hbase : base ≤ W.heap.size) (hl : w.ml.length ≤ 1900) (hch : w.ch.length ≤ 1900) :
    Calls Try.prog 45 #[.pointer (some ⟨g, 0, none⟩), .int .i64 (i : Int), .int .i64 k, .agg #[.int .i64 p.n, .int .i64 p.b, .string p.v]] W (TakPost base g w (i : Int) k p W) := by
  have hn : DC.isNode (i : Int) := by unfold DC.isNode; omega
  have LT6 := Lib.hid h0.tl
  have hTt : w.ts[i]? = some (DC.getT w (i : Int)) := by have := DC.getT_at h0.tl hn; rwa [Int.toNat_natCast] at this
  have hmt := h0.try_ hn
  have F := fit_mayT hmt
  obtain ⟨tt, htt⟩ : ∃ tt, tt = DC.getT w (i : Int) := ⟨_, rfl⟩
  rw [← htt] at hTt F hmt
  obtain ⟨er, her⟩ : ∃ er, er = AM.errP tt k p := ⟨_, rfl⟩
  obtain ⟨a, ha⟩ : ∃ a, a = AM.prom tt k p := ⟨_, rfl⟩
  have hA : er ≠ 0 → DC.takes w (i : Int) k p = w := fun e => by unfold DC.takes; rw [← htt, if_neg (by rw [← her]; exact e)]
  have hB : er = 0 → a.ph ≠ 2 → DC.takes w (i : Int) k p = ⟨w.ms, w.vs, w.ts.set i a, w.ml, w.ch⟩ := fun e e2 => by unfold DC.takes; rw [← htt, if_pos (by rw [← her]; exact e), ← ha, if_neg e2, Int.toNat_natCast]
  have hC : er = 0 → a.ph = 2 → DC.takes w (i : Int) k p = DC.tells ⟨w.ms, w.vs, w.ts.set i a, w.ml, w.ch⟩ (i : Int) a := fun e e2 => by unfold DC.takes; rw [← htt, if_pos (by rw [← her]; exact e), ← ha, if_pos e2, tells_set]
  have hTA : er = 0 → DC.MayT w.ms (i : Int) a := fun e => by
    have hm := DC.prom_t hmt (by rw [← her]; exact e)
    rw [← ha] at hm
    exact hm
  have hTell : er = 0 → a.ph = 2 → DC.Tell w.ms (i : Int) a := fun e e2 => by
    have hm := hTA e
    refine ⟨hm.1, by omega, ?_, ?_⟩
    · rcases hm.2 with h | h
      · omega
      · exact h.1
    · rcases hm.2 with h | h
      · omega
      · exact h.2
  have HTL := Lib.hid (fun (e : er = 0) (e2 : a.ph = 2) (W' : World) (h : WdAt W' base g ⟨w.ms, w.vs, w.ts.set i a, w.ml, w.ch⟩) (hbz : base ≤ W'.heap.size) => tell_any base g i ⟨w.ms, w.vs, w.ts.set i a, w.ml, w.ch⟩ a W' h (by have := h0.setT hn (hTA e); rwa [Int.toNat_natCast] at this) hi (List.getElem?_set_self (by have := LT6.out; omega)) (hTell e e2) hbz hl hch)
  obtain ⟨q, c, x, y, z, hown, hcell⟩ := H.try_ hTt
  obtain ⟨W0, hW0⟩ : ∃ W0, W0 = W.alloc (.cells #[.int .i64 p.n, .int .i64 p.b, .string p.v] 79) := ⟨_, rfl⟩
  have hb0 : Below W.heap.size W W0 := by rw [hW0]; exact (Below.refl _ _).alloc (Nat.le_refl _) _
  have XP : Box W0 W.heap.size 79 #[.int .i64 p.n, .int .i64 p.b, .string p.v] := by rw [hW0]; exact Box.new _ _ _
  have CC := Lib.hid (fun (w' : World) (hb : Below W0.heap.size W0 w') => (⟨(hcell w' (bmore hb0 hb (Nat.le_refl _))), (XP.below hb XP.lt).cell 0, (XP.below hb XP.lt).cell 1, (XP.below hb XP.lt).cell 2⟩ : (w'.cell? ⟨g, 2, none⟩ = some (.slice (some ⟨q, 0, none⟩) w.ts.length c) ∧ w'.cell? ⟨q, i * 7, none⟩ = some (.int .u8 tt.ph) ∧ w'.cell? ⟨q, i * 7 + 1, none⟩ = some (.int .i64 tt.ba) ∧ w'.cell? ⟨q, i * 7 + 2, none⟩ = some x ∧ w'.cell? ⟨q, i * 7 + 3, none⟩ = some (.string tt.wi) ∧ w'.cell? ⟨q, i * 7 + 4, none⟩ = some (.string tt.va) ∧ w'.cell? ⟨q, i * 7 + 5, none⟩ = some y ∧ w'.cell? ⟨q, i * 7 + 6, none⟩ = some z) ∧ w'.cell? ⟨W.heap.size, 0, none⟩ = some (.int .i64 p.n) ∧ w'.cell? ⟨W.heap.size, 1, none⟩ = some (.int .i64 p.b) ∧ w'.cell? ⟨W.heap.size, 2, none⟩ = some (.string p.v)))
  have HPR := Lib.hid (fun (W' : World) (hb : Below W0.heap.size W0 W') => prom_any _ tt k p W' (hown.below (bmore hb0 hb (Nat.le_refl _))).is F FP)
  rw [← her, ← ha] at HPR
  have BW := Lib.hid hb0
  have HWd := Lib.hid (H.below hb0)
  have HA := Lib.hid hA
  have HB := Lib.hid hB
  have HC := Lib.hid hC
  have HBS := Lib.hid hbase
  have HI := Lib.hid hi
  have hi0 : (0 : Int) ≤ (i : Int) := by omega
  have hi1 : (i : Int) < (w.ts.length : Int) := by have := LT6.out; omega
  have mixed : Try.prog.follows Departure.mixedOrders = true := by kernel_rfl
  have e0 : 0 ≤ tt.ph := F.p1
  clear hA hB hC hTA hTell hbase hn hmt F h0 hTt hcell hown hb0 XP her ha H hl hch hi htt
  go_enter Try.func45, Try.ntmps45
  go_upto_region 1 with (fail)
  rw [← hW0]
  clear hW0
  go_cut [8, 9] (fun u9 u10 wx => LoopMid W0 a er u9 u10 wx)
  case first =>
    have bb1 : Below W0.heap.size W0 W0.drew := (Below.refl _ _).drew
    have bb0 : ∀ ob : Obj, Below W0.heap.size W0 (W0.alloc ob).drew := fun ob => ((Below.refl _ _).alloc (Nat.le_refl _) ob).drew
    refine wp_region_held_drew (S := fun w' => Below W0.heap.size W0 w') (by kernel_rfl) bb1 (fun hHeld => ?_)
    refine wpAnyH_take (i := 0) (v := ?_) rfl (by kernel_rfl) (by kernel_rfl) (by kernel_rfl) (fun _ _ _ h => h) (Or.inl ⟨by rfl, ?_⟩) (by assumption) ?_
    rotate_left
    · intro w' hSw
      (try dsimp only at hSw)
      obtain ⟨⟨k0, k1, k2, k3, k4, k5, k6, k7⟩, k8, k9, k10⟩ := CC.out _ hSw
      go_simp
      all_goals (with_reducible rfl)
    try simp only [Act.put, List.setIfInBounds_toArray, List.set_cons_zero, List.set_cons_succ, List.getElem_toArray, List.getElem_cons_zero, List.getElem_cons_succ]
    refine wpAnyH_take (i := 1) (v := ?_) rfl (by kernel_rfl) (by kernel_rfl) (by kernel_rfl) (fun _ _ _ h => h) (Or.inl ⟨by rfl, ?_⟩) (by assumption) ?_
    rotate_left
    · intro w' hSw
      (try dsimp only at hSw)
      obtain ⟨⟨k0, k1, k2, k3, k4, k5, k6, k7⟩, k8, k9, k10⟩ := CC.out _ hSw
      go_simp
      all_goals (with_reducible rfl)
    try simp only [Act.put, List.setIfInBounds_toArray, List.set_cons_zero, List.set_cons_succ, List.getElem_toArray, List.getElem_cons_zero, List.getElem_cons_succ]
    refine wpAnyH_take (i := 2) (v := ?_) rfl (by kernel_rfl) (by kernel_rfl) (by kernel_rfl) (fun _ _ _ h => h) (Or.inl ⟨by rfl, ?_⟩) (by assumption) ?_
    rotate_left
    · intro w' hSw
      (try dsimp only at hSw)
      obtain ⟨⟨k0, k1, k2, k3, k4, k5, k6, k7⟩, k8, k9, k10⟩ := CC.out _ hSw
      go_simp
      all_goals (with_reducible rfl)
    try simp only [Act.put, List.setIfInBounds_toArray, List.set_cons_zero, List.set_cons_succ, List.getElem_toArray, List.getElem_cons_zero, List.getElem_cons_succ]
    refine wpAnyH_take (i := 3) (v := ?_) rfl (by kernel_rfl) (by kernel_rfl) (by kernel_rfl) (fun _ _ _ h => h) (Or.inl ⟨by rfl, ?_⟩) (by assumption) ?_
    rotate_left
    · intro w' hSw
      (try dsimp only at hSw)
      obtain ⟨⟨k0, k1, k2, k3, k4, k5, k6, k7⟩, k8, k9, k10⟩ := CC.out _ hSw
      go_simp
      all_goals (with_reducible rfl)
    try simp only [Act.put, List.setIfInBounds_toArray, List.set_cons_zero, List.set_cons_succ, List.getElem_toArray, List.getElem_cons_zero, List.getElem_cons_succ]
    refine wpAnyH_take (i := 4) (v := ?_) rfl (by kernel_rfl) (by kernel_rfl) (by kernel_rfl) (fun _ _ _ h => h) (Or.inl ⟨by rfl, ?_⟩) (by assumption) ?_
    rotate_left
    · intro w' hSw
      (try dsimp only at hSw)
      obtain ⟨⟨k0, k1, k2, k3, k4, k5, k6, k7⟩, k8, k9, k10⟩ := CC.out _ hSw
      go_simp
      all_goals (with_reducible rfl)
    try simp only [Act.put, List.setIfInBounds_toArray, List.set_cons_zero, List.set_cons_succ, List.getElem_toArray, List.getElem_cons_zero, List.getElem_cons_succ]
    refine wpAnyH_take (i := 5) (v := ?_) rfl (by kernel_rfl) (by kernel_rfl) (by kernel_rfl) (fun _ _ _ h => h) (Or.inl ⟨by rfl, ?_⟩) (by assumption) ?_
    rotate_left
    · intro w' hSw
      (try dsimp only at hSw)
      obtain ⟨⟨k0, k1, k2, k3, k4, k5, k6, k7⟩, k8, k9, k10⟩ := CC.out _ hSw
      go_simp
      all_goals (with_reducible rfl)
    try simp only [Act.put, List.setIfInBounds_toArray, List.set_cons_zero, List.set_cons_succ, List.getElem_toArray, List.getElem_cons_zero, List.getElem_cons_succ]
    refine wpAnyH_take (i := 6) (v := ?_) rfl (by kernel_rfl) (by kernel_rfl) (by kernel_rfl) (fun _ _ _ h => h) (Or.inl ⟨by rfl, ?_⟩) (by assumption) ?_
    rotate_left
    · intro w' hSw
      (try dsimp only at hSw)
      obtain ⟨⟨k0, k1, k2, k3, k4, k5, k6, k7⟩, k8, k9, k10⟩ := CC.out _ hSw
      go_simp
      all_goals (with_reducible rfl)
    try simp only [Act.put, List.setIfInBounds_toArray, List.set_cons_zero, List.set_cons_succ, List.getElem_toArray, List.getElem_cons_zero, List.getElem_cons_succ]
    refine wpAnyH_take (i := 7) (v := ?_) rfl (by kernel_rfl) (by kernel_rfl) (by kernel_rfl) (fun _ _ _ h => h) (Or.inl ⟨by rfl, ?_⟩) (by assumption) ?_
    rotate_left
    · intro w' hSw
      (try dsimp only at hSw)
      obtain ⟨⟨k0, k1, k2, k3, k4, k5, k6, k7⟩, k8, k9, k10⟩ := CC.out _ hSw
      go_simp
      all_goals (with_reducible rfl)
    try simp only [Act.put, List.setIfInBounds_toArray, List.set_cons_zero, List.set_cons_succ, List.getElem_toArray, List.getElem_cons_zero, List.getElem_cons_succ]
    refine wpAnyH_take (i := 8) (v := ?_) rfl (by kernel_rfl) (by kernel_rfl) (by kernel_rfl) (fun _ _ _ h => h) (Or.inl ⟨by rfl, ?_⟩) (by assumption) ?_
    rotate_left
    · intro w' hSw
      (try dsimp only at hSw)
      obtain ⟨⟨k0, k1, k2, k3, k4, k5, k6, k7⟩, k8, k9, k10⟩ := CC.out _ hSw
      go_simp
      all_goals (with_reducible rfl)
    try simp only [Act.put, List.setIfInBounds_toArray, List.set_cons_zero, List.set_cons_succ, List.getElem_toArray, List.getElem_cons_zero, List.getElem_cons_succ]
    refine wpAnyH_ready (rs := [9, 13]) (by kernel_rfl) (by simp) ?_
    refine AllReadyH.cons rfl (fun K hK => ?_) (AllReadyH.cons rfl (fun K hK => ?_) AllReadyH.nil)
    · go_simp
      refine (HPR.out _ bb1).mono ?_
      rintro e w4 ⟨v, rfl, own, hr⟩
      obtain ⟨A5, c5, D5, q5, C5, f5, rfl⟩ := own.form
      have hq := lm_1 (e := er) hr own
      have bb2 := hq.1
      have mid := Lib.hid hq.2
      clear hq hr own
      refine hK.out _ _ (bb2) (fun hHeld => ?_)
      clear hK
      try simp only [Act.put, List.setIfInBounds_toArray, List.set_cons_zero, List.set_cons_succ, List.getElem_toArray, List.getElem_cons_zero, List.getElem_cons_succ]
      refine wpAnyH_take (i := 10) (v := ?_) rfl (by kernel_rfl) (by kernel_rfl) (by kernel_rfl) (fun _ _ _ h => h) (Or.inl ⟨by rfl, ?_⟩) (by assumption) ?_
      rotate_left
      · intro w' hSw
        (try dsimp only at hSw)
        go_simp
        all_goals (with_reducible rfl)
      try simp only [Act.put, List.setIfInBounds_toArray, List.set_cons_zero, List.set_cons_succ, List.getElem_toArray, List.getElem_cons_zero, List.getElem_cons_succ]
      refine wpAnyH_take (i := 11) (v := ?_) rfl (by kernel_rfl) (by kernel_rfl) (by kernel_rfl) (fun _ _ _ h => h) (Or.inl ⟨by rfl, ?_⟩) (by assumption) ?_
      rotate_left
      · intro w' hSw
        (try dsimp only at hSw)
        go_simp
        all_goals (with_reducible rfl)
      try simp only [Act.put, List.setIfInBounds_toArray, List.set_cons_zero, List.set_cons_succ, List.getElem_toArray, List.getElem_cons_zero, List.getElem_cons_succ]
      refine wpAnyH_take (i := 12) (v := ?_) rfl (by kernel_rfl) (by kernel_rfl) (by kernel_rfl) (fun _ _ _ h => h) (Or.inl ⟨by rfl, ?_⟩) (by assumption) ?_
      rotate_left
      · intro w' hSw
        (try dsimp only at hSw)
        go_simp
        all_goals (with_reducible rfl)
      try simp only [Act.put, List.setIfInBounds_toArray, List.set_cons_zero, List.set_cons_succ, List.getElem_toArray, List.getElem_cons_zero, List.getElem_cons_succ]
      refine wpAnyH_ready (rs := [13]) (by kernel_rfl) (by simp) ?_
      refine AllReadyH.cons rfl (fun K hK => ?_) AllReadyH.nil
      go_simp
      refine hK.out _ _ (bb2.alloc bb2.size _) (fun hHeld => ?_)
      clear hK
      try simp only [Act.put, List.setIfInBounds_toArray, List.set_cons_zero, List.set_cons_succ, List.getElem_toArray, List.getElem_cons_zero, List.getElem_cons_succ]
      refine wpAnyH_ready (rs := [14]) (by kernel_rfl) (by simp) ?_
      refine AllReadyH.cons rfl (fun K hK => ?_) AllReadyH.nil
      go_simp
      refine hK.out _ _ (bb2.alloc bb2.size _) (fun hHeld => ?_)
      clear hK
      try simp only [Act.put, List.setIfInBounds_toArray, List.set_cons_zero, List.set_cons_succ, List.getElem_toArray, List.getElem_cons_zero, List.getElem_cons_succ]
      refine wpAnyH_take (i := 15) (v := ?_) rfl (by kernel_rfl) (by kernel_rfl) (by kernel_rfl) (fun _ _ _ h => h) (Or.inl ⟨by rfl, ?_⟩) (by assumption) ?_
      rotate_left
      · intro w' hSw
        (try dsimp only at hSw)
        go_simp
        all_goals (with_reducible rfl)
      try simp only [Act.put, List.setIfInBounds_toArray, List.set_cons_zero, List.set_cons_succ, List.getElem_toArray, List.getElem_cons_zero, List.getElem_cons_succ]
      refine wpAnyH_done (by kernel_rfl) ?_ _
      go_wp2_with fail
      go_meet
      case rel => exact mid.out
    · go_simp
      refine hK.out _ _ (bb0 _) (fun hHeld => ?_)
      clear hK
      try simp only [Act.put, List.setIfInBounds_toArray, List.set_cons_zero, List.set_cons_succ, List.getElem_toArray, List.getElem_cons_zero, List.getElem_cons_succ]
      refine wpAnyH_ready (rs := [9]) (by kernel_rfl) (by simp) ?_
      refine AllReadyH.cons rfl (fun K hK => ?_) AllReadyH.nil
      go_simp
      refine (HPR.out _ (bb0 _)).mono ?_
      rintro e w4 ⟨v, rfl, own, hr⟩
      obtain ⟨A5, c5, D5, q5, C5, f5, rfl⟩ := own.form
      have hq := lm_2 (e := er) hr own
      have bb2 := hq.1
      obtain ⟨⟨r0, r1, r2, r3, r4, r5, r6⟩, z0, z1, z2, z3, z4, z5, z6⟩ := hq.2.1.seven
      have mid := Lib.hid hq.2.2
      unfold put7 at mid
      have kk := below_put7 bb2 (g := W0.heap.size) (Nat.le_refl _) (.int .u8 a.ph) (.int .i64 a.ba) (.slice A5 a.ms.length c5) (.string a.wi) (.string a.va) (.slice D5 a.ps.length q5) (.slice C5 a.ac.length f5)
      unfold put7 at kk
      clear hq hr own
      refine hK.out _ _ (bb2) (fun hHeld => ?_)
      clear hK
      try simp only [Act.put, List.setIfInBounds_toArray, List.set_cons_zero, List.set_cons_succ, List.getElem_toArray, List.getElem_cons_zero, List.getElem_cons_succ]
      refine wpAnyH_take (i := 10) (v := ?_) rfl (by kernel_rfl) (by kernel_rfl) (by kernel_rfl) (fun _ _ _ h => h) (Or.inl ⟨by rfl, ?_⟩) (by assumption) ?_
      rotate_left
      · intro w' hSw
        (try dsimp only at hSw)
        go_simp
        all_goals (with_reducible rfl)
      try simp only [Act.put, List.setIfInBounds_toArray, List.set_cons_zero, List.set_cons_succ, List.getElem_toArray, List.getElem_cons_zero, List.getElem_cons_succ]
      refine wpAnyH_take (i := 11) (v := ?_) rfl (by kernel_rfl) (by kernel_rfl) (by kernel_rfl) (fun _ _ _ h => h) (Or.inl ⟨by rfl, ?_⟩) (by assumption) ?_
      rotate_left
      · intro w' hSw
        (try dsimp only at hSw)
        go_simp
        all_goals (with_reducible rfl)
      try simp only [Act.put, List.setIfInBounds_toArray, List.set_cons_zero, List.set_cons_succ, List.getElem_toArray, List.getElem_cons_zero, List.getElem_cons_succ]
      refine wpAnyH_take (i := 12) (v := ?_) rfl (by kernel_rfl) (by kernel_rfl) (by kernel_rfl) (fun _ _ _ h => h) (Or.inl ⟨by rfl, ?_⟩) (by assumption) ?_
      rotate_left
      · intro w' hSw
        (try dsimp only at hSw)
        go_simp
        all_goals (with_reducible rfl)
      try simp only [Act.put, List.setIfInBounds_toArray, List.set_cons_zero, List.set_cons_succ, List.getElem_toArray, List.getElem_cons_zero, List.getElem_cons_succ]
      refine wpAnyH_ready (rs := [14]) (by kernel_rfl) (by simp) ?_
      refine AllReadyH.cons rfl (fun K hK => ?_) AllReadyH.nil
      go_simp
      refine hK.out _ _ (kk) (fun hHeld => ?_)
      clear hK
      try simp only [Act.put, List.setIfInBounds_toArray, List.set_cons_zero, List.set_cons_succ, List.getElem_toArray, List.getElem_cons_zero, List.getElem_cons_succ]
      refine wpAnyH_take (i := 15) (v := ?_) rfl (by kernel_rfl) (by kernel_rfl) (by kernel_rfl) (fun _ _ _ h => h) (Or.inl ⟨by rfl, ?_⟩) (by assumption) ?_
      rotate_left
      · intro w' hSw
        (try dsimp only at hSw)
        go_simp
        all_goals (with_reducible rfl)
      try simp only [Act.put, List.setIfInBounds_toArray, List.set_cons_zero, List.set_cons_succ, List.getElem_toArray, List.getElem_cons_zero, List.getElem_cons_succ]
      refine wpAnyH_done (by kernel_rfl) ?_ _
      go_wp2_with fail
      go_meet
      case rel => exact mid.out
  case rest =>
    obtain ⟨gM, A5, c5, D5, q5, C5, f5, rfl, rfl, hmb, hmg, hmv, hmo⟩ := hcut
    clear CC HPR
    have S1 : Hid (TkS W base g w gM a A5 c5 D5 q5 C5 f5 wc) := Lib.hid ⟨HWd.out.below hmb, ⟨hmv, hmo.mono (show base ≤ W0.heap.size from Nat.le_trans HBS.out BW.out.size)⟩, (Kept.of_below (S := isTk) BW.out).more hmb, bmore (BW.out.mono HBS.out) hmb HBS.out⟩
    clear hmb hmv hmo HWd BW hmg
    by_cases he : er = 0
    rotate_left
    · have e1 : (er != 0) = true := by simpa using he
      have HF : Hid (TakPost base g w (i : Int) k p W (.returned (.tuple #[])) wc) := Lib.hid ⟨rfl, by rw [HA.out he]; exact S1.out.1, S1.out.2.2.1, S1.out.2.2.2⟩
      clear he HA HB HC HTL
      go_wp2_with fail
      go_end0
      exact HF.out
    have HE := Lib.hid (HB.out he)
    have HE2 := Lib.hid (HC.out he)
    have HTL2 := Lib.hid (HTL.out he)
    subst he
    clear HA HB HC HTL
    go_upto_region 3 with (fail)
    obtain ⟨q2, c2, hq2, hq2l, d2, hthere, hst, hfar⟩ := (show WdAt wc.drew base g w from S1.out.1).storeT LT6.out HI.out
    obtain ⟨hs1, hs2, hs3, hs4⟩ := hst a _ _ _ _ _ _ _ S1.out.2.1.2
    have hxM := hfar gM _ (show Box wc.drew gM _ _ from S1.out.2.1.1) rfl (.int .u8 a.ph) (.int .i64 a.ba) (.slice A5 a.ms.length c5) (.string a.wi) (.string a.va) (.slice D5 a.ps.length q5) (.slice C5 a.ac.length f5)
    have NX : Hid (TkS W base g ⟨w.ms, w.vs, w.ts.set i a, w.ml, w.ch⟩ gM a A5 c5 D5 q5 C5 f5 (putAt7 wc.drew q2 (i * 7) (.int .u8 a.ph) (.int .i64 a.ba) (.slice A5 a.ms.length c5) (.string a.wi) (.string a.va) (.slice D5 a.ps.length q5) (.slice C5 a.ac.length f5))) :=
      Lib.hid ⟨hs1, ⟨hxM, (hs2.at_ (show AtOwn wc.drew base _ _ from S1.out.2.1.2) (by unfold isA; decide) (by unfold isA; decide))⟩, (S1.out.2.2.1.more ((Below.refl _ _).drew)).trans (hs2.mono fun _ h => tk_of_a h), below_more (bmore S1.out.2.2.2 ((Below.refl _ _).drew) HBS.out) hs3⟩
    obtain ⟨⟨s0, s1, s2, s3, s4, s5, s6⟩, _⟩ := (show Box wc.drew gM _ _ from S1.out.2.1.1).seven
    obtain ⟨⟨r0, r1, r2, r3, r4, r5, r6⟩, _⟩ := hxM.seven
    clear hst hfar hs1 hs2 hs3 hxM S1 hq2 hq2l
    go_cut [32] (fun _ wx => TkS W base g ⟨w.ms, w.vs, w.ts.set i a, w.ml, w.ch⟩ gM a A5 c5 D5 q5 C5 f5 wx)
    case first =>
      have hS0 : wc.drew.cell? ⟨g, 2, none⟩ = some (.slice (some ⟨q2, 0, none⟩) w.ts.length c2) ∧ wc.drew.cell? ⟨gM, 0, none⟩ = some (.int .u8 a.ph) ∧ wc.drew.cell? ⟨gM, 1, none⟩ = some (.int .i64 a.ba) ∧ wc.drew.cell? ⟨gM, 2, none⟩ = some (.slice A5 a.ms.length c5) ∧ wc.drew.cell? ⟨gM, 3, none⟩ = some (.string a.wi) ∧ wc.drew.cell? ⟨gM, 4, none⟩ = some (.string a.va) ∧ wc.drew.cell? ⟨gM, 5, none⟩ = some (.slice D5 a.ps.length q5) ∧ wc.drew.cell? ⟨gM, 6, none⟩ = some (.slice C5 a.ac.length f5) := ⟨d2, s0, s1, s2, s3, s4, s5, s6⟩
      have hS1 := And.intro hs4 (And.intro r0 (And.intro r1 (And.intro r2 (And.intro r3 (And.intro r4 (And.intro r5 r6))))))
      clear r0 r1 r2 r3 r4 r5 r6 s0 s1 s2 s3 s4 s5 s6 d2 hs4
      refine wp_region_held_drew (S := fun w' => w'.cell? ⟨g, 2, none⟩ = some (.slice (some ⟨q2, 0, none⟩) w.ts.length c2) ∧ w'.cell? ⟨gM, 0, none⟩ = some (.int .u8 a.ph) ∧ w'.cell? ⟨gM, 1, none⟩ = some (.int .i64 a.ba) ∧ w'.cell? ⟨gM, 2, none⟩ = some (.slice A5 a.ms.length c5) ∧ w'.cell? ⟨gM, 3, none⟩ = some (.string a.wi) ∧ w'.cell? ⟨gM, 4, none⟩ = some (.string a.va) ∧ w'.cell? ⟨gM, 5, none⟩ = some (.slice D5 a.ps.length q5) ∧ w'.cell? ⟨gM, 6, none⟩ = some (.slice C5 a.ac.length f5)) (by kernel_rfl) hS0 (fun hHeld => ?_)
      refine wpAnyH_take (i := 0) (v := ?_) rfl (by kernel_rfl) (by kernel_rfl) (by kernel_rfl) (fun _ _ _ h => h) (Or.inl ⟨by rfl, ?_⟩) (by assumption) ?_
      rotate_left
      · intro w' hSw
        (try dsimp only at hSw)
        go_simp
        all_goals (with_reducible rfl)
      try simp only [Act.put, List.setIfInBounds_toArray, List.set_cons_zero, List.set_cons_succ, List.getElem_toArray, List.getElem_cons_zero, List.getElem_cons_succ]
      refine wpAnyH_take (i := 1) (v := ?_) rfl (by kernel_rfl) (by kernel_rfl) (by kernel_rfl) (fun _ _ _ h => h) (Or.inl ⟨by rfl, ?_⟩) (by assumption) ?_
      rotate_left
      · intro w' hSw
        (try dsimp only at hSw)
        go_simp
        all_goals (with_reducible rfl)
      try simp only [Act.put, List.setIfInBounds_toArray, List.set_cons_zero, List.set_cons_succ, List.getElem_toArray, List.getElem_cons_zero, List.getElem_cons_succ]
      refine wpAnyH_take (i := 2) (v := ?_) rfl (by kernel_rfl) (by kernel_rfl) (by kernel_rfl) (fun _ _ _ h => h) (Or.inl ⟨by rfl, ?_⟩) (by assumption) ?_
      rotate_left
      · intro w' hSw
        (try dsimp only at hSw)
        go_simp
        all_goals (with_reducible rfl)
      try simp only [Act.put, List.setIfInBounds_toArray, List.set_cons_zero, List.set_cons_succ, List.getElem_toArray, List.getElem_cons_zero, List.getElem_cons_succ]
      refine wpAnyH_take (i := 3) (v := ?_) rfl (by kernel_rfl) (by kernel_rfl) (by kernel_rfl) (fun _ _ _ h => h) (Or.inl ⟨by rfl, ?_⟩) (by assumption) ?_
      rotate_left
      · intro w' hSw
        (try dsimp only at hSw)
        go_simp
        all_goals (with_reducible rfl)
      try simp only [Act.put, List.setIfInBounds_toArray, List.set_cons_zero, List.set_cons_succ, List.getElem_toArray, List.getElem_cons_zero, List.getElem_cons_succ]
      refine wpAnyH_take (i := 4) (v := ?_) rfl (by kernel_rfl) (by kernel_rfl) (by kernel_rfl) (fun _ _ _ h => h) (Or.inl ⟨by rfl, ?_⟩) (by assumption) ?_
      rotate_left
      · intro w' hSw
        (try dsimp only at hSw)
        go_simp
        all_goals (with_reducible rfl)
      try simp only [Act.put, List.setIfInBounds_toArray, List.set_cons_zero, List.set_cons_succ, List.getElem_toArray, List.getElem_cons_zero, List.getElem_cons_succ]
      refine wpAnyH_take (i := 5) (v := ?_) rfl (by kernel_rfl) (by kernel_rfl) (by kernel_rfl) (fun _ _ _ h => h) (Or.inl ⟨by rfl, ?_⟩) (by assumption) ?_
      rotate_left
      · intro w' hSw
        (try dsimp only at hSw)
        go_simp
        all_goals (with_reducible rfl)
      try simp only [Act.put, List.setIfInBounds_toArray, List.set_cons_zero, List.set_cons_succ, List.getElem_toArray, List.getElem_cons_zero, List.getElem_cons_succ]
      refine wpAnyH_take (i := 6) (v := ?_) rfl (by kernel_rfl) (by kernel_rfl) (by kernel_rfl) (fun _ _ _ h => h) (Or.inl ⟨by rfl, ?_⟩) (by assumption) ?_
      rotate_left
      · intro w' hSw
        (try dsimp only at hSw)
        go_simp
        all_goals (with_reducible rfl)
      try simp only [Act.put, List.setIfInBounds_toArray, List.set_cons_zero, List.set_cons_succ, List.getElem_toArray, List.getElem_cons_zero, List.getElem_cons_succ]
      refine wpAnyH_ready (rs := [7]) (by kernel_rfl) (by simp) ?_
      refine AllReadyH.cons rfl (fun K hK => ?_) AllReadyH.nil
      refine step_store_mid rfl 49 _ _ rfl q2 (i * 7) #[.int .u8 a.ph, .int .i64 a.ba, .slice A5 a.ms.length c5, .string a.wi, .string a.va, .slice D5 a.ps.length q5, .slice C5 a.ac.length f5] (by simp [Act.eval, Act.put]) (by simp [Act.eval, Act.put]) hthere (by kernel_rfl) (by simp [Value.oneCell']) ?_
      refine hK.out _ _ (hS1) (fun hHeld => ?_)
      clear hK
      try simp only [Act.put, List.setIfInBounds_toArray, List.set_cons_zero, List.set_cons_succ, List.getElem_toArray, List.getElem_cons_zero, List.getElem_cons_succ]
      refine wpAnyH_done (by kernel_rfl) ?_ _
      go_wp2_with fail
      go_meet
      case rel => exact NX.out
    case rest =>
      clear NX hthere r0 r1 r2 r3 r4 r5 r6 s0 s1 s2 s3 s4 s5 s6 d2 hs4
      have S2 := Lib.hid hcut
      clear hcut
      obtain ⟨⟨s0, s1, s2, s3, s4, s5, s6⟩, _⟩ := S2.out.2.1.1.seven
      clear s1 s2 s3 s4 s5 s6
      by_cases h2 : a.ph = 2
      rotate_left
      · have e2 : (a.ph == 2) = false := by simpa using h2
        have HF := Lib.hid (show TakPost base g w (i : Int) k p W (.returned (.tuple #[])) _ from ⟨rfl, by rw [HE.out h2]; exact S2.out.1, S2.out.2.2.1, S2.out.2.2.2⟩)
        clear HE HE2 HTL2 h2
        go_wp2_with fail
        go_end0
        exact HF.out
      have e2 : (a.ph == 2) = true := by simpa using h2
      have HG := Lib.hid (HE2.out h2)
      have HTL3 := Lib.hid (HTL2.out h2)
      clear HE HE2 HTL2 h2
      go_wp2_with fail
      refine (HTL3.out _ S2.out.1 (Nat.le_trans HBS.out S2.out.2.2.2.size)).mono ?_
      rintro e wz ⟨rfl, hz1, hz2, hz3⟩
      have HF : Hid (TakPost base g w (i : Int) k p W (.returned (.tuple #[])) wz) := Lib.hid ⟨rfl, by rw [HG.out]; exact hz1, S2.out.2.2.1.trans hz2, below_more S2.out.2.2.2 hz3⟩
      clear hz1 hz2 hz3 s0 HTL3
      go_wp2_with fail
      go_end0
      exact HF.out
end Go.Proofs.Ytiiobafcgdelmaa.PD
