/-
  The document's own May of a clock (towncrierref15), of anything. Conditions: numbers are ints, texts' lengths are ones that Go has.
-/
import Derived.Test.YtnpgjcapekopnaaGreatSkB
import Derived.Test.YtnpgjcapekopnaaGreatSkE
import Derived.Test.YtnpgjcapekopnaaGreatCmMay
namespace Go.Proofs.YtnpgjcapekopnaaGreat.KP
open Go.RowKit CP TP
open CM (Mg Cm)
open TM (Sp)
open KM (Wt Sk)
set_option linter.unusedVariables false
set_option linter.unusedSimpArgs false
set_option maxRecDepth 100000

theorem last_take {α : Type} {l : List α} {k : Nat} {x : α} (h : l[k]? = some x) : (l.take (k + 1)).getLast? = some x := by
  rw [List.take_add_one, h]
  simp
/-- of some that are done, one more -/
theorem done_more {c : Int} {ds : List Sp} {k : Nat} {x : Sp} (h : KM.DoneOk c (ds.take k)) (hx : ds[k]? = some x) (h1 : TM.ok x) (h2 : 1 ≤ x.t) (h3 : x.t ≤ c) (h4 : ∀ y, ds[k - 1]? = some y → 0 < k → TM.less y x = true)
    (h5 : ∀ j y, j < k → ds[j]? = some y → y.i ≠ x.i) : KM.DoneOk c (ds.take (k + 1)) := by
  rw [List.take_add_one, hx]
  refine KM.doneOk_snoc.2 ⟨h, ⟨h1, h2, h3⟩, fun z hz => ?_, fun y hy => ?_⟩
  · rcases k with _ | k
    · simp at hz
    · have hkl := (List.getElem?_eq_some_iff.1 hx).1
      have he : ds[k]? = some ds[k] := List.getElem?_eq_getElem (by omega)
      rw [last_take he] at hz
      injection hz with hz
      subst hz
      exact h4 _ he (by omega)
  · obtain ⟨j, hj⟩ := List.getElem?_of_mem hy
    rw [List.getElem?_take] at hj
    split at hj
    · exact h5 j y (by assumption) hj
    · cases hj
theorem done_less {c : Int} {ds : List Sp} {k : Nat} {x : Sp} (h : KM.DoneOk c (ds.take (k + 1))) (hx : ds[k]? = some x) : (TM.ok x ∧ 1 ≤ x.t ∧ x.t ≤ c) ∧ (∀ y, ds[k - 1]? = some y → 0 < k → TM.less y x = true) ∧ ∀ j y, j < k → ds[j]? = some y → y.i ≠ x.i := by
  rw [List.take_add_one, hx] at h
  obtain ⟨_, h1, h2, h3⟩ := KM.doneOk_snoc.1 h
  refine ⟨h1, fun y hy hk => h2 y ?_, fun j y hj hy => h3 y ?_⟩
  · obtain ⟨j, rfl⟩ : ∃ j, k = j + 1 := ⟨k - 1, by omega⟩
    exact last_take (by simpa using hy)
  · exact List.mem_of_getElem? (i := j) (by rw [List.getElem?_take, if_pos hj]; exact hy)
theorem wait_more {c : Int} {ds : List Sp} {ws : List Wt} {k : Nat} {x : Wt} (h : KM.WaitOk c ds (ws.take k)) (hx : ws[k]? = some x) (h1 : CM.mgOk x.m) (h2 : 1 ≤ x.t ∧ x.t ≤ c) (h3 : KM.doneF ds x.m.id = false) (h4 : (ds.getLast?.all fun z => TM.less z (KM.stp x)) = true)
    (h5 : ∀ y, ws[k - 1]? = some y → 0 < k → y.m.id < x.m.id) : KM.WaitOk c ds (ws.take (k + 1)) := by
  rw [List.take_add_one, hx]
  refine KM.waitOk_snoc.2 ⟨h, ⟨h1, h2, h3, h4⟩, fun z hz => ?_⟩
  rcases k with _ | k
  · simp at hz
  · have hkl := (List.getElem?_eq_some_iff.1 hx).1
    have he : ws[k]? = some ws[k] := List.getElem?_eq_getElem (by omega)
    rw [last_take he] at hz
    injection hz with hz
    subst hz
    exact h5 _ he (by omega)
theorem wait_less {c : Int} {ds : List Sp} {ws : List Wt} {k : Nat} {x : Wt} (h : KM.WaitOk c ds (ws.take (k + 1))) (hx : ws[k]? = some x) : (CM.mgOk x.m ∧ (1 ≤ x.t ∧ x.t ≤ c) ∧ KM.doneF ds x.m.id = false ∧ (ds.getLast?.all fun z => TM.less z (KM.stp x)) = true) ∧ ∀ y, ws[k - 1]? = some y → 0 < k → y.m.id < x.m.id := by
  rw [List.take_add_one, hx] at h
  obtain ⟨_, h1, h2⟩ := KM.waitOk_snoc.1 h
  refine ⟨h1, fun y hy hk => h2 y ?_⟩
  obtain ⟨j, rfl⟩ : ∃ j, k = j + 1 := ⟨k - 1, by omega⟩
  exact last_take (by simpa using hy)
set_option maxHeartbeats 64000000 in
theorem rmay15_any (v : Value) (s : Sk) (w : World) (h : SkIs w v s) (hf : SkFit s) : Calls Tryz.prog 15 #[v] w (IsB (decide (KM.may s)) w) := by
  obtain ⟨A, c, B, d, rfl, r1, d1⟩ := h
  obtain ⟨sc, ws, ds⟩ := s
  simp only at r1 d1
  obtain ⟨n, hna⟩ : ∃ n, n = ws.length := ⟨_, rfl⟩
  obtain ⟨m, hmb⟩ : ∃ m, m = ds.length := ⟨_, rfl⟩
  obtain ⟨r, hr⟩ : ∃ r, r = decide (KM.may ⟨sc, ws, ds⟩) := ⟨_, rfl⟩
  have KD := Lib.hid (fun W (hb : Below w.heap.size w W) id => rdone_any (vsk sc (.slice A ws.length c) (.slice B ds.length d)) ⟨sc, ws, ds⟩ id W ⟨A, c, B, d, rfl, r1.below hb, d1.below hb⟩)
  rw [← hna, ← hmb] at KD
  unfold vsk at KD ⊢
  simp only
  rw [← hr]
  rw [← hna] at r1 ⊢
  rw [← hmb] at d1 ⊢
  have HLA := Lib.hid hna
  have HLB := Lib.hid hmb
  have HNO := Lib.hid (show ¬ KM.may ⟨sc, ws, ds⟩ → r = false from fun h => by rw [hr]; exact decide_eq_false h)
  have HYES := Lib.hid (show KM.may ⟨sc, ws, ds⟩ → r = true from fun h => by rw [hr]; exact decide_eq_true h)
  have HFT := Lib.hid hf.2.1
  clear hna hmb hf hr
  have hn63 := r1.small
  have hm63 := d1.small
  have H := Lib.hid (fun W (hb : Below w.heap.size w W) => r1.below hb)
  have HD := Lib.hid (fun W (hb : Below w.heap.size w W) => d1.below hb)
  have HB := Lib.hid (show Below w.heap.size w (w.alloc (.cells #[.int .i64 sc, .slice A n c, .slice B m d] 25)) from (Below.refl _ _).alloc (Nat.le_refl _) _)
  have X := Lib.hid (Box.new w 25 #[.int .i64 sc, .slice A n c, .slice B m d])
  clear r1 d1
  go_enter Tryz.func15, Tryz.ntmps15
  go_upto_region 1 with (fail)
  generalize w.alloc (.cells #[.int .i64 sc, .slice A n c, .slice B m d] 25) = w1 at HB X ⊢
  generalize hg : w.heap.size = g at X ⊢
  clear hg
  obtain ⟨x0, x1, x2⟩ := box_sk X.out
  by_cases p1 : sc < 0
  · have HF := Lib.hid (HNO.out fun k => by have : 0 ≤ sc := k.1.1; omega)
    go_wp2_with fail
    go_ret
    exact ⟨by rw [HF.out]; rfl, HB.out⟩
  by_cases p2 : 1073741824 < sc
  · have HF := Lib.hid (HNO.out fun k => by have : sc ≤ 1073741824 := k.1.2.1; omega)
    go_wp2_with fail
    go_ret
    exact ⟨by rw [HF.out]; rfl, HB.out⟩
  by_cases p3 : 200 < n
  · have HF := Lib.hid (HNO.out fun k => by have : ws.length ≤ 200 := k.1.2.2.1; have := HLA.out; omega)
    go_wp2_with fail
    go_ret
    exact ⟨by rw [HF.out]; rfl, HB.out⟩
  by_cases p4 : 200 < m
  · have HF := Lib.hid (HNO.out fun k => by have : ds.length ≤ 200 := k.1.2.2.2; have := HLB.out; omega)
    go_wp2_with fail
    go_ret
    exact ⟨by rw [HF.out]; rfl, HB.out⟩
  go_wp2_with fail
  clear x0 x1 x2
  go_loopw [3] (fun i wr => ∃ k : Nat, k ≤ m ∧ i = .int .i64 k ∧ Below w1.heap.size w1 wr ∧ Hid (KM.DoneOk sc (ds.take k))) (fun i _ => m - (intOf i).toNat)
  case atStart => exact ⟨0, by omega, rfl, Below.refl _ _, Lib.hid (by simpa using KM.doneOk_nil sc)⟩
  case round =>
    obtain ⟨k, hk, rfl, hB, HK⟩ := hrel
    have HBr := Lib.hid hB
    have HB2 := Lib.hid (bmore HB.out hB (Nat.le_refl _))
    have XR := Lib.hid (X.out.below hB X.out.lt)
    obtain ⟨x0, x1, x2⟩ := box_sk XR.out
    clear hB
    by_cases hlt : k < m
    · obtain ⟨a, ha⟩ : ∃ a, ds[k]? = some a := ⟨_, List.getElem?_eq_getElem (by have := HLB.out; omega)⟩
      have HA := Lib.hid ha
      obtain ⟨bl, o, rfl, _, hbl, a0, a1⟩ := (HD.out _ HB2.out).at_ ha
      clear ha
      have hk0 : (0 : Int) ≤ (k : Int) := by omega
      have hkn : (k : Int) < (m : Int) := by omega
      have HBAD := Lib.hid (show ¬ ((TM.ok a ∧ 1 ≤ a.t ∧ a.t ≤ sc) ∧ (∀ y, ds[k - 1]? = some y → 0 < k → TM.less y a = true) ∧ ∀ j y, j < k → ds[j]? = some y → y.i ≠ a.i) → r = false from fun hh => HNO.out fun kk => hh (done_less (KM.doneOk_take kk.2.1 (k + 1)) HA.out))
      have HMORE := Lib.hid (fun h1 h2 h3 h4 h5 => done_more HK.out HA.out h1 h2 h3 h4 h5)
      have CM1 := Lib.hid (fun w => TP.rmay_any a w)
      obtain ⟨at_, ai⟩ := a
      unfold vsp at CM1
      simp only at a0 a1 CM1 HBAD HMORE
      have hb3 : Below wr.heap.size wr (wr.alloc (.cells #[.int .i64 at_, .int .i64 ai] 70)) := (Below.refl _ _).alloc (Nat.le_refl _) _
      have V := Lib.hid (Box.new wr 70 #[.int .i64 at_, .int .i64 ai])
      have HB3 := Lib.hid (bmore HB2.out hb3 (Nat.le_refl _))
      have XV := Lib.hid (XR.out.below hb3 XR.out.lt)
      have HBW := Lib.hid (bmore HBr.out hb3 (Nat.le_refl _))
      go_upto_region 7 with (fail)
      clear hb3 x0 x1 x2 a0 a1
      generalize wr.alloc (.cells #[.int .i64 at_, .int .i64 ai] 70) = w3 at V HB3 XV HBW ⊢
      generalize wr.heap.size = p at V ⊢
      obtain ⟨ok1, hok1⟩ : ∃ q, q = decide (TM.ok ⟨at_, ai⟩) := ⟨_, rfl⟩
      rw [← hok1] at CM1
      have HOK := Lib.hid hok1
      clear hok1
      go_cut [69] (fun u wx => (∃ bad : Bool, u = .bool bad ∧ (bad = true → r = false) ∧ (bad = false → (TM.ok ⟨at_, ai⟩ ∧ 1 ≤ at_ ∧ at_ ≤ sc) ∧ ∀ y, ds[k - 1]? = some y → 0 < k → TM.less y ⟨at_, ai⟩ = true)) ∧ Below w3.heap.size w3 wx)
      case first =>
        as_aux_lemma =>
          rcases ok1 with _ | _
          · have HF := Lib.hid (HBAD.out fun hh => by have := of_decide_eq_false HOK.out.symm; exact this hh.1.1)
            have HSS := Lib.hid (fun (w' : World) (h : Below w3.heap.size w3 w') => show w'.cell? ⟨g, 0, none⟩ = some (.int .i64 sc) ∧ w'.cell? ⟨g, 1, none⟩ = some (.slice A n c) ∧ w'.cell? ⟨g, 2, none⟩ = some (.slice (some ⟨bl, o, none⟩) m d) ∧ w'.cell? ⟨p, 0, none⟩ = some (.int .i64 at_) ∧ w'.cell? ⟨p, 1, none⟩ = some (.int .i64 ai) from
              ⟨(XV.out.below h XV.out.lt).cell 0, (XV.out.below h XV.out.lt).cell 1, (XV.out.below h XV.out.lt).cell 2, (V.out.below h V.out.lt).cell 0, (V.out.below h V.out.lt).cell 1⟩)
            have bb1 : Below w3.heap.size w3 w3.drew := (Below.refl _ _).drew
            obtain ⟨ud, hud⟩ : ∃ ud, ud = w3.drew := ⟨_, rfl⟩
            refine wp_region_held_drew (S := fun w' => w'.cell? ⟨g, 0, none⟩ = some (.int .i64 sc) ∧ w'.cell? ⟨g, 1, none⟩ = some (.slice A n c) ∧ w'.cell? ⟨g, 2, none⟩ = some (.slice (some ⟨bl, o, none⟩) m d) ∧ w'.cell? ⟨p, 0, none⟩ = some (.int .i64 at_) ∧ w'.cell? ⟨p, 1, none⟩ = some (.int .i64 ai)) (by kernel_rfl) (HSS.out _ bb1) (fun hHeld => ?_)
            rw [← hud] at bb1 hHeld ⊢
            clear hud
            refine qT 0 ?_; try simp only [Act.put, qq]
            refine wpAnyH_ready (rs := [1]) (by kernel_rfl) (by simp) ?_
            refine AllReadyH.cons rfl (fun K hK => ?_) AllReadyH.nil
            go_simp
            refine (CM1.out _).mono ?_
            rintro e w5 ⟨rfl, hb⟩
            have bb2 := bmore bb1 hb (Nat.le_refl _)
            clear hb
            refine hK.out _ _ (HSS.out _ bb2) (fun hHeld => ?_)
            clear hK
            try simp only [Act.put, qq]
            refine qT 2 ?_; try simp only [Act.put, qq]
            refine qT 3 ?_; try simp only [Act.put, qq]
            refine qS 4 ?_; try simp only [Act.put, qq]
            refine qS 5 ?_; try simp only [Act.put, qq]
            refine qS 6 ?_; try simp only [Act.put, qq]
            refine qT 7 ?_; try simp only [Act.put, qq]
            refine qT 8 ?_; try simp only [Act.put, qq]
            refine qS 9 ?_; try simp only [Act.put, qq]
            refine qS 10 ?_; try simp only [Act.put, qq]
            refine qS 11 ?_; try simp only [Act.put, qq]
            refine qS 12 ?_; try simp only [Act.put, qq]
            refine qS 13 ?_; try simp only [Act.put, qq]
            refine qT 14 ?_; try simp only [Act.put, qq]
            refine qT 15 ?_; try simp only [Act.put, qq]
            refine qS 16 ?_; try simp only [Act.put, qq]
            refine qS 17 ?_; try simp only [Act.put, qq]
            refine qS 18 ?_; try simp only [Act.put, qq]
            refine qS 19 ?_; try simp only [Act.put, qq]
            refine qS 20 ?_; try simp only [Act.put, qq]
            refine qS 21 ?_; try simp only [Act.put, qq]
            refine qS 22 ?_; try simp only [Act.put, qq]
            refine qS 23 ?_; try simp only [Act.put, qq]
            refine qS 24 ?_; try simp only [Act.put, qq]
            refine qS 25 ?_; try simp only [Act.put, qq]
            refine qS 26 ?_; try simp only [Act.put, qq]
            refine qS 27 ?_; try simp only [Act.put, qq]
            refine qS 28 ?_; try simp only [Act.put, qq]
            refine qT 29 ?_; try simp only [Act.put, qq]
            refine wpAnyH_done (by kernel_rfl) ?_ _
            clear hHeld HSS
            go_wp2_with fail
            go_meet
            case rel => exact ⟨⟨true, rfl, fun _ => HF.out, fun h => (by cases h)⟩, bb2⟩
          have HOKT := Lib.hid (of_decide_eq_true HOK.out.symm)
          by_cases q1 : at_ < 1
          · have HF := Lib.hid (HBAD.out fun hh => by have := hh.1.2.1; omega)
            have HSS := Lib.hid (fun (w' : World) (h : Below w3.heap.size w3 w') => show w'.cell? ⟨g, 0, none⟩ = some (.int .i64 sc) ∧ w'.cell? ⟨g, 1, none⟩ = some (.slice A n c) ∧ w'.cell? ⟨g, 2, none⟩ = some (.slice (some ⟨bl, o, none⟩) m d) ∧ w'.cell? ⟨p, 0, none⟩ = some (.int .i64 at_) ∧ w'.cell? ⟨p, 1, none⟩ = some (.int .i64 ai) from
              ⟨(XV.out.below h XV.out.lt).cell 0, (XV.out.below h XV.out.lt).cell 1, (XV.out.below h XV.out.lt).cell 2, (V.out.below h V.out.lt).cell 0, (V.out.below h V.out.lt).cell 1⟩)
            have bb1 : Below w3.heap.size w3 w3.drew := (Below.refl _ _).drew
            obtain ⟨ud, hud⟩ : ∃ ud, ud = w3.drew := ⟨_, rfl⟩
            refine wp_region_held_drew (S := fun w' => w'.cell? ⟨g, 0, none⟩ = some (.int .i64 sc) ∧ w'.cell? ⟨g, 1, none⟩ = some (.slice A n c) ∧ w'.cell? ⟨g, 2, none⟩ = some (.slice (some ⟨bl, o, none⟩) m d) ∧ w'.cell? ⟨p, 0, none⟩ = some (.int .i64 at_) ∧ w'.cell? ⟨p, 1, none⟩ = some (.int .i64 ai)) (by kernel_rfl) (HSS.out _ bb1) (fun hHeld => ?_)
            rw [← hud] at bb1 hHeld ⊢
            clear hud
            refine qT 0 ?_; try simp only [Act.put, qq]
            refine wpAnyH_ready (rs := [1]) (by kernel_rfl) (by simp) ?_
            refine AllReadyH.cons rfl (fun K hK => ?_) AllReadyH.nil
            go_simp
            refine (CM1.out _).mono ?_
            rintro e w5 ⟨rfl, hb⟩
            have bb2 := bmore bb1 hb (Nat.le_refl _)
            clear hb
            refine hK.out _ _ (HSS.out _ bb2) (fun hHeld => ?_)
            clear hK
            try simp only [Act.put, qq]
            refine qT 2 ?_; try simp only [Act.put, qq]
            refine qT 3 ?_; try simp only [Act.put, qq]
            refine qT 4 ?_; try simp only [Act.put, qq]
            refine qT 5 ?_; try simp only [Act.put, qq]
            refine qT 6 ?_; try simp only [Act.put, qq]
            refine qT 7 ?_; try simp only [Act.put, qq]
            refine qT 8 ?_; try simp only [Act.put, qq]
            refine qS 9 ?_; try simp only [Act.put, qq]
            refine qS 10 ?_; try simp only [Act.put, qq]
            refine qS 11 ?_; try simp only [Act.put, qq]
            refine qS 12 ?_; try simp only [Act.put, qq]
            refine qS 13 ?_; try simp only [Act.put, qq]
            refine qT 14 ?_; try simp only [Act.put, qq]
            refine qT 15 ?_; try simp only [Act.put, qq]
            refine qS 16 ?_; try simp only [Act.put, qq]
            refine qS 17 ?_; try simp only [Act.put, qq]
            refine qS 18 ?_; try simp only [Act.put, qq]
            refine qS 19 ?_; try simp only [Act.put, qq]
            refine qS 20 ?_; try simp only [Act.put, qq]
            refine qS 21 ?_; try simp only [Act.put, qq]
            refine qS 22 ?_; try simp only [Act.put, qq]
            refine qS 23 ?_; try simp only [Act.put, qq]
            refine qS 24 ?_; try simp only [Act.put, qq]
            refine qS 25 ?_; try simp only [Act.put, qq]
            refine qS 26 ?_; try simp only [Act.put, qq]
            refine qS 27 ?_; try simp only [Act.put, qq]
            refine qS 28 ?_; try simp only [Act.put, qq]
            refine qT 29 ?_; try simp only [Act.put, qq]
            refine wpAnyH_done (by kernel_rfl) ?_ _
            clear hHeld HSS
            go_wp2_with fail
            go_meet
            case rel => exact ⟨⟨true, rfl, fun _ => HF.out, fun h => (by cases h)⟩, bb2⟩
          by_cases q2 : sc < at_
          · have HF := Lib.hid (HBAD.out fun hh => by have := hh.1.2.2; omega)
            have HSS := Lib.hid (fun (w' : World) (h : Below w3.heap.size w3 w') => show w'.cell? ⟨g, 0, none⟩ = some (.int .i64 sc) ∧ w'.cell? ⟨g, 1, none⟩ = some (.slice A n c) ∧ w'.cell? ⟨g, 2, none⟩ = some (.slice (some ⟨bl, o, none⟩) m d) ∧ w'.cell? ⟨p, 0, none⟩ = some (.int .i64 at_) ∧ w'.cell? ⟨p, 1, none⟩ = some (.int .i64 ai) from
              ⟨(XV.out.below h XV.out.lt).cell 0, (XV.out.below h XV.out.lt).cell 1, (XV.out.below h XV.out.lt).cell 2, (V.out.below h V.out.lt).cell 0, (V.out.below h V.out.lt).cell 1⟩)
            have bb1 : Below w3.heap.size w3 w3.drew := (Below.refl _ _).drew
            obtain ⟨ud, hud⟩ : ∃ ud, ud = w3.drew := ⟨_, rfl⟩
            refine wp_region_held_drew (S := fun w' => w'.cell? ⟨g, 0, none⟩ = some (.int .i64 sc) ∧ w'.cell? ⟨g, 1, none⟩ = some (.slice A n c) ∧ w'.cell? ⟨g, 2, none⟩ = some (.slice (some ⟨bl, o, none⟩) m d) ∧ w'.cell? ⟨p, 0, none⟩ = some (.int .i64 at_) ∧ w'.cell? ⟨p, 1, none⟩ = some (.int .i64 ai)) (by kernel_rfl) (HSS.out _ bb1) (fun hHeld => ?_)
            rw [← hud] at bb1 hHeld ⊢
            clear hud
            refine qT 0 ?_; try simp only [Act.put, qq]
            refine wpAnyH_ready (rs := [1]) (by kernel_rfl) (by simp) ?_
            refine AllReadyH.cons rfl (fun K hK => ?_) AllReadyH.nil
            go_simp
            refine (CM1.out _).mono ?_
            rintro e w5 ⟨rfl, hb⟩
            have bb2 := bmore bb1 hb (Nat.le_refl _)
            clear hb
            refine hK.out _ _ (HSS.out _ bb2) (fun hHeld => ?_)
            clear hK
            try simp only [Act.put, qq]
            refine qT 2 ?_; try simp only [Act.put, qq]
            refine qT 3 ?_; try simp only [Act.put, qq]
            refine qT 4 ?_; try simp only [Act.put, qq]
            refine qT 5 ?_; try simp only [Act.put, qq]
            refine qT 6 ?_; try simp only [Act.put, qq]
            refine qT 7 ?_; try simp only [Act.put, qq]
            refine qT 8 ?_; try simp only [Act.put, qq]
            refine qT 9 ?_; try simp only [Act.put, qq]
            refine qT 10 ?_; try simp only [Act.put, qq]
            refine qT 11 ?_; try simp only [Act.put, qq]
            refine qT 12 ?_; try simp only [Act.put, qq]
            refine qT 13 ?_; try simp only [Act.put, qq]
            refine qT 14 ?_; try simp only [Act.put, qq]
            refine qT 15 ?_; try simp only [Act.put, qq]
            refine qS 16 ?_; try simp only [Act.put, qq]
            refine qS 17 ?_; try simp only [Act.put, qq]
            refine qS 18 ?_; try simp only [Act.put, qq]
            refine qS 19 ?_; try simp only [Act.put, qq]
            refine qS 20 ?_; try simp only [Act.put, qq]
            refine qS 21 ?_; try simp only [Act.put, qq]
            refine qS 22 ?_; try simp only [Act.put, qq]
            refine qS 23 ?_; try simp only [Act.put, qq]
            refine qS 24 ?_; try simp only [Act.put, qq]
            refine qS 25 ?_; try simp only [Act.put, qq]
            refine qS 26 ?_; try simp only [Act.put, qq]
            refine qS 27 ?_; try simp only [Act.put, qq]
            refine qS 28 ?_; try simp only [Act.put, qq]
            refine qT 29 ?_; try simp only [Act.put, qq]
            refine wpAnyH_done (by kernel_rfl) ?_ _
            clear hHeld HSS
            go_wp2_with fail
            go_meet
            case rel => exact ⟨⟨true, rfl, fun _ => HF.out, fun h => (by cases h)⟩, bb2⟩
          rcases Nat.eq_zero_or_pos k with rfl | hkp
          · have HF := Lib.hid (show (TM.ok ⟨at_, ai⟩ ∧ 1 ≤ at_ ∧ at_ ≤ sc) ∧ ∀ y, ds[0 - 1]? = some y → 0 < 0 → TM.less y ⟨at_, ai⟩ = true from ⟨⟨HOKT.out, by omega, by omega⟩, fun _ _ h => absurd h (Nat.lt_irrefl 0)⟩)
            have HSS := Lib.hid (fun (w' : World) (h : Below w3.heap.size w3 w') => show w'.cell? ⟨g, 0, none⟩ = some (.int .i64 sc) ∧ w'.cell? ⟨g, 1, none⟩ = some (.slice A n c) ∧ w'.cell? ⟨g, 2, none⟩ = some (.slice (some ⟨bl, o, none⟩) m d) ∧ w'.cell? ⟨p, 0, none⟩ = some (.int .i64 at_) ∧ w'.cell? ⟨p, 1, none⟩ = some (.int .i64 ai) from
              ⟨(XV.out.below h XV.out.lt).cell 0, (XV.out.below h XV.out.lt).cell 1, (XV.out.below h XV.out.lt).cell 2, (V.out.below h V.out.lt).cell 0, (V.out.below h V.out.lt).cell 1⟩)
            have bb1 : Below w3.heap.size w3 w3.drew := (Below.refl _ _).drew
            obtain ⟨ud, hud⟩ : ∃ ud, ud = w3.drew := ⟨_, rfl⟩
            refine wp_region_held_drew (S := fun w' => w'.cell? ⟨g, 0, none⟩ = some (.int .i64 sc) ∧ w'.cell? ⟨g, 1, none⟩ = some (.slice A n c) ∧ w'.cell? ⟨g, 2, none⟩ = some (.slice (some ⟨bl, o, none⟩) m d) ∧ w'.cell? ⟨p, 0, none⟩ = some (.int .i64 at_) ∧ w'.cell? ⟨p, 1, none⟩ = some (.int .i64 ai)) (by kernel_rfl) (HSS.out _ bb1) (fun hHeld => ?_)
            rw [← hud] at bb1 hHeld ⊢
            clear hud
            refine qT 0 ?_; try simp only [Act.put, qq]
            refine wpAnyH_ready (rs := [1]) (by kernel_rfl) (by simp) ?_
            refine AllReadyH.cons rfl (fun K hK => ?_) AllReadyH.nil
            go_simp
            refine (CM1.out _).mono ?_
            rintro e w5 ⟨rfl, hb⟩
            have bb2 := bmore bb1 hb (Nat.le_refl _)
            clear hb
            refine hK.out _ _ (HSS.out _ bb2) (fun hHeld => ?_)
            clear hK
            try simp only [Act.put, qq]
            refine qT 2 ?_; try simp only [Act.put, qq]
            refine qT 3 ?_; try simp only [Act.put, qq]
            refine qT 4 ?_; try simp only [Act.put, qq]
            refine qT 5 ?_; try simp only [Act.put, qq]
            refine qT 6 ?_; try simp only [Act.put, qq]
            refine qT 7 ?_; try simp only [Act.put, qq]
            refine qT 8 ?_; try simp only [Act.put, qq]
            refine qT 9 ?_; try simp only [Act.put, qq]
            refine qT 10 ?_; try simp only [Act.put, qq]
            refine qT 11 ?_; try simp only [Act.put, qq]
            refine qT 12 ?_; try simp only [Act.put, qq]
            refine qT 13 ?_; try simp only [Act.put, qq]
            refine qT 14 ?_; try simp only [Act.put, qq]
            refine qT 15 ?_; try simp only [Act.put, qq]
            refine qT 16 ?_; try simp only [Act.put, qq]
            refine qT 17 ?_; try simp only [Act.put, qq]
            refine qT 18 ?_; try simp only [Act.put, qq]
            refine qS 19 ?_; try simp only [Act.put, qq]
            refine qS 20 ?_; try simp only [Act.put, qq]
            refine qS 21 ?_; try simp only [Act.put, qq]
            refine qS 22 ?_; try simp only [Act.put, qq]
            refine qS 23 ?_; try simp only [Act.put, qq]
            refine qS 24 ?_; try simp only [Act.put, qq]
            refine qS 25 ?_; try simp only [Act.put, qq]
            refine qS 26 ?_; try simp only [Act.put, qq]
            refine qS 27 ?_; try simp only [Act.put, qq]
            refine qT 28 ?_; try simp only [Act.put, qq]
            refine qT 29 ?_; try simp only [Act.put, qq]
            refine wpAnyH_done (by kernel_rfl) ?_ _
            clear hHeld HSS
            go_wp2_with fail
            go_meet
            case rel => exact ⟨⟨false, rfl, fun h => (by cases h), fun _ => HF.out⟩, bb2⟩
          obtain ⟨j, hj⟩ : ∃ j, j = k - 1 := ⟨_, rfl⟩
          obtain ⟨y, hy⟩ : ∃ y, ds[j]? = some y := ⟨_, List.getElem?_eq_getElem (by have := HLB.out; omega)⟩
          have HYy := Lib.hid (show ds[k - 1]? = some y by rw [← hj]; exact hy)
          obtain ⟨bl', o', e', _, _, b0, b1⟩ := (HD.out _ HB3.out).at_ hy
          injection e' with e'
          injection e' with e1 e2
          subst e1 e2
          have hkj : IntKind.i64.wrap ((k : Int) - 1) = (j : Int) := by rw [IntKind.wrap_i64]; omega
          have hj0 : (0 : Int) ≤ (j : Int) := by omega
          have hjn : (j : Int) < (m : Int) := by omega
          have hkp2 : (0 : Int) < (k : Int) := by omega
          clear hj hy
          obtain ⟨q, hq⟩ : ∃ q, q = TM.less y ⟨at_, ai⟩ := ⟨_, rfl⟩
          have CL := Lib.hid (fun w => TP.rless_any y ⟨at_, ai⟩ w)
          rw [← hq] at CL
          have HQ := Lib.hid hq
          clear hq
          have HF := Lib.hid (show (q = false → r = false) ∧ (q = true → (TM.ok ⟨at_, ai⟩ ∧ 1 ≤ at_ ∧ at_ ≤ sc) ∧ ∀ y, ds[k - 1]? = some y → 0 < k → TM.less y ⟨at_, ai⟩ = true) from
            ⟨fun e => HBAD.out fun hh => (by have := hh.2.1 y HYy.out hkp; rw [← HQ.out, e] at this; cases this), fun e => ⟨⟨HOKT.out, by omega, by omega⟩, fun z hz _ => (by rw [HYy.out] at hz; injection hz with hz; subst hz; rw [← HQ.out]; exact e)⟩⟩)
          obtain ⟨bt, bi⟩ := y
          unfold vsp at CL
          simp only at b0 b1 CL
          have HSS := Lib.hid (fun (w' : World) (h : Below w3.heap.size w3 w') => show w'.cell? ⟨g, 0, none⟩ = some (.int .i64 sc) ∧ w'.cell? ⟨g, 1, none⟩ = some (.slice A n c) ∧ w'.cell? ⟨g, 2, none⟩ = some (.slice (some ⟨bl, o, none⟩) m d) ∧ w'.cell? ⟨p, 0, none⟩ = some (.int .i64 at_) ∧ w'.cell? ⟨p, 1, none⟩ = some (.int .i64 ai) ∧ w'.cell? ⟨bl, o + j * 2, none⟩ = some (.int .i64 bt) ∧ w'.cell? ⟨bl, o + j * 2 + 1, none⟩ = some (.int .i64 bi) from
            ⟨(XV.out.below h XV.out.lt).cell 0, (XV.out.below h XV.out.lt).cell 1, (XV.out.below h XV.out.lt).cell 2, (V.out.below h V.out.lt).cell 0, (V.out.below h V.out.lt).cell 1, (h.cell (cell_block b0)).trans b0, (h.cell (cell_block b1)).trans b1⟩)
          have bb1 : Below w3.heap.size w3 w3.drew := (Below.refl _ _).drew
          obtain ⟨ud, hud⟩ : ∃ ud, ud = w3.drew := ⟨_, rfl⟩
          refine wp_region_held_drew (S := fun w' => w'.cell? ⟨g, 0, none⟩ = some (.int .i64 sc) ∧ w'.cell? ⟨g, 1, none⟩ = some (.slice A n c) ∧ w'.cell? ⟨g, 2, none⟩ = some (.slice (some ⟨bl, o, none⟩) m d) ∧ w'.cell? ⟨p, 0, none⟩ = some (.int .i64 at_) ∧ w'.cell? ⟨p, 1, none⟩ = some (.int .i64 ai) ∧ w'.cell? ⟨bl, o + j * 2, none⟩ = some (.int .i64 bt) ∧ w'.cell? ⟨bl, o + j * 2 + 1, none⟩ = some (.int .i64 bi)) (by kernel_rfl) (HSS.out _ bb1) (fun hHeld => ?_)
          rw [← hud] at bb1 hHeld ⊢
          clear hud
          refine qT 0 ?_; try simp only [Act.put, qq]
          refine wpAnyH_ready (rs := [1]) (by kernel_rfl) (by simp) ?_
          refine AllReadyH.cons rfl (fun K hK => ?_) AllReadyH.nil
          go_simp
          refine (CM1.out _).mono ?_
          rintro e w5 ⟨rfl, hb⟩
          have bb2 := bmore bb1 hb (Nat.le_refl _)
          clear hb
          refine hK.out _ _ (HSS.out _ bb2) (fun hHeld => ?_)
          clear hK
          try simp only [Act.put, qq]
          refine qT 2 ?_; try simp only [Act.put, qq]
          refine qT 3 ?_; try simp only [Act.put, qq]
          refine qT 4 ?_; try simp only [Act.put, qq]
          refine qT 5 ?_; try simp only [Act.put, qq]
          refine qT 6 ?_; try simp only [Act.put, qq]
          refine qT 7 ?_; try simp only [Act.put, qq]
          refine qT 8 ?_; try simp only [Act.put, qq]
          refine qT 9 ?_; try simp only [Act.put, qq]
          refine qT 10 ?_; try simp only [Act.put, qq]
          refine qT 11 ?_; try simp only [Act.put, qq]
          refine qT 12 ?_; try simp only [Act.put, qq]
          refine qT 13 ?_; try simp only [Act.put, qq]
          refine qT 14 ?_; try simp only [Act.put, qq]
          refine qT 15 ?_; try simp only [Act.put, qq]
          refine qT 16 ?_; try simp only [Act.put, qq]
          refine qT 17 ?_; try simp only [Act.put, qq]
          refine qT 18 ?_; try simp only [Act.put, qq]
          refine qT 19 ?_; try simp only [Act.put, qq]
          refine qT 20 ?_; try simp only [Act.put, qq]
          refine qT 21 ?_; try simp only [Act.put, qq]
          refine qT 22 ?_; try simp only [Act.put, qq]
          refine qT 23 ?_; try simp only [Act.put, qq]
          refine qT 24 ?_; try simp only [Act.put, qq]
          refine qT 25 ?_; try simp only [Act.put, qq]
          refine wpAnyH_ready (rs := [26]) (by kernel_rfl) (by simp) ?_
          refine AllReadyH.cons rfl (fun K hK => ?_) AllReadyH.nil
          go_simp
          refine (CL.out _).mono ?_
          rintro e w6 ⟨rfl, hb⟩
          have bb3 := bmore bb2 hb (Nat.le_refl _)
          clear hb
          refine hK.out _ _ (HSS.out _ bb3) (fun hHeld => ?_)
          clear hK
          try simp only [Act.put, qq]
          refine qT 27 ?_; try simp only [Act.put, qq]
          refine qT 28 ?_; try simp only [Act.put, qq]
          refine qT 29 ?_; try simp only [Act.put, qq]
          refine wpAnyH_done (by kernel_rfl) ?_ _
          clear hHeld HSS
          go_wp2_with fail
          go_meet
          case rel => exact ⟨⟨!q, rfl, fun h => HF.out.1 (by simpa using h), fun h => HF.out.2 (by simpa using h)⟩, bb3⟩
      case rest =>
        obtain ⟨⟨bad, rfl, hb1, hb2⟩, hbc⟩ := hcut
        have HBC := Lib.hid (bmore HBW.out hbc (Nat.le_refl _))
        have HBD := Lib.hid (bmore HB3.out hbc (Nat.le_refl _))
        have XC := Lib.hid (XV.out.below hbc XV.out.lt)
        have VC := Lib.hid (V.out.below hbc V.out.lt)
        clear hbc XV V HB3 HBW XR
        rcases bad with _ | _
        rotate_left
        · have HF := Lib.hid (hb1 rfl)
          clear hb1 hb2
          go_wp2_with fail
          go_ret
          exact ⟨by rw [HF.out]; rfl, HBD.out⟩
        have HOKA := Lib.hid (hb2 rfl)
        clear hb1 hb2
        go_wp2_with fail
        rename_i wc
        go_loopw [5] (fun i wr => ∃ j : Nat, j ≤ k ∧ i = .int .i64 j ∧ Below wc.heap.size wc wr ∧ Hid (∀ i y, i < j → ds[i]? = some y → y.i ≠ ai)) (fun i _ => k - (intOf i).toNat)
        case atStart => exact ⟨0, by omega, rfl, Below.refl _ _, Lib.hid fun i y hi => absurd hi (by omega)⟩
        case round =>
          obtain ⟨j, hj, rfl, hB, HN⟩ := hrel
          have HBj := Lib.hid hB
          obtain ⟨x0, x1, x2⟩ := box_sk (XC.out.below hB XC.out.lt)
          obtain ⟨v0, v1⟩ := box_two (VC.out.below hB VC.out.lt)
          clear hB
          by_cases hlt2 : j < k
          · obtain ⟨y, hy⟩ : ∃ y, ds[j]? = some y := ⟨_, List.getElem?_eq_getElem (by have := HLB.out; omega)⟩
            have HYy := Lib.hid hy
            obtain ⟨bl', o', e', _, _, b0, b1⟩ := (HD.out _ (bmore HBD.out HBj.out (Nat.le_refl _))).at_ hy
            injection e' with e'
            injection e' with e1 e2
            subst e1 e2
            have hj0 : (0 : Int) ≤ (j : Int) := by omega
            have hjn : (j : Int) < (m : Int) := by omega
            have hjk : (j : Int) < (k : Int) := by omega
            clear hy
            by_cases he : y.i = ai
            · have HF := Lib.hid (HBAD.out fun hh => hh.2.2 j y hlt2 HYy.out he)
              have e1 : (y.i == ai) = true := by simpa using he
              clear he
              go_wp2_with fail
              go_region
              have HN2 := Lib.hid (below_drewN HBj.out 1)
              go_wp2_with fail
              go_ret
              exact ⟨by rw [HF.out]; rfl, bmore HBD.out HN2.out (Nat.le_refl _)⟩
            · have HF := Lib.hid (show ∀ i z, i < j + 1 → ds[i]? = some z → z.i ≠ ai from fun i z hi hz => by
                rcases (show i < j ∨ i = j by omega) with h | rfl
                · exact HN.out i z h hz
                · rw [HYy.out] at hz; injection hz with hz; subst hz; exact he)
              have e1 : (y.i == ai) = false := by simpa using he
              clear he
              go_wp2_with fail
              go_region
              have HN2 := Lib.hid (below_drewN HBj.out 1)
              go_wp2_with fail
              go_roundw
              case rel => exact ⟨j + 1, by omega, by go_num, HN2.out, HF⟩
              case measure => simp [intOf]; omega
          · have hjk : ¬ (j : Int) < (k : Int) := by omega
            have HNX := Lib.hid (HMORE.out HOKA.out.1.1 HOKA.out.1.2.1 HOKA.out.1.2.2 HOKA.out.2 (fun i y hi hy => HN.out i y (by omega) hy))
            have HNB := Lib.hid (bmore HBC.out HBj.out (Nat.le_refl _))
            go_wp2_with fail
            go_roundw
            case rel => exact ⟨k + 1, by omega, by go_num, HNB.out, HNX⟩
            case measure => simp [intOf]; omega
    · have HKD := Lib.hid (show KM.DoneOk sc ds by have := HK.out; rwa [List.take_of_length_le (by have := HLB.out; omega)] at this)
      clear HK
      go_wp2_with fail
      go_loopw [6] (fun i wx => ∃ j : Nat, j ≤ n ∧ i = .int .i64 j ∧ Below w1.heap.size w1 wx ∧ Hid (KM.WaitOk sc ds (ws.take j))) (fun i _ => n - (intOf i).toNat)
      case atStart => exact ⟨0, by omega, rfl, HBr.out, Lib.hid (by simpa using KM.waitOk_nil sc ds)⟩
      case round =>
        clear HBr HB2 XR x0 x1 x2 hlt
        obtain ⟨k, hk, rfl, hB, HK⟩ := hrel
        have HBr := Lib.hid hB
        have HB2 := Lib.hid (bmore HB.out hB (Nat.le_refl _))
        have XR := Lib.hid (X.out.below hB X.out.lt)
        obtain ⟨x0, x1, x2⟩ := box_sk XR.out
        clear hB
        by_cases hlt : k < n
        · obtain ⟨a, ha⟩ : ∃ a, ws[k]? = some a := ⟨_, List.getElem?_eq_getElem (by have := HLA.out; omega)⟩
          have HA := Lib.hid ha
          have hfit := (HFT.out a (List.mem_of_getElem? ha)).1
          obtain ⟨bl, o, P, q, rfl, _, hbl, hat, hrr⟩ := wts_at (H.out _ HB2.out) ha
          obtain ⟨a0, a1, a2, a3, a4, a5, a6⟩ := hat
          clear ha
          have hk0 : (0 : Int) ≤ (k : Int) := by omega
          have hkn : (k : Int) < (n : Int) := by omega
          have HBAD := Lib.hid (show ¬ ((CM.mgOk a.m ∧ (1 ≤ a.t ∧ a.t ≤ sc) ∧ KM.doneF ds a.m.id = false ∧ (ds.getLast?.all fun z => TM.less z (KM.stp a)) = true) ∧ ∀ y, ws[k - 1]? = some y → 0 < k → y.m.id < a.m.id) → r = false from fun hh => HNO.out fun kk => hh (wait_less (KM.waitOk_take kk.2.2.1 (k + 1)) HA.out))
          have HMORE := Lib.hid (fun h1 h2 h3 h4 h5 => wait_more HK.out HA.out h1 h2 h3 h4 h5)
          have CM1 := Lib.hid (fun W (hb : Below wr.heap.size wr W) => mayMessage_any a.m _ W ⟨P, q, rfl, hrr.below hb⟩ hfit.1)
          have CS := Lib.hid (fun W => rstamp_any P q a W)
          have CL := Lib.hid (fun z W => TP.rless_any z (KM.stp a) W)
          clear hrr hfit
          obtain ⟨⟨ai, ag, at_, ak, ab⟩, am, af⟩ := a
          unfold mcells at CM1
          unfold vwt KM.stp at CS
          unfold KM.stp at CL HBAD HMORE
          unfold vsp at CL
          simp only at a0 a1 a2 a3 a4 a5 a6 CM1 HBAD HMORE CS CL
          have hb3 : Below wr.heap.size wr (wr.alloc (.cells #[.int .i64 ai, .slice P ag.length q, .int .i64 at_, .string ak, .string ab, .int .i64 am, .bool af] 52)) := (Below.refl _ _).alloc (Nat.le_refl _) _
          have V := Lib.hid (Box.new wr 52 #[.int .i64 ai, .slice P ag.length q, .int .i64 at_, .string ak, .string ab, .int .i64 am, .bool af])
          have HB3 := Lib.hid (bmore HB2.out hb3 (Nat.le_refl _))
          have HB3r := Lib.hid hb3
          have XV := Lib.hid (XR.out.below hb3 XR.out.lt)
          have HBW := Lib.hid (bmore HBr.out hb3 (Nat.le_refl _))
          go_upto_region 18 with (fail)
          clear hb3 x0 x1 x2 a0 a1 a2 a3 a4 a5 a6
          generalize wr.alloc (.cells #[.int .i64 ai, .slice P ag.length q, .int .i64 at_, .string ak, .string ab, .int .i64 am, .bool af] 52) = w3 at V HB3 HB3r XV HBW ⊢
          generalize wr.heap.size = p at V ⊢
          obtain ⟨ok1, hok1⟩ : ∃ q, q = decide (CM.mgOk ⟨ai, ag, at_, ak, ab⟩) := ⟨_, rfl⟩
          rw [← hok1] at CM1
          have HOK := Lib.hid hok1
          clear hok1
          obtain ⟨dn, hdn⟩ : ∃ q, q = KM.doneF ds ai := ⟨_, rfl⟩
          have KD1 := Lib.hid (fun W (hb : Below w.heap.size w W) => KD.out W hb ai)
          rw [← hdn] at KD1
          have HDN := Lib.hid hdn
          clear hdn
          go_cut [136] (fun u wx => (∃ bad : Bool, u = .bool bad ∧ (bad = true → r = false) ∧ (bad = false → CM.mgOk ⟨ai, ag, at_, ak, ab⟩ ∧ (1 ≤ am ∧ am ≤ sc) ∧ KM.doneF ds ai = false ∧ ∀ y, ws[k - 1]? = some y → 0 < k → y.m.id < ai)) ∧ Below w3.heap.size w3 wx)
          case first =>
            as_aux_lemma =>
              rcases ok1 with _ | _
              · have HF := Lib.hid (HBAD.out fun hh => by have := of_decide_eq_false HOK.out.symm; exact this hh.1.1)
                have HSS := Lib.hid (fun (w' : World) (h : Below w3.heap.size w3 w') => show w'.cell? ⟨g, 0, none⟩ = some (.int .i64 sc) ∧ w'.cell? ⟨g, 1, none⟩ = some (.slice (some ⟨bl, o, none⟩) n c) ∧ w'.cell? ⟨g, 2, none⟩ = some (.slice B m d) ∧ w'.cell? ⟨p, 0, none⟩ = some (.int .i64 ai) ∧ w'.cell? ⟨p, 1, none⟩ = some (.slice P ag.length q) ∧ w'.cell? ⟨p, 2, none⟩ = some (.int .i64 at_) ∧ w'.cell? ⟨p, 3, none⟩ = some (.string ak) ∧ w'.cell? ⟨p, 4, none⟩ = some (.string ab) ∧ w'.cell? ⟨p, 5, none⟩ = some (.int .i64 am) ∧ w'.cell? ⟨p, 6, none⟩ = some (.bool af) from
                  ⟨(XV.out.below h XV.out.lt).cell 0, (XV.out.below h XV.out.lt).cell 1, (XV.out.below h XV.out.lt).cell 2, (V.out.below h V.out.lt).cell 0, (V.out.below h V.out.lt).cell 1, (V.out.below h V.out.lt).cell 2, (V.out.below h V.out.lt).cell 3, (V.out.below h V.out.lt).cell 4, (V.out.below h V.out.lt).cell 5, (V.out.below h V.out.lt).cell 6⟩)
                have bb1 : Below w3.heap.size w3 w3.drew := (Below.refl _ _).drew
                obtain ⟨ud, hud⟩ : ∃ ud, ud = w3.drew := ⟨_, rfl⟩
                refine wp_region_held_drew (S := fun w' => w'.cell? ⟨g, 0, none⟩ = some (.int .i64 sc) ∧ w'.cell? ⟨g, 1, none⟩ = some (.slice (some ⟨bl, o, none⟩) n c) ∧ w'.cell? ⟨g, 2, none⟩ = some (.slice B m d) ∧ w'.cell? ⟨p, 0, none⟩ = some (.int .i64 ai) ∧ w'.cell? ⟨p, 1, none⟩ = some (.slice P ag.length q) ∧ w'.cell? ⟨p, 2, none⟩ = some (.int .i64 at_) ∧ w'.cell? ⟨p, 3, none⟩ = some (.string ak) ∧ w'.cell? ⟨p, 4, none⟩ = some (.string ab) ∧ w'.cell? ⟨p, 5, none⟩ = some (.int .i64 am) ∧ w'.cell? ⟨p, 6, none⟩ = some (.bool af)) (by kernel_rfl) (HSS.out _ bb1) (fun hHeld => ?_)
                rw [← hud] at bb1 hHeld ⊢
                clear hud
                refine qT 0 ?_; try simp only [Act.put, qq]
                refine qT 1 ?_; try simp only [Act.put, qq]
                refine wpAnyH_ready (rs := [2]) (by kernel_rfl) (by simp) ?_
                refine AllReadyH.cons rfl (fun K hK => ?_) AllReadyH.nil
                go_simp
                refine (CM1.out _ (bmore HB3r.out bb1 (Nat.le_refl _))).mono ?_
                rintro e w5 ⟨rfl, hb⟩
                have bb2 := bmore bb1 hb (Nat.le_refl _)
                clear hb
                refine hK.out _ _ (HSS.out _ bb2) (fun hHeld => ?_)
                clear hK
                try simp only [Act.put, qq]
                refine qT 3 ?_; try simp only [Act.put, qq]
                refine qT 4 ?_; try simp only [Act.put, qq]
                refine qS 5 ?_; try simp only [Act.put, qq]
                refine qS 6 ?_; try simp only [Act.put, qq]
                refine qS 7 ?_; try simp only [Act.put, qq]
                refine qT 8 ?_; try simp only [Act.put, qq]
                refine qT 9 ?_; try simp only [Act.put, qq]
                refine qS 10 ?_; try simp only [Act.put, qq]
                refine qS 11 ?_; try simp only [Act.put, qq]
                refine qS 12 ?_; try simp only [Act.put, qq]
                refine qS 13 ?_; try simp only [Act.put, qq]
                refine qS 14 ?_; try simp only [Act.put, qq]
                refine qT 15 ?_; try simp only [Act.put, qq]
                refine qT 16 ?_; try simp only [Act.put, qq]
                refine qS 17 ?_; try simp only [Act.put, qq]
                refine qS 18 ?_; try simp only [Act.put, qq]
                refine qS 19 ?_; try simp only [Act.put, qq]
                refine qS 20 ?_; try simp only [Act.put, qq]
                refine qS 21 ?_; try simp only [Act.put, qq]
                refine qS 22 ?_; try simp only [Act.put, qq]
                refine qS 23 ?_; try simp only [Act.put, qq]
                refine qS 24 ?_; try simp only [Act.put, qq]
                refine qS 25 ?_; try simp only [Act.put, qq]
                refine qS 26 ?_; try simp only [Act.put, qq]
                refine qS 27 ?_; try simp only [Act.put, qq]
                refine qS 28 ?_; try simp only [Act.put, qq]
                refine qS 29 ?_; try simp only [Act.put, qq]
                refine qS 30 ?_; try simp only [Act.put, qq]
                refine qS 31 ?_; try simp only [Act.put, qq]
                refine qS 32 ?_; try simp only [Act.put, qq]
                refine qT 33 ?_; try simp only [Act.put, qq]
                refine qT 34 ?_; try simp only [Act.put, qq]
                refine qS 35 ?_; try simp only [Act.put, qq]
                refine qS 36 ?_; try simp only [Act.put, qq]
                refine qS 37 ?_; try simp only [Act.put, qq]
                refine qS 38 ?_; try simp only [Act.put, qq]
                refine qS 39 ?_; try simp only [Act.put, qq]
                refine qT 40 ?_; try simp only [Act.put, qq]
                refine wpAnyH_done (by kernel_rfl) ?_ _
                clear hHeld HSS
                go_wp2_with fail
                go_meet
                case rel => exact ⟨⟨true, rfl, fun _ => HF.out, fun h => (by cases h)⟩, bb2⟩
              have HOKT := Lib.hid (of_decide_eq_true HOK.out.symm)
              by_cases q1 : am < 1
              · have HF := Lib.hid (HBAD.out fun hh => by have := hh.1.2.1.1; omega)
                have HSS := Lib.hid (fun (w' : World) (h : Below w3.heap.size w3 w') => show w'.cell? ⟨g, 0, none⟩ = some (.int .i64 sc) ∧ w'.cell? ⟨g, 1, none⟩ = some (.slice (some ⟨bl, o, none⟩) n c) ∧ w'.cell? ⟨g, 2, none⟩ = some (.slice B m d) ∧ w'.cell? ⟨p, 0, none⟩ = some (.int .i64 ai) ∧ w'.cell? ⟨p, 1, none⟩ = some (.slice P ag.length q) ∧ w'.cell? ⟨p, 2, none⟩ = some (.int .i64 at_) ∧ w'.cell? ⟨p, 3, none⟩ = some (.string ak) ∧ w'.cell? ⟨p, 4, none⟩ = some (.string ab) ∧ w'.cell? ⟨p, 5, none⟩ = some (.int .i64 am) ∧ w'.cell? ⟨p, 6, none⟩ = some (.bool af) from
                  ⟨(XV.out.below h XV.out.lt).cell 0, (XV.out.below h XV.out.lt).cell 1, (XV.out.below h XV.out.lt).cell 2, (V.out.below h V.out.lt).cell 0, (V.out.below h V.out.lt).cell 1, (V.out.below h V.out.lt).cell 2, (V.out.below h V.out.lt).cell 3, (V.out.below h V.out.lt).cell 4, (V.out.below h V.out.lt).cell 5, (V.out.below h V.out.lt).cell 6⟩)
                have bb1 : Below w3.heap.size w3 w3.drew := (Below.refl _ _).drew
                obtain ⟨ud, hud⟩ : ∃ ud, ud = w3.drew := ⟨_, rfl⟩
                refine wp_region_held_drew (S := fun w' => w'.cell? ⟨g, 0, none⟩ = some (.int .i64 sc) ∧ w'.cell? ⟨g, 1, none⟩ = some (.slice (some ⟨bl, o, none⟩) n c) ∧ w'.cell? ⟨g, 2, none⟩ = some (.slice B m d) ∧ w'.cell? ⟨p, 0, none⟩ = some (.int .i64 ai) ∧ w'.cell? ⟨p, 1, none⟩ = some (.slice P ag.length q) ∧ w'.cell? ⟨p, 2, none⟩ = some (.int .i64 at_) ∧ w'.cell? ⟨p, 3, none⟩ = some (.string ak) ∧ w'.cell? ⟨p, 4, none⟩ = some (.string ab) ∧ w'.cell? ⟨p, 5, none⟩ = some (.int .i64 am) ∧ w'.cell? ⟨p, 6, none⟩ = some (.bool af)) (by kernel_rfl) (HSS.out _ bb1) (fun hHeld => ?_)
                rw [← hud] at bb1 hHeld ⊢
                clear hud
                refine qT 0 ?_; try simp only [Act.put, qq]
                refine qT 1 ?_; try simp only [Act.put, qq]
                refine wpAnyH_ready (rs := [2]) (by kernel_rfl) (by simp) ?_
                refine AllReadyH.cons rfl (fun K hK => ?_) AllReadyH.nil
                go_simp
                refine (CM1.out _ (bmore HB3r.out bb1 (Nat.le_refl _))).mono ?_
                rintro e w5 ⟨rfl, hb⟩
                have bb2 := bmore bb1 hb (Nat.le_refl _)
                clear hb
                refine hK.out _ _ (HSS.out _ bb2) (fun hHeld => ?_)
                clear hK
                try simp only [Act.put, qq]
                refine qT 3 ?_; try simp only [Act.put, qq]
                refine qT 4 ?_; try simp only [Act.put, qq]
                refine qT 5 ?_; try simp only [Act.put, qq]
                refine qT 6 ?_; try simp only [Act.put, qq]
                refine qT 7 ?_; try simp only [Act.put, qq]
                refine qT 8 ?_; try simp only [Act.put, qq]
                refine qT 9 ?_; try simp only [Act.put, qq]
                refine qS 10 ?_; try simp only [Act.put, qq]
                refine qS 11 ?_; try simp only [Act.put, qq]
                refine qS 12 ?_; try simp only [Act.put, qq]
                refine qS 13 ?_; try simp only [Act.put, qq]
                refine qS 14 ?_; try simp only [Act.put, qq]
                refine qT 15 ?_; try simp only [Act.put, qq]
                refine qT 16 ?_; try simp only [Act.put, qq]
                refine qS 17 ?_; try simp only [Act.put, qq]
                refine qS 18 ?_; try simp only [Act.put, qq]
                refine qS 19 ?_; try simp only [Act.put, qq]
                refine qS 20 ?_; try simp only [Act.put, qq]
                refine qS 21 ?_; try simp only [Act.put, qq]
                refine qS 22 ?_; try simp only [Act.put, qq]
                refine qS 23 ?_; try simp only [Act.put, qq]
                refine qS 24 ?_; try simp only [Act.put, qq]
                refine qS 25 ?_; try simp only [Act.put, qq]
                refine qS 26 ?_; try simp only [Act.put, qq]
                refine qS 27 ?_; try simp only [Act.put, qq]
                refine qS 28 ?_; try simp only [Act.put, qq]
                refine qS 29 ?_; try simp only [Act.put, qq]
                refine qS 30 ?_; try simp only [Act.put, qq]
                refine qS 31 ?_; try simp only [Act.put, qq]
                refine qS 32 ?_; try simp only [Act.put, qq]
                refine qT 33 ?_; try simp only [Act.put, qq]
                refine qT 34 ?_; try simp only [Act.put, qq]
                refine qS 35 ?_; try simp only [Act.put, qq]
                refine qS 36 ?_; try simp only [Act.put, qq]
                refine qS 37 ?_; try simp only [Act.put, qq]
                refine qS 38 ?_; try simp only [Act.put, qq]
                refine qS 39 ?_; try simp only [Act.put, qq]
                refine qT 40 ?_; try simp only [Act.put, qq]
                refine wpAnyH_done (by kernel_rfl) ?_ _
                clear hHeld HSS
                go_wp2_with fail
                go_meet
                case rel => exact ⟨⟨true, rfl, fun _ => HF.out, fun h => (by cases h)⟩, bb2⟩
              by_cases q2 : sc < am
              · have HF := Lib.hid (HBAD.out fun hh => by have := hh.1.2.1.2; omega)
                have HSS := Lib.hid (fun (w' : World) (h : Below w3.heap.size w3 w') => show w'.cell? ⟨g, 0, none⟩ = some (.int .i64 sc) ∧ w'.cell? ⟨g, 1, none⟩ = some (.slice (some ⟨bl, o, none⟩) n c) ∧ w'.cell? ⟨g, 2, none⟩ = some (.slice B m d) ∧ w'.cell? ⟨p, 0, none⟩ = some (.int .i64 ai) ∧ w'.cell? ⟨p, 1, none⟩ = some (.slice P ag.length q) ∧ w'.cell? ⟨p, 2, none⟩ = some (.int .i64 at_) ∧ w'.cell? ⟨p, 3, none⟩ = some (.string ak) ∧ w'.cell? ⟨p, 4, none⟩ = some (.string ab) ∧ w'.cell? ⟨p, 5, none⟩ = some (.int .i64 am) ∧ w'.cell? ⟨p, 6, none⟩ = some (.bool af) from
                  ⟨(XV.out.below h XV.out.lt).cell 0, (XV.out.below h XV.out.lt).cell 1, (XV.out.below h XV.out.lt).cell 2, (V.out.below h V.out.lt).cell 0, (V.out.below h V.out.lt).cell 1, (V.out.below h V.out.lt).cell 2, (V.out.below h V.out.lt).cell 3, (V.out.below h V.out.lt).cell 4, (V.out.below h V.out.lt).cell 5, (V.out.below h V.out.lt).cell 6⟩)
                have bb1 : Below w3.heap.size w3 w3.drew := (Below.refl _ _).drew
                obtain ⟨ud, hud⟩ : ∃ ud, ud = w3.drew := ⟨_, rfl⟩
                refine wp_region_held_drew (S := fun w' => w'.cell? ⟨g, 0, none⟩ = some (.int .i64 sc) ∧ w'.cell? ⟨g, 1, none⟩ = some (.slice (some ⟨bl, o, none⟩) n c) ∧ w'.cell? ⟨g, 2, none⟩ = some (.slice B m d) ∧ w'.cell? ⟨p, 0, none⟩ = some (.int .i64 ai) ∧ w'.cell? ⟨p, 1, none⟩ = some (.slice P ag.length q) ∧ w'.cell? ⟨p, 2, none⟩ = some (.int .i64 at_) ∧ w'.cell? ⟨p, 3, none⟩ = some (.string ak) ∧ w'.cell? ⟨p, 4, none⟩ = some (.string ab) ∧ w'.cell? ⟨p, 5, none⟩ = some (.int .i64 am) ∧ w'.cell? ⟨p, 6, none⟩ = some (.bool af)) (by kernel_rfl) (HSS.out _ bb1) (fun hHeld => ?_)
                rw [← hud] at bb1 hHeld ⊢
                clear hud
                refine qT 0 ?_; try simp only [Act.put, qq]
                refine qT 1 ?_; try simp only [Act.put, qq]
                refine wpAnyH_ready (rs := [2]) (by kernel_rfl) (by simp) ?_
                refine AllReadyH.cons rfl (fun K hK => ?_) AllReadyH.nil
                go_simp
                refine (CM1.out _ (bmore HB3r.out bb1 (Nat.le_refl _))).mono ?_
                rintro e w5 ⟨rfl, hb⟩
                have bb2 := bmore bb1 hb (Nat.le_refl _)
                clear hb
                refine hK.out _ _ (HSS.out _ bb2) (fun hHeld => ?_)
                clear hK
                try simp only [Act.put, qq]
                refine qT 3 ?_; try simp only [Act.put, qq]
                refine qT 4 ?_; try simp only [Act.put, qq]
                refine qT 5 ?_; try simp only [Act.put, qq]
                refine qT 6 ?_; try simp only [Act.put, qq]
                refine qT 7 ?_; try simp only [Act.put, qq]
                refine qT 8 ?_; try simp only [Act.put, qq]
                refine qT 9 ?_; try simp only [Act.put, qq]
                refine qT 10 ?_; try simp only [Act.put, qq]
                refine qT 11 ?_; try simp only [Act.put, qq]
                refine qT 12 ?_; try simp only [Act.put, qq]
                refine qT 13 ?_; try simp only [Act.put, qq]
                refine qT 14 ?_; try simp only [Act.put, qq]
                refine qT 15 ?_; try simp only [Act.put, qq]
                refine qT 16 ?_; try simp only [Act.put, qq]
                refine qS 17 ?_; try simp only [Act.put, qq]
                refine qS 18 ?_; try simp only [Act.put, qq]
                refine qS 19 ?_; try simp only [Act.put, qq]
                refine qS 20 ?_; try simp only [Act.put, qq]
                refine qS 21 ?_; try simp only [Act.put, qq]
                refine qS 22 ?_; try simp only [Act.put, qq]
                refine qS 23 ?_; try simp only [Act.put, qq]
                refine qS 24 ?_; try simp only [Act.put, qq]
                refine qS 25 ?_; try simp only [Act.put, qq]
                refine qS 26 ?_; try simp only [Act.put, qq]
                refine qS 27 ?_; try simp only [Act.put, qq]
                refine qS 28 ?_; try simp only [Act.put, qq]
                refine qS 29 ?_; try simp only [Act.put, qq]
                refine qS 30 ?_; try simp only [Act.put, qq]
                refine qS 31 ?_; try simp only [Act.put, qq]
                refine qS 32 ?_; try simp only [Act.put, qq]
                refine qT 33 ?_; try simp only [Act.put, qq]
                refine qT 34 ?_; try simp only [Act.put, qq]
                refine qS 35 ?_; try simp only [Act.put, qq]
                refine qS 36 ?_; try simp only [Act.put, qq]
                refine qS 37 ?_; try simp only [Act.put, qq]
                refine qS 38 ?_; try simp only [Act.put, qq]
                refine qS 39 ?_; try simp only [Act.put, qq]
                refine qT 40 ?_; try simp only [Act.put, qq]
                refine wpAnyH_done (by kernel_rfl) ?_ _
                clear hHeld HSS
                go_wp2_with fail
                go_meet
                case rel => exact ⟨⟨true, rfl, fun _ => HF.out, fun h => (by cases h)⟩, bb2⟩
              have HDD := Lib.hid (show dn = true → r = false from fun e => HBAD.out fun hh => (by have := hh.1.2.2.1; rw [← HDN.out, e] at this; cases this))
              rcases Nat.eq_zero_or_pos k with rfl | hkp
              · have HF := Lib.hid (show dn = false → CM.mgOk ⟨ai, ag, at_, ak, ab⟩ ∧ (1 ≤ am ∧ am ≤ sc) ∧ KM.doneF ds ai = false ∧ ∀ y, ws[0 - 1]? = some y → 0 < 0 → y.m.id < ai from fun e => ⟨HOKT.out, ⟨by omega, by omega⟩, by rw [← HDN.out]; exact e, fun _ _ h => absurd h (Nat.lt_irrefl 0)⟩)
                have HSS := Lib.hid (fun (w' : World) (h : Below w3.heap.size w3 w') => show w'.cell? ⟨g, 0, none⟩ = some (.int .i64 sc) ∧ w'.cell? ⟨g, 1, none⟩ = some (.slice (some ⟨bl, o, none⟩) n c) ∧ w'.cell? ⟨g, 2, none⟩ = some (.slice B m d) ∧ w'.cell? ⟨p, 0, none⟩ = some (.int .i64 ai) ∧ w'.cell? ⟨p, 1, none⟩ = some (.slice P ag.length q) ∧ w'.cell? ⟨p, 2, none⟩ = some (.int .i64 at_) ∧ w'.cell? ⟨p, 3, none⟩ = some (.string ak) ∧ w'.cell? ⟨p, 4, none⟩ = some (.string ab) ∧ w'.cell? ⟨p, 5, none⟩ = some (.int .i64 am) ∧ w'.cell? ⟨p, 6, none⟩ = some (.bool af) from
                  ⟨(XV.out.below h XV.out.lt).cell 0, (XV.out.below h XV.out.lt).cell 1, (XV.out.below h XV.out.lt).cell 2, (V.out.below h V.out.lt).cell 0, (V.out.below h V.out.lt).cell 1, (V.out.below h V.out.lt).cell 2, (V.out.below h V.out.lt).cell 3, (V.out.below h V.out.lt).cell 4, (V.out.below h V.out.lt).cell 5, (V.out.below h V.out.lt).cell 6⟩)
                have bb1 : Below w3.heap.size w3 w3.drew := (Below.refl _ _).drew
                obtain ⟨ud, hud⟩ : ∃ ud, ud = w3.drew := ⟨_, rfl⟩
                refine wp_region_held_drew (S := fun w' => w'.cell? ⟨g, 0, none⟩ = some (.int .i64 sc) ∧ w'.cell? ⟨g, 1, none⟩ = some (.slice (some ⟨bl, o, none⟩) n c) ∧ w'.cell? ⟨g, 2, none⟩ = some (.slice B m d) ∧ w'.cell? ⟨p, 0, none⟩ = some (.int .i64 ai) ∧ w'.cell? ⟨p, 1, none⟩ = some (.slice P ag.length q) ∧ w'.cell? ⟨p, 2, none⟩ = some (.int .i64 at_) ∧ w'.cell? ⟨p, 3, none⟩ = some (.string ak) ∧ w'.cell? ⟨p, 4, none⟩ = some (.string ab) ∧ w'.cell? ⟨p, 5, none⟩ = some (.int .i64 am) ∧ w'.cell? ⟨p, 6, none⟩ = some (.bool af)) (by kernel_rfl) (HSS.out _ bb1) (fun hHeld => ?_)
                rw [← hud] at bb1 hHeld ⊢
                clear hud
                refine qT 0 ?_; try simp only [Act.put, qq]
                refine qT 1 ?_; try simp only [Act.put, qq]
                refine wpAnyH_ready (rs := [2]) (by kernel_rfl) (by simp) ?_
                refine AllReadyH.cons rfl (fun K hK => ?_) AllReadyH.nil
                go_simp
                refine (CM1.out _ (bmore HB3r.out bb1 (Nat.le_refl _))).mono ?_
                rintro e w5 ⟨rfl, hb⟩
                have bb2 := bmore bb1 hb (Nat.le_refl _)
                clear hb
                refine hK.out _ _ (HSS.out _ bb2) (fun hHeld => ?_)
                clear hK
                try simp only [Act.put, qq]
                refine qT 3 ?_; try simp only [Act.put, qq]
                refine qT 4 ?_; try simp only [Act.put, qq]
                refine qT 5 ?_; try simp only [Act.put, qq]
                refine qT 6 ?_; try simp only [Act.put, qq]
                refine qT 7 ?_; try simp only [Act.put, qq]
                refine qT 8 ?_; try simp only [Act.put, qq]
                refine qT 9 ?_; try simp only [Act.put, qq]
                refine qT 10 ?_; try simp only [Act.put, qq]
                refine qT 11 ?_; try simp only [Act.put, qq]
                refine qT 12 ?_; try simp only [Act.put, qq]
                refine qT 13 ?_; try simp only [Act.put, qq]
                refine qT 14 ?_; try simp only [Act.put, qq]
                refine qT 15 ?_; try simp only [Act.put, qq]
                refine qT 16 ?_; try simp only [Act.put, qq]
                refine qT 17 ?_; try simp only [Act.put, qq]
                refine qT 18 ?_; try simp only [Act.put, qq]
                refine qT 19 ?_; try simp only [Act.put, qq]
                refine qS 20 ?_; try simp only [Act.put, qq]
                refine qS 21 ?_; try simp only [Act.put, qq]
                refine qS 22 ?_; try simp only [Act.put, qq]
                refine qS 23 ?_; try simp only [Act.put, qq]
                refine qS 24 ?_; try simp only [Act.put, qq]
                refine qS 25 ?_; try simp only [Act.put, qq]
                refine qS 26 ?_; try simp only [Act.put, qq]
                refine qS 27 ?_; try simp only [Act.put, qq]
                refine qS 28 ?_; try simp only [Act.put, qq]
                refine qS 29 ?_; try simp only [Act.put, qq]
                refine qS 30 ?_; try simp only [Act.put, qq]
                refine qS 31 ?_; try simp only [Act.put, qq]
                refine qT 32 ?_; try simp only [Act.put, qq]
                refine qT 33 ?_; try simp only [Act.put, qq]
                refine qT 34 ?_; try simp only [Act.put, qq]
                refine qT 35 ?_; try simp only [Act.put, qq]
                refine qT 36 ?_; try simp only [Act.put, qq]
                refine qT 37 ?_; try simp only [Act.put, qq]
                refine qT 38 ?_; try simp only [Act.put, qq]
                refine wpAnyH_ready (rs := [39]) (by kernel_rfl) (by simp) ?_
                refine AllReadyH.cons rfl (fun K hK => ?_) AllReadyH.nil
                go_simp
                refine (KD1.out _ (bmore HB3.out bb2 (Nat.le_refl _))).mono ?_
                rintro e w6 ⟨rfl, hb⟩
                have bb3 := bmore bb2 hb (Nat.le_refl _)
                clear hb
                refine hK.out _ _ (HSS.out _ bb3) (fun hHeld => ?_)
                clear hK
                try simp only [Act.put, qq]
                refine qT 40 ?_; try simp only [Act.put, qq]
                refine wpAnyH_done (by kernel_rfl) ?_ _
                clear hHeld HSS
                go_wp2_with fail
                go_meet
                case rel => exact ⟨⟨dn, rfl, HDD.out, HF.out⟩, bb3⟩
              obtain ⟨j, hj⟩ : ∃ j, j = k - 1 := ⟨_, rfl⟩
              obtain ⟨y, hy⟩ : ∃ y, ws[j]? = some y := ⟨_, List.getElem?_eq_getElem (by have := HLA.out; omega)⟩
              have HYy := Lib.hid (show ws[k - 1]? = some y by rw [← hj]; exact hy)
              obtain ⟨bl', o', P', q', e', _, _, hat2, _⟩ := wts_at (H.out _ HB3.out) hy
              obtain ⟨b0, _⟩ := hat2
              injection e' with e'
              injection e' with e1 e2
              subst e1 e2
              have hkj : IntKind.i64.wrap ((k : Int) - 1) = (j : Int) := by rw [IntKind.wrap_i64]; omega
              have hj0 : (0 : Int) ≤ (j : Int) := by omega
              have hjn : (j : Int) < (n : Int) := by omega
              have hkp2 : (0 : Int) < (k : Int) := by omega
              clear hj hy
              by_cases q3 : ai ≤ y.m.id
              · have HF := Lib.hid (HBAD.out fun hh => by have := hh.2 y HYy.out hkp; omega)
                obtain ⟨⟨bi, bg, bt, bk, bb⟩, bm, bf⟩ := y
                simp only at b0 q3
                have HSS := Lib.hid (fun (w' : World) (h : Below w3.heap.size w3 w') => show w'.cell? ⟨g, 0, none⟩ = some (.int .i64 sc) ∧ w'.cell? ⟨g, 1, none⟩ = some (.slice (some ⟨bl, o, none⟩) n c) ∧ w'.cell? ⟨g, 2, none⟩ = some (.slice B m d) ∧ w'.cell? ⟨p, 0, none⟩ = some (.int .i64 ai) ∧ w'.cell? ⟨p, 1, none⟩ = some (.slice P ag.length q) ∧ w'.cell? ⟨p, 2, none⟩ = some (.int .i64 at_) ∧ w'.cell? ⟨p, 3, none⟩ = some (.string ak) ∧ w'.cell? ⟨p, 4, none⟩ = some (.string ab) ∧ w'.cell? ⟨p, 5, none⟩ = some (.int .i64 am) ∧ w'.cell? ⟨p, 6, none⟩ = some (.bool af) ∧ w'.cell? ⟨bl, o + j * 7, none⟩ = some (.int .i64 bi) from
                  ⟨(XV.out.below h XV.out.lt).cell 0, (XV.out.below h XV.out.lt).cell 1, (XV.out.below h XV.out.lt).cell 2, (V.out.below h V.out.lt).cell 0, (V.out.below h V.out.lt).cell 1, (V.out.below h V.out.lt).cell 2, (V.out.below h V.out.lt).cell 3, (V.out.below h V.out.lt).cell 4, (V.out.below h V.out.lt).cell 5, (V.out.below h V.out.lt).cell 6, (h.cell (cell_block b0)).trans b0⟩)
                have bb1 : Below w3.heap.size w3 w3.drew := (Below.refl _ _).drew
                obtain ⟨ud, hud⟩ : ∃ ud, ud = w3.drew := ⟨_, rfl⟩
                refine wp_region_held_drew (S := fun w' => w'.cell? ⟨g, 0, none⟩ = some (.int .i64 sc) ∧ w'.cell? ⟨g, 1, none⟩ = some (.slice (some ⟨bl, o, none⟩) n c) ∧ w'.cell? ⟨g, 2, none⟩ = some (.slice B m d) ∧ w'.cell? ⟨p, 0, none⟩ = some (.int .i64 ai) ∧ w'.cell? ⟨p, 1, none⟩ = some (.slice P ag.length q) ∧ w'.cell? ⟨p, 2, none⟩ = some (.int .i64 at_) ∧ w'.cell? ⟨p, 3, none⟩ = some (.string ak) ∧ w'.cell? ⟨p, 4, none⟩ = some (.string ab) ∧ w'.cell? ⟨p, 5, none⟩ = some (.int .i64 am) ∧ w'.cell? ⟨p, 6, none⟩ = some (.bool af) ∧ w'.cell? ⟨bl, o + j * 7, none⟩ = some (.int .i64 bi)) (by kernel_rfl) (HSS.out _ bb1) (fun hHeld => ?_)
                rw [← hud] at bb1 hHeld ⊢
                clear hud
                refine qT 0 ?_; try simp only [Act.put, qq]
                refine qT 1 ?_; try simp only [Act.put, qq]
                refine wpAnyH_ready (rs := [2]) (by kernel_rfl) (by simp) ?_
                refine AllReadyH.cons rfl (fun K hK => ?_) AllReadyH.nil
                go_simp
                refine (CM1.out _ (bmore HB3r.out bb1 (Nat.le_refl _))).mono ?_
                rintro e w5 ⟨rfl, hb⟩
                have bb2 := bmore bb1 hb (Nat.le_refl _)
                clear hb
                refine hK.out _ _ (HSS.out _ bb2) (fun hHeld => ?_)
                clear hK
                try simp only [Act.put, qq]
                refine qT 3 ?_; try simp only [Act.put, qq]
                refine qT 4 ?_; try simp only [Act.put, qq]
                refine qT 5 ?_; try simp only [Act.put, qq]
                refine qT 6 ?_; try simp only [Act.put, qq]
                refine qT 7 ?_; try simp only [Act.put, qq]
                refine qT 8 ?_; try simp only [Act.put, qq]
                refine qT 9 ?_; try simp only [Act.put, qq]
                refine qT 10 ?_; try simp only [Act.put, qq]
                refine qT 11 ?_; try simp only [Act.put, qq]
                refine qT 12 ?_; try simp only [Act.put, qq]
                refine qT 13 ?_; try simp only [Act.put, qq]
                refine qT 14 ?_; try simp only [Act.put, qq]
                refine qT 15 ?_; try simp only [Act.put, qq]
                refine qT 16 ?_; try simp only [Act.put, qq]
                refine qT 17 ?_; try simp only [Act.put, qq]
                refine qT 18 ?_; try simp only [Act.put, qq]
                refine qT 19 ?_; try simp only [Act.put, qq]
                refine qT 20 ?_; try simp only [Act.put, qq]
                refine qT 21 ?_; try simp only [Act.put, qq]
                refine qT 22 ?_; try simp only [Act.put, qq]
                refine qT 23 ?_; try simp only [Act.put, qq]
                refine qT 24 ?_; try simp only [Act.put, qq]
                refine qT 25 ?_; try simp only [Act.put, qq]
                refine qT 26 ?_; try simp only [Act.put, qq]
                refine qT 27 ?_; try simp only [Act.put, qq]
                refine qT 28 ?_; try simp only [Act.put, qq]
                refine qT 29 ?_; try simp only [Act.put, qq]
                refine qT 30 ?_; try simp only [Act.put, qq]
                refine qT 31 ?_; try simp only [Act.put, qq]
                refine qT 32 ?_; try simp only [Act.put, qq]
                refine qT 33 ?_; try simp only [Act.put, qq]
                refine qT 34 ?_; try simp only [Act.put, qq]
                refine qS 35 ?_; try simp only [Act.put, qq]
                refine qS 36 ?_; try simp only [Act.put, qq]
                refine qS 37 ?_; try simp only [Act.put, qq]
                refine qS 38 ?_; try simp only [Act.put, qq]
                refine qS 39 ?_; try simp only [Act.put, qq]
                refine qT 40 ?_; try simp only [Act.put, qq]
                refine wpAnyH_done (by kernel_rfl) ?_ _
                clear hHeld HSS
                go_wp2_with fail
                go_meet
                case rel => exact ⟨⟨true, rfl, fun _ => HF.out, fun h => (by cases h)⟩, bb2⟩
              have HF := Lib.hid (show dn = false → CM.mgOk ⟨ai, ag, at_, ak, ab⟩ ∧ (1 ≤ am ∧ am ≤ sc) ∧ KM.doneF ds ai = false ∧ ∀ y, ws[k - 1]? = some y → 0 < k → y.m.id < ai from fun e => ⟨HOKT.out, ⟨by omega, by omega⟩, by rw [← HDN.out]; exact e, fun z hz _ => (by rw [HYy.out] at hz; injection hz with hz; subst hz; omega)⟩)
              obtain ⟨⟨bi, bg, bt, bk, bb⟩, bm, bf⟩ := y
              simp only at b0 q3
              have HSS := Lib.hid (fun (w' : World) (h : Below w3.heap.size w3 w') => show w'.cell? ⟨g, 0, none⟩ = some (.int .i64 sc) ∧ w'.cell? ⟨g, 1, none⟩ = some (.slice (some ⟨bl, o, none⟩) n c) ∧ w'.cell? ⟨g, 2, none⟩ = some (.slice B m d) ∧ w'.cell? ⟨p, 0, none⟩ = some (.int .i64 ai) ∧ w'.cell? ⟨p, 1, none⟩ = some (.slice P ag.length q) ∧ w'.cell? ⟨p, 2, none⟩ = some (.int .i64 at_) ∧ w'.cell? ⟨p, 3, none⟩ = some (.string ak) ∧ w'.cell? ⟨p, 4, none⟩ = some (.string ab) ∧ w'.cell? ⟨p, 5, none⟩ = some (.int .i64 am) ∧ w'.cell? ⟨p, 6, none⟩ = some (.bool af) ∧ w'.cell? ⟨bl, o + j * 7, none⟩ = some (.int .i64 bi) from
                ⟨(XV.out.below h XV.out.lt).cell 0, (XV.out.below h XV.out.lt).cell 1, (XV.out.below h XV.out.lt).cell 2, (V.out.below h V.out.lt).cell 0, (V.out.below h V.out.lt).cell 1, (V.out.below h V.out.lt).cell 2, (V.out.below h V.out.lt).cell 3, (V.out.below h V.out.lt).cell 4, (V.out.below h V.out.lt).cell 5, (V.out.below h V.out.lt).cell 6, (h.cell (cell_block b0)).trans b0⟩)
              have bb1 : Below w3.heap.size w3 w3.drew := (Below.refl _ _).drew
              obtain ⟨ud, hud⟩ : ∃ ud, ud = w3.drew := ⟨_, rfl⟩
              refine wp_region_held_drew (S := fun w' => w'.cell? ⟨g, 0, none⟩ = some (.int .i64 sc) ∧ w'.cell? ⟨g, 1, none⟩ = some (.slice (some ⟨bl, o, none⟩) n c) ∧ w'.cell? ⟨g, 2, none⟩ = some (.slice B m d) ∧ w'.cell? ⟨p, 0, none⟩ = some (.int .i64 ai) ∧ w'.cell? ⟨p, 1, none⟩ = some (.slice P ag.length q) ∧ w'.cell? ⟨p, 2, none⟩ = some (.int .i64 at_) ∧ w'.cell? ⟨p, 3, none⟩ = some (.string ak) ∧ w'.cell? ⟨p, 4, none⟩ = some (.string ab) ∧ w'.cell? ⟨p, 5, none⟩ = some (.int .i64 am) ∧ w'.cell? ⟨p, 6, none⟩ = some (.bool af) ∧ w'.cell? ⟨bl, o + j * 7, none⟩ = some (.int .i64 bi)) (by kernel_rfl) (HSS.out _ bb1) (fun hHeld => ?_)
              rw [← hud] at bb1 hHeld ⊢
              clear hud
              refine qT 0 ?_; try simp only [Act.put, qq]
              refine qT 1 ?_; try simp only [Act.put, qq]
              refine wpAnyH_ready (rs := [2]) (by kernel_rfl) (by simp) ?_
              refine AllReadyH.cons rfl (fun K hK => ?_) AllReadyH.nil
              go_simp
              refine (CM1.out _ (bmore HB3r.out bb1 (Nat.le_refl _))).mono ?_
              rintro e w5 ⟨rfl, hb⟩
              have bb2 := bmore bb1 hb (Nat.le_refl _)
              clear hb
              refine hK.out _ _ (HSS.out _ bb2) (fun hHeld => ?_)
              clear hK
              try simp only [Act.put, qq]
              refine qT 3 ?_; try simp only [Act.put, qq]
              refine qT 4 ?_; try simp only [Act.put, qq]
              refine qT 5 ?_; try simp only [Act.put, qq]
              refine qT 6 ?_; try simp only [Act.put, qq]
              refine qT 7 ?_; try simp only [Act.put, qq]
              refine qT 8 ?_; try simp only [Act.put, qq]
              refine qT 9 ?_; try simp only [Act.put, qq]
              refine qT 10 ?_; try simp only [Act.put, qq]
              refine qT 11 ?_; try simp only [Act.put, qq]
              refine qT 12 ?_; try simp only [Act.put, qq]
              refine qT 13 ?_; try simp only [Act.put, qq]
              refine qT 14 ?_; try simp only [Act.put, qq]
              refine qT 15 ?_; try simp only [Act.put, qq]
              refine qT 16 ?_; try simp only [Act.put, qq]
              refine qT 17 ?_; try simp only [Act.put, qq]
              refine qT 18 ?_; try simp only [Act.put, qq]
              refine qT 19 ?_; try simp only [Act.put, qq]
              refine qT 20 ?_; try simp only [Act.put, qq]
              refine qT 21 ?_; try simp only [Act.put, qq]
              refine qT 22 ?_; try simp only [Act.put, qq]
              refine qT 23 ?_; try simp only [Act.put, qq]
              refine qT 24 ?_; try simp only [Act.put, qq]
              refine qT 25 ?_; try simp only [Act.put, qq]
              refine qT 26 ?_; try simp only [Act.put, qq]
              refine qT 27 ?_; try simp only [Act.put, qq]
              refine qT 28 ?_; try simp only [Act.put, qq]
              refine qT 29 ?_; try simp only [Act.put, qq]
              refine qT 30 ?_; try simp only [Act.put, qq]
              refine qT 31 ?_; try simp only [Act.put, qq]
              refine qT 32 ?_; try simp only [Act.put, qq]
              refine qT 33 ?_; try simp only [Act.put, qq]
              refine qT 34 ?_; try simp only [Act.put, qq]
              refine qT 35 ?_; try simp only [Act.put, qq]
              refine qT 36 ?_; try simp only [Act.put, qq]
              refine qT 37 ?_; try simp only [Act.put, qq]
              refine qT 38 ?_; try simp only [Act.put, qq]
              refine wpAnyH_ready (rs := [39]) (by kernel_rfl) (by simp) ?_
              refine AllReadyH.cons rfl (fun K hK => ?_) AllReadyH.nil
              go_simp
              refine (KD1.out _ (bmore HB3.out bb2 (Nat.le_refl _))).mono ?_
              rintro e w6 ⟨rfl, hb⟩
              have bb3 := bmore bb2 hb (Nat.le_refl _)
              clear hb
              refine hK.out _ _ (HSS.out _ bb3) (fun hHeld => ?_)
              clear hK
              try simp only [Act.put, qq]
              refine qT 40 ?_; try simp only [Act.put, qq]
              refine wpAnyH_done (by kernel_rfl) ?_ _
              clear hHeld HSS
              go_wp2_with fail
              go_meet
              case rel => exact ⟨⟨dn, rfl, HDD.out, HF.out⟩, bb3⟩
          case rest =>
            obtain ⟨⟨bad, rfl, hb1, hb2⟩, hbc⟩ := hcut
            rename_i wc
            have HBC := Lib.hid (bmore HBW.out hbc (Nat.le_refl _))
            have HBD := Lib.hid (bmore HB3.out hbc (Nat.le_refl _))
            have XC := Lib.hid (XV.out.below hbc XV.out.lt)
            have VC := Lib.hid (V.out.below hbc V.out.lt)
            clear hbc XV V HB3 HBW XR HB3r CM1 KD1
            rcases bad with _ | _
            rotate_left
            · have HF := Lib.hid (hb1 rfl)
              clear hb1 hb2
              go_wp2_with fail
              go_ret
              exact ⟨by rw [HF.out]; rfl, HBD.out⟩
            have HOKA := Lib.hid (hb2 rfl)
            clear hb1 hb2
            go_upto_region 20 with (fail)
            go_cut [154] (fun u wx => (∃ bad : Bool, u = .bool bad ∧ (bad = true → r = false) ∧ (bad = false → (ds.getLast?.all fun z => TM.less z ⟨am, ai⟩) = true)) ∧ Below wc.heap.size wc wx)
            case first =>
              as_aux_lemma =>
                rcases Nat.eq_zero_or_pos m with hm0 | hm0
                · have HF := Lib.hid (show (ds.getLast?.all fun z => TM.less z ⟨am, ai⟩) = true by
                    rw [List.length_eq_zero_iff.1 (show ds.length = 0 by have := HLB.out; omega)]; rfl)
                  have hm1 : decide ((0 : Int) < (m : Int)) = false := by simp; omega
                  have hm2 : decide (0 < m) = false := by simp; omega
                  clear hm0
                  have HSS := Lib.hid (fun (w' : World) (h : Below wc.heap.size wc w') => show w'.cell? ⟨g, 0, none⟩ = some (.int .i64 sc) ∧ w'.cell? ⟨g, 1, none⟩ = some (.slice (some ⟨bl, o, none⟩) n c) ∧ w'.cell? ⟨g, 2, none⟩ = some (.slice B m d) ∧ w'.cell? ⟨p, 0, none⟩ = some (.int .i64 ai) ∧ w'.cell? ⟨p, 1, none⟩ = some (.slice P ag.length q) ∧ w'.cell? ⟨p, 2, none⟩ = some (.int .i64 at_) ∧ w'.cell? ⟨p, 3, none⟩ = some (.string ak) ∧ w'.cell? ⟨p, 4, none⟩ = some (.string ab) ∧ w'.cell? ⟨p, 5, none⟩ = some (.int .i64 am) ∧ w'.cell? ⟨p, 6, none⟩ = some (.bool af) from
                    ⟨(XC.out.below h XC.out.lt).cell 0, (XC.out.below h XC.out.lt).cell 1, (XC.out.below h XC.out.lt).cell 2, (VC.out.below h VC.out.lt).cell 0, (VC.out.below h VC.out.lt).cell 1, (VC.out.below h VC.out.lt).cell 2, (VC.out.below h VC.out.lt).cell 3, (VC.out.below h VC.out.lt).cell 4, (VC.out.below h VC.out.lt).cell 5, (VC.out.below h VC.out.lt).cell 6⟩)
                  have bb1 : Below wc.heap.size wc wc.drew := (Below.refl _ _).drew
                  obtain ⟨ud, hud⟩ : ∃ ud, ud = wc.drew := ⟨_, rfl⟩
                  refine wp_region_held_drew (S := fun w' => w'.cell? ⟨g, 0, none⟩ = some (.int .i64 sc) ∧ w'.cell? ⟨g, 1, none⟩ = some (.slice (some ⟨bl, o, none⟩) n c) ∧ w'.cell? ⟨g, 2, none⟩ = some (.slice B m d) ∧ w'.cell? ⟨p, 0, none⟩ = some (.int .i64 ai) ∧ w'.cell? ⟨p, 1, none⟩ = some (.slice P ag.length q) ∧ w'.cell? ⟨p, 2, none⟩ = some (.int .i64 at_) ∧ w'.cell? ⟨p, 3, none⟩ = some (.string ak) ∧ w'.cell? ⟨p, 4, none⟩ = some (.string ab) ∧ w'.cell? ⟨p, 5, none⟩ = some (.int .i64 am) ∧ w'.cell? ⟨p, 6, none⟩ = some (.bool af)) (by kernel_rfl) (HSS.out _ bb1) (fun hHeld => ?_)
                  rw [← hud] at bb1 hHeld ⊢
                  clear hud
                  refine qT 0 ?_; try simp only [Act.put, qq]
                  refine qT 1 ?_; try simp only [Act.put, qq]
                  refine qT 2 ?_; try simp only [Act.put, qq]
                  refine qT 3 ?_; try simp only [Act.put, qq]
                  refine qT 4 ?_; try simp only [Act.put, qq]
                  refine qS 5 ?_; try simp only [Act.put, qq]
                  refine qS 6 ?_; try simp only [Act.put, qq]
                  refine qS 7 ?_; try simp only [Act.put, qq]
                  refine qS 8 ?_; try simp only [Act.put, qq]
                  refine qS 9 ?_; try simp only [Act.put, qq]
                  refine qS 10 ?_; try simp only [Act.put, qq]
                  refine qS 11 ?_; try simp only [Act.put, qq]
                  refine qS 12 ?_; try simp only [Act.put, qq]
                  refine qS 13 ?_; try simp only [Act.put, qq]
                  refine qS 14 ?_; try simp only [Act.put, qq]
                  refine qS 15 ?_; try simp only [Act.put, qq]
                  refine qS 16 ?_; try simp only [Act.put, qq]
                  refine qT 17 ?_; try simp only [Act.put, qq]
                  refine wpAnyH_done (by kernel_rfl) ?_ _
                  clear hHeld HSS
                  go_wp2_with fail
                  go_meet
                  case rel => exact ⟨⟨false, rfl, fun h => (by cases h), fun _ => HF.out⟩, bb1⟩
                · obtain ⟨j, hj⟩ : ∃ j, j = m - 1 := ⟨_, rfl⟩
                  obtain ⟨z, hz⟩ : ∃ z, ds[j]? = some z := ⟨_, List.getElem?_eq_getElem (by have := HLB.out; omega)⟩
                  have HZz := Lib.hid (show ds.getLast? = some z by rw [List.getLast?_eq_getElem?, ← HLB.out, ← hj]; exact hz)
                  obtain ⟨bl', o', rfl, _, _, b0, b1⟩ := (HD.out _ HBD.out).at_ hz
                  have hkj : IntKind.i64.wrap ((m : Int) - 1) = (j : Int) := by rw [IntKind.wrap_i64]; omega
                  have hj0 : (0 : Int) ≤ (j : Int) := by omega
                  have hjn : (j : Int) < (m : Int) := by omega
                  have hm1 : (0 : Int) < (m : Int) := by omega
                  clear hj hz
                  obtain ⟨e, he⟩ : ∃ e, e = TM.less z ⟨am, ai⟩ := ⟨_, rfl⟩
                  have CL1 := Lib.hid (fun W => CL.out z W)
                  rw [← he] at CL1
                  have HF := Lib.hid (show (e = false → r = false) ∧ (e = true → (ds.getLast?.all fun z => TM.less z ⟨am, ai⟩) = true) from
                    ⟨fun e0 => HBAD.out fun hh => (by have := KM.last_all.1 hh.1.2.2.2 z HZz.out; rw [← he, e0] at this; cases this), fun e0 => KM.last_all.2 fun y hy => (by rw [HZz.out] at hy; injection hy with hy; subst hy; rw [← he]; exact e0)⟩)
                  clear he
                  obtain ⟨bt, bi⟩ := z
                  simp only at b0 b1 CL1
                  have HSS := Lib.hid (fun (w' : World) (h : Below wc.heap.size wc w') => show w'.cell? ⟨g, 0, none⟩ = some (.int .i64 sc) ∧ w'.cell? ⟨g, 1, none⟩ = some (.slice (some ⟨bl, o, none⟩) n c) ∧ w'.cell? ⟨g, 2, none⟩ = some (.slice (some ⟨bl', o', none⟩) m d) ∧ w'.cell? ⟨p, 0, none⟩ = some (.int .i64 ai) ∧ w'.cell? ⟨p, 1, none⟩ = some (.slice P ag.length q) ∧ w'.cell? ⟨p, 2, none⟩ = some (.int .i64 at_) ∧ w'.cell? ⟨p, 3, none⟩ = some (.string ak) ∧ w'.cell? ⟨p, 4, none⟩ = some (.string ab) ∧ w'.cell? ⟨p, 5, none⟩ = some (.int .i64 am) ∧ w'.cell? ⟨p, 6, none⟩ = some (.bool af) ∧ w'.cell? ⟨bl', o' + j * 2, none⟩ = some (.int .i64 bt) ∧ w'.cell? ⟨bl', o' + j * 2 + 1, none⟩ = some (.int .i64 bi) from
                    ⟨(XC.out.below h XC.out.lt).cell 0, (XC.out.below h XC.out.lt).cell 1, (XC.out.below h XC.out.lt).cell 2, (VC.out.below h VC.out.lt).cell 0, (VC.out.below h VC.out.lt).cell 1, (VC.out.below h VC.out.lt).cell 2, (VC.out.below h VC.out.lt).cell 3, (VC.out.below h VC.out.lt).cell 4, (VC.out.below h VC.out.lt).cell 5, (VC.out.below h VC.out.lt).cell 6, (h.cell (cell_block b0)).trans b0, (h.cell (cell_block b1)).trans b1⟩)
                  have bb1 : Below wc.heap.size wc wc.drew := (Below.refl _ _).drew
                  obtain ⟨ud, hud⟩ : ∃ ud, ud = wc.drew := ⟨_, rfl⟩
                  refine wp_region_held_drew (S := fun w' => w'.cell? ⟨g, 0, none⟩ = some (.int .i64 sc) ∧ w'.cell? ⟨g, 1, none⟩ = some (.slice (some ⟨bl, o, none⟩) n c) ∧ w'.cell? ⟨g, 2, none⟩ = some (.slice (some ⟨bl', o', none⟩) m d) ∧ w'.cell? ⟨p, 0, none⟩ = some (.int .i64 ai) ∧ w'.cell? ⟨p, 1, none⟩ = some (.slice P ag.length q) ∧ w'.cell? ⟨p, 2, none⟩ = some (.int .i64 at_) ∧ w'.cell? ⟨p, 3, none⟩ = some (.string ak) ∧ w'.cell? ⟨p, 4, none⟩ = some (.string ab) ∧ w'.cell? ⟨p, 5, none⟩ = some (.int .i64 am) ∧ w'.cell? ⟨p, 6, none⟩ = some (.bool af) ∧ w'.cell? ⟨bl', o' + j * 2, none⟩ = some (.int .i64 bt) ∧ w'.cell? ⟨bl', o' + j * 2 + 1, none⟩ = some (.int .i64 bi)) (by kernel_rfl) (HSS.out _ bb1) (fun hHeld => ?_)
                  rw [← hud] at bb1 hHeld ⊢
                  clear hud
                  refine qT 0 ?_; try simp only [Act.put, qq]
                  refine qT 1 ?_; try simp only [Act.put, qq]
                  refine qT 2 ?_; try simp only [Act.put, qq]
                  refine qT 3 ?_; try simp only [Act.put, qq]
                  refine qT 4 ?_; try simp only [Act.put, qq]
                  refine qT 5 ?_; try simp only [Act.put, qq]
                  refine qT 6 ?_; try simp only [Act.put, qq]
                  refine qT 7 ?_; try simp only [Act.put, qq]
                  refine qT 8 ?_; try simp only [Act.put, qq]
                  refine qT 9 ?_; try simp only [Act.put, qq]
                  refine qT 10 ?_; try simp only [Act.put, qq]
                  refine qT 11 ?_; try simp only [Act.put, qq]
                  refine qT 12 ?_; try simp only [Act.put, qq]
                  refine qT 13 ?_; try simp only [Act.put, qq]
                  refine wpAnyH_ready (rs := [14]) (by kernel_rfl) (by simp) ?_
                  refine AllReadyH.cons rfl (fun K hK => ?_) AllReadyH.nil
                  go_simp
                  refine (CS.out _).mono ?_
                  rintro e2 w5 ⟨rfl, hb⟩
                  have bb2 := bmore bb1 hb (Nat.le_refl _)
                  clear hb
                  unfold vsp
                  refine hK.out _ _ (HSS.out _ bb2) (fun hHeld => ?_)
                  clear hK
                  try simp only [Act.put, qq]
                  refine wpAnyH_ready (rs := [15]) (by kernel_rfl) (by simp) ?_
                  refine AllReadyH.cons rfl (fun K hK => ?_) AllReadyH.nil
                  go_simp
                  refine (CL1.out _).mono ?_
                  rintro e3 w6 ⟨rfl, hb⟩
                  have bb3 := bmore bb2 hb (Nat.le_refl _)
                  clear hb
                  refine hK.out _ _ (HSS.out _ bb3) (fun hHeld => ?_)
                  clear hK
                  try simp only [Act.put, qq]
                  refine qT 16 ?_; try simp only [Act.put, qq]
                  refine qT 17 ?_; try simp only [Act.put, qq]
                  refine wpAnyH_done (by kernel_rfl) ?_ _
                  clear hHeld HSS
                  go_wp2_with fail
                  go_meet
                  case rel => exact ⟨⟨!e, rfl, fun h => HF.out.1 (by simpa using h), fun h => HF.out.2 (by simpa using h)⟩, bb3⟩
            case rest =>
              obtain ⟨⟨bad, rfl, hb1, hb2⟩, hbc⟩ := hcut
              have HBE := Lib.hid (bmore HBD.out hbc (Nat.le_refl _))
              have HBF := Lib.hid (bmore HBC.out hbc (Nat.le_refl _))
              clear hbc CS CL
              rcases bad with _ | _
              rotate_left
              · have HF := Lib.hid (hb1 rfl)
                clear hb1 hb2
                go_wp2_with fail
                go_ret
                exact ⟨by rw [HF.out]; rfl, HBE.out⟩
              have HNX := Lib.hid (HMORE.out HOKA.out.1 HOKA.out.2.1 HOKA.out.2.2.1 (hb2 rfl) HOKA.out.2.2.2)
              clear hb1 hb2
              go_wp2_with fail
              go_roundw
              case rel => exact ⟨k + 1, by omega, by go_num, HBF.out, HNX⟩
              case measure => simp [intOf]; omega
        · have HKW := Lib.hid (show KM.WaitOk sc ds ws by have := HK.out; rwa [List.take_of_length_le (by have := HLA.out; omega)] at this)
          have HSO := Lib.hid (show KM.SizeOk ⟨sc, ws, ds⟩ from ⟨by show 0 ≤ sc; omega, by show sc ≤ 1073741824; omega, by show ws.length ≤ 200; have := HLA.out; omega, by show ds.length ≤ 200; have := HLB.out; omega⟩)
          clear HK
          go_upto_region 22 with (fail)
          clear x0 x1 x2
          rcases Nat.eq_zero_or_pos n with hn0 | hn0
          · have HF := Lib.hid (HYES.out ⟨HSO.out, HKD.out, HKW.out, by
              rw [show (⟨sc, ws, ds⟩ : Sk).ws = [] from List.length_eq_zero_iff.1 (show ws.length = 0 by have := HLA.out; omega)]; rfl⟩)
            have hn1 : ((n : Int) == 0) = true := by simp; omega
            clear hn0
            have HSS := Lib.hid (fun (w' : World) (h : Below wr.heap.size wr w') => show w'.cell? ⟨g, 0, none⟩ = some (.int .i64 sc) ∧ w'.cell? ⟨g, 1, none⟩ = some (.slice A n c) ∧ w'.cell? ⟨g, 2, none⟩ = some (.slice B m d) from
              ⟨(XR.out.below h XR.out.lt).cell 0, (XR.out.below h XR.out.lt).cell 1, (XR.out.below h XR.out.lt).cell 2⟩)
            have bb1 : Below wr.heap.size wr wr.drew := (Below.refl _ _).drew
            obtain ⟨ud, hud⟩ : ∃ ud, ud = wr.drew := ⟨_, rfl⟩
            refine wp_region_held_drew (S := fun w' => w'.cell? ⟨g, 0, none⟩ = some (.int .i64 sc) ∧ w'.cell? ⟨g, 1, none⟩ = some (.slice A n c) ∧ w'.cell? ⟨g, 2, none⟩ = some (.slice B m d)) (by kernel_rfl) (HSS.out _ bb1) (fun hHeld => ?_)
            rw [← hud] at bb1 hHeld ⊢
            clear hud
            refine qT 0 ?_; try simp only [Act.put, qq]
            refine qT 1 ?_; try simp only [Act.put, qq]
            refine qT 2 ?_; try simp only [Act.put, qq]
            refine qT 3 ?_; try simp only [Act.put, qq]
            refine qT 4 ?_; try simp only [Act.put, qq]
            refine qS 5 ?_; try simp only [Act.put, qq]
            refine qS 6 ?_; try simp only [Act.put, qq]
            refine qS 7 ?_; try simp only [Act.put, qq]
            refine qS 8 ?_; try simp only [Act.put, qq]
            refine qS 9 ?_; try simp only [Act.put, qq]
            refine qS 10 ?_; try simp only [Act.put, qq]
            refine qS 11 ?_; try simp only [Act.put, qq]
            refine qS 12 ?_; try simp only [Act.put, qq]
            refine qS 13 ?_; try simp only [Act.put, qq]
            refine qT 14 ?_; try simp only [Act.put, qq]
            refine qT 15 ?_; try simp only [Act.put, qq]
            refine wpAnyH_done (by kernel_rfl) ?_ _
            clear hHeld HSS
            go_wp2_with fail
            go_ret
            exact ⟨by rw [HF.out]; rfl, bmore HB2.out bb1 (Nat.le_refl _)⟩
          · have hne : ws ≠ [] := by
              intro e
              have := HLA.out
              rw [e] at this
              simp at this
              omega
            obtain ⟨L, hL⟩ : ∃ L, L = KM.lst ws := ⟨_, rfl⟩
            have hLn : L < n := by rw [hL]; have := KM.lst_lt hne; have := HLA.out; omega
            have KL := Lib.hid (fun W (hb : Below w.heap.size w W) => rleast_any A n c ws W (H.out W hb) hne)
            rw [← hL] at KL
            obtain ⟨x, hx⟩ : ∃ x, ws[L]? = some x := ⟨_, List.getElem?_eq_getElem (by have := HLA.out; omega)⟩
            have HF := Lib.hid (show r = !x.f by
              rcases hxf : x.f with _ | _
              · exact HYES.out ⟨HSO.out, HKD.out, HKW.out, KM.headOk_iff.2 fun y hy => by
                  rw [show KM.lst (⟨sc, ws, ds⟩ : Sk).ws = L from hL.symm] at hy
                  rw [show (⟨sc, ws, ds⟩ : Sk).ws[L]? = some x from hx] at hy
                  injection hy with hy
                  subst hy
                  exact hxf⟩
              · exact HNO.out fun kk => by
                  have := KM.headOk_iff.1 kk.2.2.2 x (by rw [show KM.lst (⟨sc, ws, ds⟩ : Sk).ws = L from hL.symm]; exact hx)
                  rw [hxf] at this
                  cases this)
            obtain ⟨bl, o, P, q, rfl, _, hbl, hat, _⟩ := wts_at (H.out _ HB2.out) hx
            obtain ⟨_, _, _, _, _, _, a6⟩ := hat
            obtain ⟨xm, xt, xf⟩ := x
            simp only at a6 HF
            have hn1 : ((n : Int) == 0) = false := by simp; omega
            have hL0 : (0 : Int) ≤ (L : Int) := by omega
            have hL1 : (L : Int) < (n : Int) := by omega
            clear hn0 hL hx hne hLn
            have HSS := Lib.hid (fun (w' : World) (h : Below wr.heap.size wr w') => show w'.cell? ⟨g, 0, none⟩ = some (.int .i64 sc) ∧ w'.cell? ⟨g, 1, none⟩ = some (.slice (some ⟨bl, o, none⟩) n c) ∧ w'.cell? ⟨g, 2, none⟩ = some (.slice B m d) ∧ w'.cell? ⟨bl, o + L * 7 + 6, none⟩ = some (.bool xf) from
              ⟨(XR.out.below h XR.out.lt).cell 0, (XR.out.below h XR.out.lt).cell 1, (XR.out.below h XR.out.lt).cell 2, (h.cell (cell_block a6)).trans a6⟩)
            have bb1 : Below wr.heap.size wr wr.drew := (Below.refl _ _).drew
            obtain ⟨ud, hud⟩ : ∃ ud, ud = wr.drew := ⟨_, rfl⟩
            refine wp_region_held_drew (S := fun w' => w'.cell? ⟨g, 0, none⟩ = some (.int .i64 sc) ∧ w'.cell? ⟨g, 1, none⟩ = some (.slice (some ⟨bl, o, none⟩) n c) ∧ w'.cell? ⟨g, 2, none⟩ = some (.slice B m d) ∧ w'.cell? ⟨bl, o + L * 7 + 6, none⟩ = some (.bool xf)) (by kernel_rfl) (HSS.out _ bb1) (fun hHeld => ?_)
            rw [← hud] at bb1 hHeld ⊢
            clear hud
            refine qT 0 ?_; try simp only [Act.put, qq]
            refine qT 1 ?_; try simp only [Act.put, qq]
            refine qT 2 ?_; try simp only [Act.put, qq]
            refine qT 3 ?_; try simp only [Act.put, qq]
            refine qT 4 ?_; try simp only [Act.put, qq]
            refine qT 5 ?_; try simp only [Act.put, qq]
            refine qT 6 ?_; try simp only [Act.put, qq]
            refine qT 7 ?_; try simp only [Act.put, qq]
            refine qT 8 ?_; try simp only [Act.put, qq]
            refine wpAnyH_ready (rs := [9]) (by kernel_rfl) (by simp) ?_
            refine AllReadyH.cons rfl (fun K hK => ?_) AllReadyH.nil
            go_simp
            refine (KL.out _ (bmore HB2.out bb1 (Nat.le_refl _))).mono ?_
            rintro e w5 ⟨rfl, hb⟩
            have bb2 := bmore bb1 hb (Nat.le_refl _)
            clear hb
            refine hK.out _ _ (HSS.out _ bb2) (fun hHeld => ?_)
            clear hK
            try simp only [Act.put, qq]
            refine qT 10 ?_; try simp only [Act.put, qq]
            refine qT 11 ?_; try simp only [Act.put, qq]
            refine qT 12 ?_; try simp only [Act.put, qq]
            refine qT 13 ?_; try simp only [Act.put, qq]
            refine qT 14 ?_; try simp only [Act.put, qq]
            refine qT 15 ?_; try simp only [Act.put, qq]
            refine wpAnyH_done (by kernel_rfl) ?_ _
            clear hHeld HSS
            go_wp2_with fail
            go_ret
            exact ⟨by rw [HF.out]; rfl, bmore HB2.out bb2 (Nat.le_refl _)⟩
end Go.Proofs.YtnpgjcapekopnaaGreat.KP
