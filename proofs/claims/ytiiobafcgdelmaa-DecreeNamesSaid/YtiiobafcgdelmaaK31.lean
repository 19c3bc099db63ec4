/-
  Package decree's isTry, areNodes. Conditions: as each theorem says.
-/
import Derived.Test.YtiiobafcgdelmaaK30
import Derived.Test.YtiiobafcgdelmaaK14
import Derived.Test.YtiiobafcgdelmaaK21
namespace Go.Proofs.Ytiiobafcgdelmaa.PD
open Go.RowKit Go.Shelf
set_option linter.unusedVariables false
set_option linter.unusedSimpArgs false

instance (ms : List Int) (i : Int) (t : AM.At) : Decidable (DC.MayT ms i t) := by unfold DC.MayT; infer_instance
instance (p b : Int) (s : ByteArray) : Decidable (VM.may p b s) := by unfold VM.may VM.okP VM.okA BM.good; infer_instance
set_option maxRecDepth 100000 in
set_option maxHeartbeats 4000000 in
theorem isTry_any (v : Value) (t : AM.At) (A0 : Option Addr) (n0 c0 : Nat) (ms : List Int) (i : Int) (W : World) (H : AtIs W v t) (F : Fit t) (hr : Rd W A0 n0 (ic ms)) (hn0 : n0 ≤ 2000) :
    Calls Try.prog 37 #[v, .slice A0 n0 c0, .int .i64 i] W (BoolIs (decide (DC.MayT ms i t)) W) := by
  have hH := H
  obtain ⟨A, n, c, B, m, d, C, k, f, rfl, h1, h2, h3⟩ := H
  obtain ⟨f1, f2, f3⟩ := AtIs.fit_n h1 h2 h3 F
  have HC := Lib.hid (fun (U : World) (hU : Below W.heap.size W U) => acheck_any _ t U (hH.below hU) F)
  have HE := Lib.hid (fun (U : World) (hU : Below W.heap.size W U) => equalI_any A n c t.ms A0 n0 c0 ms U (h1.below hU) (hr.below hU) (by omega) (by omega))
  have hp0 : 0 ≤ t.ph := F.p1
  have hp255 : t.ph ≤ 255 := F.p2
  obtain ⟨W0, hW0⟩ : ∃ W0, W0 = W.alloc (.cells #[.int .u8 t.ph, .int .i64 t.ba, .slice A n c, .string t.wi, .string t.va, .slice B m d, .slice C k f] 49) := ⟨_, rfl⟩
  have hb0 : Below W.heap.size W W0 := by rw [hW0]; exact (Below.refl _ _).alloc (Nat.le_refl _) _
  have hx0 : Box W0 W.heap.size 49 #[.int .u8 t.ph, .int .i64 t.ba, .slice A n c, .string t.wi, .string t.va, .slice B m d, .slice C k f] := by rw [hW0]; exact Box.new _ _ _
  have HB0 := Lib.hid hb0
  have HX0 := Lib.hid hx0
  clear hH h1 h2 h3 hr hn0 f1 f2 f3 hb0 hx0
  by_cases hm : AM.may t = true
  rotate_left
  · have hd := decide_eq_false (show ¬ DC.MayT ms i t from fun h => hm h.1)
    rw [hd]
    simp only [if_neg hm] at HC
    clear hm hd HE F
    go_enter Try.func37, Try.ntmps37
    go_wp2_with fail
    rw [← hW0]
    refine (HC.out _ HB0.out).mono ?_
    rintro e w1 ⟨rfl, hb⟩
    have HB2 := Lib.hid (bmore HB0.out hb (Nat.le_refl _))
    clear HC HX0 HB0 hb hW0
    go_wp2_with fail
    go_ret
    exact ⟨rfl, HB2.out⟩
  simp only [if_pos hm] at HC
  by_cases h0 : t.ph = 0
  · have hd := decide_eq_true (show DC.MayT ms i t from ⟨hm, .inl h0⟩)
    rw [hd]
    have he0 : (t.ph == 0) = true := by simpa using h0
    clear hm hd HE F h0
    go_enter Try.func37, Try.ntmps37
    go_wp2_with fail
    rw [← hW0]
    refine (HC.out _ HB0.out).mono ?_
    rintro e w1 ⟨rfl, hb⟩
    have HB2 := Lib.hid (bmore HB0.out hb (Nat.le_refl _))
    obtain ⟨⟨x0, _⟩, _⟩ := (HX0.out.below hb HX0.out.lt).seven
    clear HC HX0 HB0 hb hW0
    go_wp2_with fail
    go_ret
    exact ⟨rfl, HB2.out⟩
  have hgood := (DC.may_good hm h0).1
  have hof : BM.OfIs t.ba (t.ba / 8) (t.ba % 8) 0 := .inl ⟨hgood, rfl, rfl, rfl⟩
  have HO := Lib.hid (fun U => of_any hof F.b1 F.b2 U)
  have he0 : (t.ph == 0) = false := by simpa using h0
  by_cases h8 : t.ba % 8 = i
  · have hd : decide (DC.MayT ms i t) = decide (t.ms = ms) := by
      rw [decide_eq_decide]
      exact ⟨fun h => by rcases h.2 with h | h; (· exact absurd h h0); (· exact h.2), fun h => ⟨hm, .inr ⟨h8, h⟩⟩⟩
    rw [hd]
    have he8 : (t.ba % 8 == i) = true := by simpa using h8
    clear hm hd F hgood hof h0 h8
    generalize decide (t.ms = ms) = r at HE ⊢
    generalize t.ba % 8 = z at HO he8
    go_enter Try.func37, Try.ntmps37
    go_wp2_with fail
    rw [← hW0]
    refine (HC.out _ HB0.out).mono ?_
    rintro e w1 ⟨rfl, hb⟩
    have HB2 := Lib.hid (bmore HB0.out hb (Nat.le_refl _))
    obtain ⟨⟨x0, x1, x2, _⟩, _⟩ := (HX0.out.below hb HX0.out.lt).seven
    clear HC HX0 HB0 hb hW0
    go_wp2_with fail
    refine (HO.out _).mono ?_
    rintro e w2 ⟨rfl, rfl⟩
    go_wp2_with fail
    refine (HE.out _ HB2.out).mono ?_
    rintro e w3 ⟨rfl, q, rfl⟩
    clear x0 x1 x2
    go_wp2_with fail
    go_ret
    exact ⟨rfl, below_drewN HB2.out q⟩
  · have hd := decide_eq_false (show ¬ DC.MayT ms i t from fun h => by rcases h.2 with h | h; (· exact h0 h); (· exact h8 h.1))
    rw [hd]
    have he8 : (t.ba % 8 == i) = false := by simpa using h8
    clear hm hd F hgood hof h0 h8 HE
    generalize t.ba % 8 = z at HO he8
    go_enter Try.func37, Try.ntmps37
    go_wp2_with fail
    rw [← hW0]
    refine (HC.out _ HB0.out).mono ?_
    rintro e w1 ⟨rfl, hb⟩
    have HB2 := Lib.hid (bmore HB0.out hb (Nat.le_refl _))
    obtain ⟨⟨x0, x1, x2, _⟩, _⟩ := (HX0.out.below hb HX0.out.lt).seven
    clear HC HX0 HB0 hb hW0
    go_wp2_with fail
    refine (HO.out _).mono ?_
    rintro e w2 ⟨rfl, rfl⟩
    go_wp2_with fail
    go_ret
    exact ⟨rfl, HB2.out⟩

/-- what each of the first k nodes has may be -/
def okN (w : DC.Wd) (k : Nat) : Bool := decide (VM.may (DC.getV w k).p (DC.getV w k).b (DC.getV w k).v) && decide (DC.MayT w.ms k (DC.getT w k))
def NodRel (W : World) (w : DC.Wd) (r : Bool) (k : Nat) (wr : World) : Prop := Below W.heap.size W wr ∧ ((List.range' k (6 - k)).all (okN w)) = r
theorem nod_next {w : DC.Wd} {k : Nat} {r : Bool} (hk : k < 6) (h : ((List.range' k (6 - k)).all (okN w)) = r) : (okN w k && ((List.range' (k + 1) (6 - (k + 1))).all (okN w))) = r := by
  rw [show 6 - k = 6 - (k + 1) + 1 by omega, List.range'_succ, List.all_cons] at h
  exact h

set_option maxRecDepth 100000 in
set_option maxHeartbeats 8000000 in
theorem areNodes_any (A0 A1 A2 A3 A4 : Option Addr) (n3 c0 c1 c2 c3 n4 c4 : Nat) (xs : List Value) (w : DC.Wd) (W : World) (h0 : Rd W A0 w.ms.length (ic w.ms)) (h1 : RdG W 3 A1 w.vs.length (flat vcell w.vs)) (h2 : RdG W 7 A2 w.ts.length xs) (ht : TsIs W xs w.ts)
    (hm : w.ms.length ≤ 2000) (hvl : w.vs.length = 6) (htl : w.ts.length = 6) (FV : ∀ v ∈ w.vs, VFit v) (FT : ∀ t ∈ w.ts, Fit t) :
    Calls Try.prog 22 #[.agg #[.slice A0 w.ms.length c0, .slice A1 6 c1, .slice A2 6 c2, .slice A3 n3 c3, .slice A4 n4 c4]] W (BoolIs ((List.range' 0 6).all (okN w)) W) := by
  obtain ⟨r, hrr⟩ : ∃ r, r = (List.range' 0 6).all (okN w) := ⟨_, rfl⟩
  rw [← hrr]
  have hb0 : Below W.heap.size W (W.alloc (.cells #[.slice A0 w.ms.length c0, .slice A1 6 c1, .slice A2 6 c2, .slice A3 n3 c3, .slice A4 n4 c4] 28)) := (Below.refl _ _).alloc (Nat.le_refl _) _
  have hx0 : Box (W.alloc (.cells #[.slice A0 w.ms.length c0, .slice A1 6 c1, .slice A2 6 c2, .slice A3 n3 c3, .slice A4 n4 c4] 28)) W.heap.size 28 _ := Box.new _ _ _
  have HS := Lib.hid (show NodRel W w r 0 _ from ⟨hb0, hrr.symm⟩)
  have HX := Lib.hid hx0
  have HB0 := Lib.hid hb0
  have H0 := Lib.hid h0
  have H1 := Lib.hid h1
  have H2 := Lib.hid h2
  have HTS := Lib.hid ht
  have HFV := Lib.hid FV
  have HFT := Lib.hid FT
  have HVL := Lib.hid hvl
  have HTL := Lib.hid htl
  have HM := Lib.hid hm
  have hz := hx0.five.1
  obtain ⟨z0, z1, z2, z3, z4⟩ := hz
  have mixed : Try.prog.follows Departure.mixedOrders = true := by kernel_rfl
  clear hrr hb0 hx0 h0 h1 h2 ht FV FT hvl htl hm
  go_enter Try.func22, Try.ntmps22
  go_wp2_with fail
  generalize W.alloc (.cells #[.slice A0 w.ms.length c0, .slice A1 6 c1, .slice A2 6 c2, .slice A3 n3 c3, .slice A4 n4 c4] 28) = W1 at HS HX HB0 z0 z1 z2 z3 z4 ⊢
  clear z0 z1 z2 z3 z4
  have HBX : Hid (∀ wr, Below W.heap.size W wr → Below W1.heap.size W1 wr → Box wr W.heap.size 28 #[.slice A0 w.ms.length c0, .slice A1 6 c1, .slice A2 6 c2, .slice A3 n3 c3, .slice A4 n4 c4]) := Lib.hid (fun wr _ hb => HX.out.below hb HX.out.lt)
  go_loopw [14] (fun i wr => ∃ k : Nat, k ≤ 6 ∧ i = .int .i64 k ∧ Hid (NodRel W w r k wr) ∧ Hid (Below W1.heap.size W1 wr)) (fun i _ => 6 - (intOf i).toNat)
  case atStart => exact ⟨0, by omega, rfl, HS, Lib.hid (Below.refl _ _)⟩
  case round =>
    clear HS
    obtain ⟨k, hk, rfl, HR, HR1⟩ := hrel
    by_cases hlt : k < 6
    · have hn : DC.isNode (k : Int) := by unfold DC.isNode; omega
      have hV : w.vs[k]? = some (DC.getV w (k : Int)) := by have := DC.getV_at HVL.out hn; rwa [Int.toNat_natCast] at this
      have hT : w.ts[k]? = some (DC.getT w (k : Int)) := by have := DC.getT_at HTL.out hn; rwa [Int.toNat_natCast] at this
      have hre := nod_next hlt HR.out.2
      have hvf := HFV.out _ (List.mem_of_getElem? hV)
      have htf := HFT.out _ (List.mem_of_getElem? hT)
      unfold okN at hre
      generalize DC.getV w (k : Int) = v at hV hre hvf
      generalize DC.getT w (k : Int) = t at hT hre htf
      have hx := HBX.out wr HR.out.1 HR1.out
      obtain ⟨b1, o1, rfl, hb1, v0, v1, v2⟩ := RdG.vote (RdG.below H1.out HR.out.1) (by rw [HVL.out]; exact hlt) hV
      obtain ⟨b2, o2, B, n, c, C, m, d, D, q, f, rfl, hb2, r1, r2, r3, t0, t1, t2, t3, t4, t5, t6⟩ := RdG.try_ (RdG.below H2.out HR.out.1) rfl (HTS.out.below HR.out.1) hT
      obtain ⟨y, hy⟩ := VP.chkIs_ex v.p v.b v.v
      obtain ⟨q1, q2, q3, q4, q5⟩ := hvf
      have HV := Lib.hid (fun (U : World) => VP.vcheck_any U q1 q2 q3 q4 q5 hy)
      have hat : AtIs wr (.agg #[.int .u8 t.ph, .int .i64 t.ba, .slice B n c, .string t.wi, .string t.va, .slice C m d, .slice D q f]) t := ⟨B, n, c, C, m, d, D, q, f, rfl, r1, r2, r3⟩
      have HT := Lib.hid (fun (U : World) (hU : Below wr.heap.size wr U) => isTry_any _ t A0 w.ms.length c0 w.ms (k : Int) U (hat.below hU) htf ((H0.out.below HR.out.1).below hU) HM.out)
      generalize W.heap.size = gb at hx
      have hS : ∀ w', Below wr.heap.size wr w' → w'.cell? ⟨gb, 0, none⟩ = some (.slice A0 w.ms.length c0) ∧ w'.cell? ⟨gb, 1, none⟩ = some (.slice (some ⟨b1, o1, none⟩) 6 c1) ∧ w'.cell? ⟨gb, 2, none⟩ = some (.slice (some ⟨b2, o2, none⟩) 6 c2) ∧ w'.cell? ⟨b1, o1 + k * 3, none⟩ = some (.int .i64 v.p) ∧ w'.cell? ⟨b1, o1 + k * 3 + 1, none⟩ = some (.int .i64 v.b) ∧ w'.cell? ⟨b1, o1 + k * 3 + 2, none⟩ = some (.string v.v) ∧ w'.cell? ⟨b2, o2 + k * 7, none⟩ = some (.int .u8 t.ph) ∧ w'.cell? ⟨b2, o2 + k * 7 + 1, none⟩ = some (.int .i64 t.ba) ∧ w'.cell? ⟨b2, o2 + k * 7 + 2, none⟩ = some (.slice B n c) ∧ w'.cell? ⟨b2, o2 + k * 7 + 3, none⟩ = some (.string t.wi) ∧ w'.cell? ⟨b2, o2 + k * 7 + 4, none⟩ = some (.string t.va) ∧ w'.cell? ⟨b2, o2 + k * 7 + 5, none⟩ = some (.slice C m d) ∧ w'.cell? ⟨b2, o2 + k * 7 + 6, none⟩ = some (.slice D q f) := fun w' hb => by
        obtain ⟨⟨x0, x1, x2, x3, x4⟩, _⟩ := (hx.below hb hx.lt).five
        exact ⟨x0, x1, x2, (hb.cell hb1).trans v0, (hb.cell hb1).trans v1, (hb.cell hb1).trans v2, (hb.cell hb2).trans t0, (hb.cell hb2).trans t1, (hb.cell hb2).trans t2, (hb.cell hb2).trans t3, (hb.cell hb2).trans t4, (hb.cell hb2).trans t5, (hb.cell hb2).trans t6⟩
      have HSS := Lib.hid hS
      have i0 : (0 : Int) ≤ (k : Int) := by omega
      have i1 : (k : Int) < 6 := by omega
      clear hS hx v0 v1 v2 t0 t1 t2 t3 t4 t5 t6 r1 r2 r3 hat htf hV hT q1 q2 q3 q4 q5 hn hb1 hb2 HBX
      rcases hy with ⟨hok, rfl⟩ | ⟨hok, rfl⟩
      rotate_left
      · rw [decide_eq_false hok, Bool.false_and] at hre
        have HRE := Lib.hid hre
        have HRB := Lib.hid HR.out.1
        clear hok hre HR HR1 HT
        go_upto_region 6 with (fail)
        refine wp_region_held_drew (S := fun w' => w'.cell? ⟨gb, 0, none⟩ = some (.slice A0 w.ms.length c0) ∧ w'.cell? ⟨gb, 1, none⟩ = some (.slice (some ⟨b1, o1, none⟩) 6 c1) ∧ w'.cell? ⟨gb, 2, none⟩ = some (.slice (some ⟨b2, o2, none⟩) 6 c2) ∧ w'.cell? ⟨b1, o1 + k * 3, none⟩ = some (.int .i64 v.p) ∧ w'.cell? ⟨b1, o1 + k * 3 + 1, none⟩ = some (.int .i64 v.b) ∧ w'.cell? ⟨b1, o1 + k * 3 + 2, none⟩ = some (.string v.v) ∧ w'.cell? ⟨b2, o2 + k * 7, none⟩ = some (.int .u8 t.ph) ∧ w'.cell? ⟨b2, o2 + k * 7 + 1, none⟩ = some (.int .i64 t.ba) ∧ w'.cell? ⟨b2, o2 + k * 7 + 2, none⟩ = some (.slice B n c) ∧ w'.cell? ⟨b2, o2 + k * 7 + 3, none⟩ = some (.string t.wi) ∧ w'.cell? ⟨b2, o2 + k * 7 + 4, none⟩ = some (.string t.va) ∧ w'.cell? ⟨b2, o2 + k * 7 + 5, none⟩ = some (.slice C m d) ∧ w'.cell? ⟨b2, o2 + k * 7 + 6, none⟩ = some (.slice D q f)) (by kernel_rfl) (HSS.out _ ((Below.refl _ _).drew)) (fun hHeld => ?_)
        refine wpAnyH_take (i := 0) (v := ?_) rfl (by kernel_rfl) (by kernel_rfl) (by kernel_rfl) (fun _ _ _ h => h) (Or.inl ⟨by rfl, ?_⟩) (by assumption) ?_
        rotate_left
        · intro w' hSw
          (try dsimp only at hSw)
          go_simp
          all_goals (with_reducible rfl)
        try simp only [Act.put, List.setIfInBounds_toArray, List.set_cons_zero, List.set_cons_succ, List.getElem_toArray, List.getElem_cons_zero, List.getElem_cons_succ]
        refine wpAnyH_take (i := 1) (v := ?_) rfl (by kernel_rfl) (by kernel_rfl) (by kernel_rfl) (fun _ _ _ h => h) (Or.inl ⟨by rfl, ?_⟩) (by assumption) ?_
        rotate_left
        · intro w' hSw
          (try dsimp only at hSw)
          go_simp
          all_goals (with_reducible rfl)
        try simp only [Act.put, List.setIfInBounds_toArray, List.set_cons_zero, List.set_cons_succ, List.getElem_toArray, List.getElem_cons_zero, List.getElem_cons_succ]
        refine wpAnyH_take (i := 2) (v := ?_) rfl (by kernel_rfl) (by kernel_rfl) (by kernel_rfl) (fun _ _ _ h => h) (Or.inl ⟨by rfl, ?_⟩) (by assumption) ?_
        rotate_left
        · intro w' hSw
          (try dsimp only at hSw)
          go_simp
          all_goals (with_reducible rfl)
        try simp only [Act.put, List.setIfInBounds_toArray, List.set_cons_zero, List.set_cons_succ, List.getElem_toArray, List.getElem_cons_zero, List.getElem_cons_succ]
        refine wpAnyH_take (i := 3) (v := ?_) rfl (by kernel_rfl) (by kernel_rfl) (by kernel_rfl) (fun _ _ _ h => h) (Or.inl ⟨by rfl, ?_⟩) (by assumption) ?_
        rotate_left
        · intro w' hSw
          (try dsimp only at hSw)
          go_simp
          all_goals (with_reducible rfl)
        try simp only [Act.put, List.setIfInBounds_toArray, List.set_cons_zero, List.set_cons_succ, List.getElem_toArray, List.getElem_cons_zero, List.getElem_cons_succ]
        refine wpAnyH_take (i := 4) (v := ?_) rfl (by kernel_rfl) (by kernel_rfl) (by kernel_rfl) (fun _ _ _ h => h) (Or.inl ⟨by rfl, ?_⟩) (by assumption) ?_
        rotate_left
        · intro w' hSw
          (try dsimp only at hSw)
          go_simp
          all_goals (with_reducible rfl)
        try simp only [Act.put, List.setIfInBounds_toArray, List.set_cons_zero, List.set_cons_succ, List.getElem_toArray, List.getElem_cons_zero, List.getElem_cons_succ]
        refine wpAnyH_ready (rs := [5]) (by kernel_rfl) (by simp) ?_
        refine AllReadyH.cons rfl (fun K hK => ?_) AllReadyH.nil
        go_simp
        refine (HV.out _).mono ?_
        rintro e wa ⟨rfl, ha⟩
        have bb1 : Below wr.heap.size wr wa := bmore ((Below.refl _ _).drew) ha (Nat.le_refl _)
        refine hK.out _ _ (HSS.out _ bb1) (fun hHeld => ?_)
        clear hK
        try simp only [Act.put, List.setIfInBounds_toArray, List.set_cons_zero, List.set_cons_succ, List.getElem_toArray, List.getElem_cons_zero, List.getElem_cons_succ]
        refine wpAnyH_take (i := 6) (v := ?_) rfl (by kernel_rfl) (by kernel_rfl) (by kernel_rfl) (fun _ _ _ h => h) (Or.inl ⟨by rfl, ?_⟩) (by assumption) ?_
        rotate_left
        · intro w' hSw
          (try dsimp only at hSw)
          go_simp
          all_goals (with_reducible rfl)
        try simp only [Act.put, List.setIfInBounds_toArray, List.set_cons_zero, List.set_cons_succ, List.getElem_toArray, List.getElem_cons_zero, List.getElem_cons_succ]
        refine wpAnyH_take (i := 7) (v := ?_) rfl (by kernel_rfl) (by kernel_rfl) (by kernel_rfl) (fun _ _ _ h => h) (Or.inl ⟨by rfl, ?_⟩) (by assumption) ?_
        rotate_left
        · intro w' hSw
          (try dsimp only at hSw)
          go_simp
          all_goals (with_reducible rfl)
        try simp only [Act.put, List.setIfInBounds_toArray, List.set_cons_zero, List.set_cons_succ, List.getElem_toArray, List.getElem_cons_zero, List.getElem_cons_succ]
        refine wpAnyH_take (i := 8) (v := undef) rfl (by kernel_rfl) (by kernel_rfl) (by kernel_rfl) (fun _ _ _ h => h) (Or.inr ⟨by rfl, rfl⟩) (by assumption) ?_
        try simp only [Act.put, List.setIfInBounds_toArray, List.set_cons_zero, List.set_cons_succ, List.getElem_toArray, List.getElem_cons_zero, List.getElem_cons_succ]
        refine wpAnyH_take (i := 9) (v := undef) rfl (by kernel_rfl) (by kernel_rfl) (by kernel_rfl) (fun _ _ _ h => h) (Or.inr ⟨by rfl, rfl⟩) (by assumption) ?_
        try simp only [Act.put, List.setIfInBounds_toArray, List.set_cons_zero, List.set_cons_succ, List.getElem_toArray, List.getElem_cons_zero, List.getElem_cons_succ]
        refine wpAnyH_take (i := 10) (v := undef) rfl (by kernel_rfl) (by kernel_rfl) (by kernel_rfl) (fun _ _ _ h => h) (Or.inr ⟨by rfl, rfl⟩) (by assumption) ?_
        try simp only [Act.put, List.setIfInBounds_toArray, List.set_cons_zero, List.set_cons_succ, List.getElem_toArray, List.getElem_cons_zero, List.getElem_cons_succ]
        refine wpAnyH_take (i := 11) (v := undef) rfl (by kernel_rfl) (by kernel_rfl) (by kernel_rfl) (fun _ _ _ h => h) (Or.inr ⟨by rfl, rfl⟩) (by assumption) ?_
        try simp only [Act.put, List.setIfInBounds_toArray, List.set_cons_zero, List.set_cons_succ, List.getElem_toArray, List.getElem_cons_zero, List.getElem_cons_succ]
        refine wpAnyH_take (i := 12) (v := undef) rfl (by kernel_rfl) (by kernel_rfl) (by kernel_rfl) (fun _ _ _ h => h) (Or.inr ⟨by rfl, rfl⟩) (by assumption) ?_
        try simp only [Act.put, List.setIfInBounds_toArray, List.set_cons_zero, List.set_cons_succ, List.getElem_toArray, List.getElem_cons_zero, List.getElem_cons_succ]
        refine wpAnyH_take (i := 13) (v := undef) rfl (by kernel_rfl) (by kernel_rfl) (by kernel_rfl) (fun _ _ _ h => h) (Or.inr ⟨by rfl, rfl⟩) (by assumption) ?_
        try simp only [Act.put, List.setIfInBounds_toArray, List.set_cons_zero, List.set_cons_succ, List.getElem_toArray, List.getElem_cons_zero, List.getElem_cons_succ]
        refine wpAnyH_take (i := 14) (v := undef) rfl (by kernel_rfl) (by kernel_rfl) (by kernel_rfl) (fun _ _ _ h => h) (Or.inr ⟨by rfl, rfl⟩) (by assumption) ?_
        try simp only [Act.put, List.setIfInBounds_toArray, List.set_cons_zero, List.set_cons_succ, List.getElem_toArray, List.getElem_cons_zero, List.getElem_cons_succ]
        refine wpAnyH_take (i := 15) (v := undef) rfl (by kernel_rfl) (by kernel_rfl) (by kernel_rfl) (fun _ _ _ h => h) (Or.inr ⟨by rfl, rfl⟩) (by assumption) ?_
        try simp only [Act.put, List.setIfInBounds_toArray, List.set_cons_zero, List.set_cons_succ, List.getElem_toArray, List.getElem_cons_zero, List.getElem_cons_succ]
        refine wpAnyH_take (i := 16) (v := undef) rfl (by kernel_rfl) (by kernel_rfl) (by kernel_rfl) (fun _ _ _ h => h) (Or.inr ⟨by rfl, rfl⟩) (by assumption) ?_
        try simp only [Act.put, List.setIfInBounds_toArray, List.set_cons_zero, List.set_cons_succ, List.getElem_toArray, List.getElem_cons_zero, List.getElem_cons_succ]
        refine wpAnyH_take (i := 17) (v := undef) rfl (by kernel_rfl) (by kernel_rfl) (by kernel_rfl) (fun _ _ _ h => h) (Or.inr ⟨by rfl, rfl⟩) (by assumption) ?_
        try simp only [Act.put, List.setIfInBounds_toArray, List.set_cons_zero, List.set_cons_succ, List.getElem_toArray, List.getElem_cons_zero, List.getElem_cons_succ]
        refine wpAnyH_take (i := 18) (v := ?_) rfl (by kernel_rfl) (by kernel_rfl) (by kernel_rfl) (fun _ _ _ h => h) (Or.inl ⟨by rfl, ?_⟩) (by assumption) ?_
        rotate_left
        · intro w' hSw
          (try dsimp only at hSw)
          go_simp
          all_goals (with_reducible rfl)
        try simp only [Act.put, List.setIfInBounds_toArray, List.set_cons_zero, List.set_cons_succ, List.getElem_toArray, List.getElem_cons_zero, List.getElem_cons_succ]
        refine wpAnyH_done (by kernel_rfl) ?_ _
        go_wp2_with fail
        go_ret
        exact bool_ret HRE.out (bmore HRB.out bb1 (Nat.le_refl _))
      rw [decide_eq_true hok, Bool.true_and] at hre
      generalize decide (DC.MayT w.ms (k : Int) t) = z at hre HT
      rcases z with _ | _
      · rw [Bool.false_and] at hre
        have HRE := Lib.hid hre
        have HRB := Lib.hid HR.out.1
        clear hok hre HR HR1
        go_upto_region 6 with (fail)
        refine wp_region_held_drew (S := fun w' => w'.cell? ⟨gb, 0, none⟩ = some (.slice A0 w.ms.length c0) ∧ w'.cell? ⟨gb, 1, none⟩ = some (.slice (some ⟨b1, o1, none⟩) 6 c1) ∧ w'.cell? ⟨gb, 2, none⟩ = some (.slice (some ⟨b2, o2, none⟩) 6 c2) ∧ w'.cell? ⟨b1, o1 + k * 3, none⟩ = some (.int .i64 v.p) ∧ w'.cell? ⟨b1, o1 + k * 3 + 1, none⟩ = some (.int .i64 v.b) ∧ w'.cell? ⟨b1, o1 + k * 3 + 2, none⟩ = some (.string v.v) ∧ w'.cell? ⟨b2, o2 + k * 7, none⟩ = some (.int .u8 t.ph) ∧ w'.cell? ⟨b2, o2 + k * 7 + 1, none⟩ = some (.int .i64 t.ba) ∧ w'.cell? ⟨b2, o2 + k * 7 + 2, none⟩ = some (.slice B n c) ∧ w'.cell? ⟨b2, o2 + k * 7 + 3, none⟩ = some (.string t.wi) ∧ w'.cell? ⟨b2, o2 + k * 7 + 4, none⟩ = some (.string t.va) ∧ w'.cell? ⟨b2, o2 + k * 7 + 5, none⟩ = some (.slice C m d) ∧ w'.cell? ⟨b2, o2 + k * 7 + 6, none⟩ = some (.slice D q f)) (by kernel_rfl) (HSS.out _ ((Below.refl _ _).drew)) (fun hHeld => ?_)
        refine wpAnyH_take (i := 0) (v := ?_) rfl (by kernel_rfl) (by kernel_rfl) (by kernel_rfl) (fun _ _ _ h => h) (Or.inl ⟨by rfl, ?_⟩) (by assumption) ?_
        rotate_left
        · intro w' hSw
          (try dsimp only at hSw)
          go_simp
          all_goals (with_reducible rfl)
        try simp only [Act.put, List.setIfInBounds_toArray, List.set_cons_zero, List.set_cons_succ, List.getElem_toArray, List.getElem_cons_zero, List.getElem_cons_succ]
        refine wpAnyH_take (i := 1) (v := ?_) rfl (by kernel_rfl) (by kernel_rfl) (by kernel_rfl) (fun _ _ _ h => h) (Or.inl ⟨by rfl, ?_⟩) (by assumption) ?_
        rotate_left
        · intro w' hSw
          (try dsimp only at hSw)
          go_simp
          all_goals (with_reducible rfl)
        try simp only [Act.put, List.setIfInBounds_toArray, List.set_cons_zero, List.set_cons_succ, List.getElem_toArray, List.getElem_cons_zero, List.getElem_cons_succ]
        refine wpAnyH_take (i := 2) (v := ?_) rfl (by kernel_rfl) (by kernel_rfl) (by kernel_rfl) (fun _ _ _ h => h) (Or.inl ⟨by rfl, ?_⟩) (by assumption) ?_
        rotate_left
        · intro w' hSw
          (try dsimp only at hSw)
          go_simp
          all_goals (with_reducible rfl)
        try simp only [Act.put, List.setIfInBounds_toArray, List.set_cons_zero, List.set_cons_succ, List.getElem_toArray, List.getElem_cons_zero, List.getElem_cons_succ]
        refine wpAnyH_take (i := 3) (v := ?_) rfl (by kernel_rfl) (by kernel_rfl) (by kernel_rfl) (fun _ _ _ h => h) (Or.inl ⟨by rfl, ?_⟩) (by assumption) ?_
        rotate_left
        · intro w' hSw
          (try dsimp only at hSw)
          go_simp
          all_goals (with_reducible rfl)
        try simp only [Act.put, List.setIfInBounds_toArray, List.set_cons_zero, List.set_cons_succ, List.getElem_toArray, List.getElem_cons_zero, List.getElem_cons_succ]
        refine wpAnyH_take (i := 4) (v := ?_) rfl (by kernel_rfl) (by kernel_rfl) (by kernel_rfl) (fun _ _ _ h => h) (Or.inl ⟨by rfl, ?_⟩) (by assumption) ?_
        rotate_left
        · intro w' hSw
          (try dsimp only at hSw)
          go_simp
          all_goals (with_reducible rfl)
        try simp only [Act.put, List.setIfInBounds_toArray, List.set_cons_zero, List.set_cons_succ, List.getElem_toArray, List.getElem_cons_zero, List.getElem_cons_succ]
        refine wpAnyH_ready (rs := [5]) (by kernel_rfl) (by simp) ?_
        refine AllReadyH.cons rfl (fun K hK => ?_) AllReadyH.nil
        go_simp
        refine (HV.out _).mono ?_
        rintro e wa ⟨rfl, ha⟩
        have bb1 : Below wr.heap.size wr wa := bmore ((Below.refl _ _).drew) ha (Nat.le_refl _)
        refine hK.out _ _ (HSS.out _ bb1) (fun hHeld => ?_)
        clear hK
        try simp only [Act.put, List.setIfInBounds_toArray, List.set_cons_zero, List.set_cons_succ, List.getElem_toArray, List.getElem_cons_zero, List.getElem_cons_succ]
        refine wpAnyH_take (i := 6) (v := ?_) rfl (by kernel_rfl) (by kernel_rfl) (by kernel_rfl) (fun _ _ _ h => h) (Or.inl ⟨by rfl, ?_⟩) (by assumption) ?_
        rotate_left
        · intro w' hSw
          (try dsimp only at hSw)
          go_simp
          all_goals (with_reducible rfl)
        try simp only [Act.put, List.setIfInBounds_toArray, List.set_cons_zero, List.set_cons_succ, List.getElem_toArray, List.getElem_cons_zero, List.getElem_cons_succ]
        refine wpAnyH_take (i := 7) (v := ?_) rfl (by kernel_rfl) (by kernel_rfl) (by kernel_rfl) (fun _ _ _ h => h) (Or.inl ⟨by rfl, ?_⟩) (by assumption) ?_
        rotate_left
        · intro w' hSw
          (try dsimp only at hSw)
          go_simp
          all_goals (with_reducible rfl)
        try simp only [Act.put, List.setIfInBounds_toArray, List.set_cons_zero, List.set_cons_succ, List.getElem_toArray, List.getElem_cons_zero, List.getElem_cons_succ]
        refine wpAnyH_take (i := 8) (v := ?_) rfl (by kernel_rfl) (by kernel_rfl) (by kernel_rfl) (fun _ _ _ h => h) (Or.inl ⟨by rfl, ?_⟩) (by assumption) ?_
        rotate_left
        · intro w' hSw
          (try dsimp only at hSw)
          go_simp
          all_goals (with_reducible rfl)
        try simp only [Act.put, List.setIfInBounds_toArray, List.set_cons_zero, List.set_cons_succ, List.getElem_toArray, List.getElem_cons_zero, List.getElem_cons_succ]
        refine wpAnyH_take (i := 9) (v := ?_) rfl (by kernel_rfl) (by kernel_rfl) (by kernel_rfl) (fun _ _ _ h => h) (Or.inl ⟨by rfl, ?_⟩) (by assumption) ?_
        rotate_left
        · intro w' hSw
          (try dsimp only at hSw)
          go_simp
          all_goals (with_reducible rfl)
        try simp only [Act.put, List.setIfInBounds_toArray, List.set_cons_zero, List.set_cons_succ, List.getElem_toArray, List.getElem_cons_zero, List.getElem_cons_succ]
        refine wpAnyH_take (i := 10) (v := ?_) rfl (by kernel_rfl) (by kernel_rfl) (by kernel_rfl) (fun _ _ _ h => h) (Or.inl ⟨by rfl, ?_⟩) (by assumption) ?_
        rotate_left
        · intro w' hSw
          (try dsimp only at hSw)
          go_simp
          all_goals (with_reducible rfl)
        try simp only [Act.put, List.setIfInBounds_toArray, List.set_cons_zero, List.set_cons_succ, List.getElem_toArray, List.getElem_cons_zero, List.getElem_cons_succ]
        refine wpAnyH_take (i := 11) (v := ?_) rfl (by kernel_rfl) (by kernel_rfl) (by kernel_rfl) (fun _ _ _ h => h) (Or.inl ⟨by rfl, ?_⟩) (by assumption) ?_
        rotate_left
        · intro w' hSw
          (try dsimp only at hSw)
          go_simp
          all_goals (with_reducible rfl)
        try simp only [Act.put, List.setIfInBounds_toArray, List.set_cons_zero, List.set_cons_succ, List.getElem_toArray, List.getElem_cons_zero, List.getElem_cons_succ]
        refine wpAnyH_take (i := 12) (v := ?_) rfl (by kernel_rfl) (by kernel_rfl) (by kernel_rfl) (fun _ _ _ h => h) (Or.inl ⟨by rfl, ?_⟩) (by assumption) ?_
        rotate_left
        · intro w' hSw
          (try dsimp only at hSw)
          go_simp
          all_goals (with_reducible rfl)
        try simp only [Act.put, List.setIfInBounds_toArray, List.set_cons_zero, List.set_cons_succ, List.getElem_toArray, List.getElem_cons_zero, List.getElem_cons_succ]
        refine wpAnyH_take (i := 13) (v := ?_) rfl (by kernel_rfl) (by kernel_rfl) (by kernel_rfl) (fun _ _ _ h => h) (Or.inl ⟨by rfl, ?_⟩) (by assumption) ?_
        rotate_left
        · intro w' hSw
          (try dsimp only at hSw)
          go_simp
          all_goals (with_reducible rfl)
        try simp only [Act.put, List.setIfInBounds_toArray, List.set_cons_zero, List.set_cons_succ, List.getElem_toArray, List.getElem_cons_zero, List.getElem_cons_succ]
        refine wpAnyH_take (i := 14) (v := ?_) rfl (by kernel_rfl) (by kernel_rfl) (by kernel_rfl) (fun _ _ _ h => h) (Or.inl ⟨by rfl, ?_⟩) (by assumption) ?_
        rotate_left
        · intro w' hSw
          (try dsimp only at hSw)
          go_simp
          all_goals (with_reducible rfl)
        try simp only [Act.put, List.setIfInBounds_toArray, List.set_cons_zero, List.set_cons_succ, List.getElem_toArray, List.getElem_cons_zero, List.getElem_cons_succ]
        refine wpAnyH_take (i := 15) (v := ?_) rfl (by kernel_rfl) (by kernel_rfl) (by kernel_rfl) (fun _ _ _ h => h) (Or.inl ⟨by rfl, ?_⟩) (by assumption) ?_
        rotate_left
        · intro w' hSw
          (try dsimp only at hSw)
          go_simp
          all_goals (with_reducible rfl)
        try simp only [Act.put, List.setIfInBounds_toArray, List.set_cons_zero, List.set_cons_succ, List.getElem_toArray, List.getElem_cons_zero, List.getElem_cons_succ]
        refine wpAnyH_ready (rs := [16]) (by kernel_rfl) (by simp) ?_
        refine AllReadyH.cons rfl (fun K hK => ?_) AllReadyH.nil
        go_simp
        refine (HT.out _ bb1).mono ?_
        rintro e wb ⟨rfl, hb⟩
        have bb2 : Below wr.heap.size wr wb := bmore bb1 hb (Nat.le_refl _)
        refine hK.out _ _ (HSS.out _ bb2) (fun hHeld => ?_)
        clear hK
        try simp only [Act.put, List.setIfInBounds_toArray, List.set_cons_zero, List.set_cons_succ, List.getElem_toArray, List.getElem_cons_zero, List.getElem_cons_succ]
        refine wpAnyH_take (i := 17) (v := ?_) rfl (by kernel_rfl) (by kernel_rfl) (by kernel_rfl) (fun _ _ _ h => h) (Or.inl ⟨by rfl, ?_⟩) (by assumption) ?_
        rotate_left
        · intro w' hSw
          (try dsimp only at hSw)
          go_simp
          all_goals (with_reducible rfl)
        try simp only [Act.put, List.setIfInBounds_toArray, List.set_cons_zero, List.set_cons_succ, List.getElem_toArray, List.getElem_cons_zero, List.getElem_cons_succ]
        refine wpAnyH_take (i := 18) (v := ?_) rfl (by kernel_rfl) (by kernel_rfl) (by kernel_rfl) (fun _ _ _ h => h) (Or.inl ⟨by rfl, ?_⟩) (by assumption) ?_
        rotate_left
        · intro w' hSw
          (try dsimp only at hSw)
          go_simp
          all_goals (with_reducible rfl)
        try simp only [Act.put, List.setIfInBounds_toArray, List.set_cons_zero, List.set_cons_succ, List.getElem_toArray, List.getElem_cons_zero, List.getElem_cons_succ]
        refine wpAnyH_done (by kernel_rfl) ?_ _
        go_wp2_with fail
        go_ret
        exact bool_ret HRE.out (bmore HRB.out bb2 (Nat.le_refl _))
      · rw [Bool.true_and] at hre
        have HRE := Lib.hid hre
        have HRB := Lib.hid HR.out.1
        clear hok hre HR
        go_upto_region 6 with (fail)
        refine wp_region_held_drew (S := fun w' => w'.cell? ⟨gb, 0, none⟩ = some (.slice A0 w.ms.length c0) ∧ w'.cell? ⟨gb, 1, none⟩ = some (.slice (some ⟨b1, o1, none⟩) 6 c1) ∧ w'.cell? ⟨gb, 2, none⟩ = some (.slice (some ⟨b2, o2, none⟩) 6 c2) ∧ w'.cell? ⟨b1, o1 + k * 3, none⟩ = some (.int .i64 v.p) ∧ w'.cell? ⟨b1, o1 + k * 3 + 1, none⟩ = some (.int .i64 v.b) ∧ w'.cell? ⟨b1, o1 + k * 3 + 2, none⟩ = some (.string v.v) ∧ w'.cell? ⟨b2, o2 + k * 7, none⟩ = some (.int .u8 t.ph) ∧ w'.cell? ⟨b2, o2 + k * 7 + 1, none⟩ = some (.int .i64 t.ba) ∧ w'.cell? ⟨b2, o2 + k * 7 + 2, none⟩ = some (.slice B n c) ∧ w'.cell? ⟨b2, o2 + k * 7 + 3, none⟩ = some (.string t.wi) ∧ w'.cell? ⟨b2, o2 + k * 7 + 4, none⟩ = some (.string t.va) ∧ w'.cell? ⟨b2, o2 + k * 7 + 5, none⟩ = some (.slice C m d) ∧ w'.cell? ⟨b2, o2 + k * 7 + 6, none⟩ = some (.slice D q f)) (by kernel_rfl) (HSS.out _ ((Below.refl _ _).drew)) (fun hHeld => ?_)
        refine wpAnyH_take (i := 0) (v := ?_) rfl (by kernel_rfl) (by kernel_rfl) (by kernel_rfl) (fun _ _ _ h => h) (Or.inl ⟨by rfl, ?_⟩) (by assumption) ?_
        rotate_left
        · intro w' hSw
          (try dsimp only at hSw)
          go_simp
          all_goals (with_reducible rfl)
        try simp only [Act.put, List.setIfInBounds_toArray, List.set_cons_zero, List.set_cons_succ, List.getElem_toArray, List.getElem_cons_zero, List.getElem_cons_succ]
        refine wpAnyH_take (i := 1) (v := ?_) rfl (by kernel_rfl) (by kernel_rfl) (by kernel_rfl) (fun _ _ _ h => h) (Or.inl ⟨by rfl, ?_⟩) (by assumption) ?_
        rotate_left
        · intro w' hSw
          (try dsimp only at hSw)
          go_simp
          all_goals (with_reducible rfl)
        try simp only [Act.put, List.setIfInBounds_toArray, List.set_cons_zero, List.set_cons_succ, List.getElem_toArray, List.getElem_cons_zero, List.getElem_cons_succ]
        refine wpAnyH_take (i := 2) (v := ?_) rfl (by kernel_rfl) (by kernel_rfl) (by kernel_rfl) (fun _ _ _ h => h) (Or.inl ⟨by rfl, ?_⟩) (by assumption) ?_
        rotate_left
        · intro w' hSw
          (try dsimp only at hSw)
          go_simp
          all_goals (with_reducible rfl)
        try simp only [Act.put, List.setIfInBounds_toArray, List.set_cons_zero, List.set_cons_succ, List.getElem_toArray, List.getElem_cons_zero, List.getElem_cons_succ]
        refine wpAnyH_take (i := 3) (v := ?_) rfl (by kernel_rfl) (by kernel_rfl) (by kernel_rfl) (fun _ _ _ h => h) (Or.inl ⟨by rfl, ?_⟩) (by assumption) ?_
        rotate_left
        · intro w' hSw
          (try dsimp only at hSw)
          go_simp
          all_goals (with_reducible rfl)
        try simp only [Act.put, List.setIfInBounds_toArray, List.set_cons_zero, List.set_cons_succ, List.getElem_toArray, List.getElem_cons_zero, List.getElem_cons_succ]
        refine wpAnyH_take (i := 4) (v := ?_) rfl (by kernel_rfl) (by kernel_rfl) (by kernel_rfl) (fun _ _ _ h => h) (Or.inl ⟨by rfl, ?_⟩) (by assumption) ?_
        rotate_left
        · intro w' hSw
          (try dsimp only at hSw)
          go_simp
          all_goals (with_reducible rfl)
        try simp only [Act.put, List.setIfInBounds_toArray, List.set_cons_zero, List.set_cons_succ, List.getElem_toArray, List.getElem_cons_zero, List.getElem_cons_succ]
        refine wpAnyH_ready (rs := [5]) (by kernel_rfl) (by simp) ?_
        refine AllReadyH.cons rfl (fun K hK => ?_) AllReadyH.nil
        go_simp
        refine (HV.out _).mono ?_
        rintro e wa ⟨rfl, ha⟩
        have bb1 : Below wr.heap.size wr wa := bmore ((Below.refl _ _).drew) ha (Nat.le_refl _)
        refine hK.out _ _ (HSS.out _ bb1) (fun hHeld => ?_)
        clear hK
        try simp only [Act.put, List.setIfInBounds_toArray, List.set_cons_zero, List.set_cons_succ, List.getElem_toArray, List.getElem_cons_zero, List.getElem_cons_succ]
        refine wpAnyH_take (i := 6) (v := ?_) rfl (by kernel_rfl) (by kernel_rfl) (by kernel_rfl) (fun _ _ _ h => h) (Or.inl ⟨by rfl, ?_⟩) (by assumption) ?_
        rotate_left
        · intro w' hSw
          (try dsimp only at hSw)
          go_simp
          all_goals (with_reducible rfl)
        try simp only [Act.put, List.setIfInBounds_toArray, List.set_cons_zero, List.set_cons_succ, List.getElem_toArray, List.getElem_cons_zero, List.getElem_cons_succ]
        refine wpAnyH_take (i := 7) (v := ?_) rfl (by kernel_rfl) (by kernel_rfl) (by kernel_rfl) (fun _ _ _ h => h) (Or.inl ⟨by rfl, ?_⟩) (by assumption) ?_
        rotate_left
        · intro w' hSw
          (try dsimp only at hSw)
          go_simp
          all_goals (with_reducible rfl)
        try simp only [Act.put, List.setIfInBounds_toArray, List.set_cons_zero, List.set_cons_succ, List.getElem_toArray, List.getElem_cons_zero, List.getElem_cons_succ]
        refine wpAnyH_take (i := 8) (v := ?_) rfl (by kernel_rfl) (by kernel_rfl) (by kernel_rfl) (fun _ _ _ h => h) (Or.inl ⟨by rfl, ?_⟩) (by assumption) ?_
        rotate_left
        · intro w' hSw
          (try dsimp only at hSw)
          go_simp
          all_goals (with_reducible rfl)
        try simp only [Act.put, List.setIfInBounds_toArray, List.set_cons_zero, List.set_cons_succ, List.getElem_toArray, List.getElem_cons_zero, List.getElem_cons_succ]
        refine wpAnyH_take (i := 9) (v := ?_) rfl (by kernel_rfl) (by kernel_rfl) (by kernel_rfl) (fun _ _ _ h => h) (Or.inl ⟨by rfl, ?_⟩) (by assumption) ?_
        rotate_left
        · intro w' hSw
          (try dsimp only at hSw)
          go_simp
          all_goals (with_reducible rfl)
        try simp only [Act.put, List.setIfInBounds_toArray, List.set_cons_zero, List.set_cons_succ, List.getElem_toArray, List.getElem_cons_zero, List.getElem_cons_succ]
        refine wpAnyH_take (i := 10) (v := ?_) rfl (by kernel_rfl) (by kernel_rfl) (by kernel_rfl) (fun _ _ _ h => h) (Or.inl ⟨by rfl, ?_⟩) (by assumption) ?_
        rotate_left
        · intro w' hSw
          (try dsimp only at hSw)
          go_simp
          all_goals (with_reducible rfl)
        try simp only [Act.put, List.setIfInBounds_toArray, List.set_cons_zero, List.set_cons_succ, List.getElem_toArray, List.getElem_cons_zero, List.getElem_cons_succ]
        refine wpAnyH_take (i := 11) (v := ?_) rfl (by kernel_rfl) (by kernel_rfl) (by kernel_rfl) (fun _ _ _ h => h) (Or.inl ⟨by rfl, ?_⟩) (by assumption) ?_
        rotate_left
        · intro w' hSw
          (try dsimp only at hSw)
          go_simp
          all_goals (with_reducible rfl)
        try simp only [Act.put, List.setIfInBounds_toArray, List.set_cons_zero, List.set_cons_succ, List.getElem_toArray, List.getElem_cons_zero, List.getElem_cons_succ]
        refine wpAnyH_take (i := 12) (v := ?_) rfl (by kernel_rfl) (by kernel_rfl) (by kernel_rfl) (fun _ _ _ h => h) (Or.inl ⟨by rfl, ?_⟩) (by assumption) ?_
        rotate_left
        · intro w' hSw
          (try dsimp only at hSw)
          go_simp
          all_goals (with_reducible rfl)
        try simp only [Act.put, List.setIfInBounds_toArray, List.set_cons_zero, List.set_cons_succ, List.getElem_toArray, List.getElem_cons_zero, List.getElem_cons_succ]
        refine wpAnyH_take (i := 13) (v := ?_) rfl (by kernel_rfl) (by kernel_rfl) (by kernel_rfl) (fun _ _ _ h => h) (Or.inl ⟨by rfl, ?_⟩) (by assumption) ?_
        rotate_left
        · intro w' hSw
          (try dsimp only at hSw)
          go_simp
          all_goals (with_reducible rfl)
        try simp only [Act.put, List.setIfInBounds_toArray, List.set_cons_zero, List.set_cons_succ, List.getElem_toArray, List.getElem_cons_zero, List.getElem_cons_succ]
        refine wpAnyH_take (i := 14) (v := ?_) rfl (by kernel_rfl) (by kernel_rfl) (by kernel_rfl) (fun _ _ _ h => h) (Or.inl ⟨by rfl, ?_⟩) (by assumption) ?_
        rotate_left
        · intro w' hSw
          (try dsimp only at hSw)
          go_simp
          all_goals (with_reducible rfl)
        try simp only [Act.put, List.setIfInBounds_toArray, List.set_cons_zero, List.set_cons_succ, List.getElem_toArray, List.getElem_cons_zero, List.getElem_cons_succ]
        refine wpAnyH_take (i := 15) (v := ?_) rfl (by kernel_rfl) (by kernel_rfl) (by kernel_rfl) (fun _ _ _ h => h) (Or.inl ⟨by rfl, ?_⟩) (by assumption) ?_
        rotate_left
        · intro w' hSw
          (try dsimp only at hSw)
          go_simp
          all_goals (with_reducible rfl)
        try simp only [Act.put, List.setIfInBounds_toArray, List.set_cons_zero, List.set_cons_succ, List.getElem_toArray, List.getElem_cons_zero, List.getElem_cons_succ]
        refine wpAnyH_ready (rs := [16]) (by kernel_rfl) (by simp) ?_
        refine AllReadyH.cons rfl (fun K hK => ?_) AllReadyH.nil
        go_simp
        refine (HT.out _ bb1).mono ?_
        rintro e wb ⟨rfl, hb⟩
        have bb2 : Below wr.heap.size wr wb := bmore bb1 hb (Nat.le_refl _)
        refine hK.out _ _ (HSS.out _ bb2) (fun hHeld => ?_)
        clear hK
        try simp only [Act.put, List.setIfInBounds_toArray, List.set_cons_zero, List.set_cons_succ, List.getElem_toArray, List.getElem_cons_zero, List.getElem_cons_succ]
        refine wpAnyH_take (i := 17) (v := ?_) rfl (by kernel_rfl) (by kernel_rfl) (by kernel_rfl) (fun _ _ _ h => h) (Or.inl ⟨by rfl, ?_⟩) (by assumption) ?_
        rotate_left
        · intro w' hSw
          (try dsimp only at hSw)
          go_simp
          all_goals (with_reducible rfl)
        try simp only [Act.put, List.setIfInBounds_toArray, List.set_cons_zero, List.set_cons_succ, List.getElem_toArray, List.getElem_cons_zero, List.getElem_cons_succ]
        refine wpAnyH_take (i := 18) (v := ?_) rfl (by kernel_rfl) (by kernel_rfl) (by kernel_rfl) (fun _ _ _ h => h) (Or.inl ⟨by rfl, ?_⟩) (by assumption) ?_
        rotate_left
        · intro w' hSw
          (try dsimp only at hSw)
          go_simp
          all_goals (with_reducible rfl)
        try simp only [Act.put, List.setIfInBounds_toArray, List.set_cons_zero, List.set_cons_succ, List.getElem_toArray, List.getElem_cons_zero, List.getElem_cons_succ]
        refine wpAnyH_done (by kernel_rfl) ?_ _
        go_wp2_with fail
        go_roundw
        case rel => exact ⟨k + 1, by omega, by go_num, Lib.hid ⟨bmore HRB.out bb2 (Nat.le_refl _), HRE.out⟩, Lib.hid (bmore HR1.out bb2 (Nat.le_refl _))⟩
        case measure => simp [intOf]; omega
    · obtain rfl : k = 6 := by omega
      have hd : true = r := by have := HR.out.2; simpa using this
      have HD := Lib.hid hd
      have HB := Lib.hid HR.out.1
      clear hd HR
      go_wp2_with fail
      go_ret
      exact bool_ret HD.out HB.out
end Go.Proofs.Ytiiobafcgdelmaa.PD
