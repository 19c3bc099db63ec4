/-
  AttemptTells' walk: what an attempt has to tell, behind promises that come. Conditions: what the arguments are.
-/
import Derived.Test.YtmcfamoicdmkdaaAttFar
import Derived.Test.YtmcfamoicdmkdaaAttMid
import Derived.Test.YtmcfamoicdmkdaaAttR
import Derived.Test.YtmcfamoicdmkdaaAttArg
import Derived.Deep.RegionHeld3
import Derived.Deep.DeepCutAuto
namespace Go.Proofs.Ytmcfamoicdmkdaa
open Go.RowKit
set_option linter.unusedVariables false
set_option linter.unusedSimpArgs false

set_option maxRecDepth 100000 in
set_option maxHeartbeats 4000000 in
theorem begin_err2 (A : Option Addr) (n c : Nat) (ms : List Int) (ba : Int) (wi : ByteArray) (y : Int) (w : World) (hr : Rd w A n (ic ms)) (hl : n ≤ 9223372036854775807) (b1 : -9223372036854775808 ≤ ba) (b2 : ba ≤ 9223372036854775807) (hs : wi.size ≤ maxLen) (hy : AM.BegIs ms ba wi y) (h0 : y ≠ 0) :
    Calls Try.prog 13 #[.slice A n c, .int .i64 ba, .string wi] w (ErrRet AM.zero y w) := by
  obtain ⟨W0, hW0⟩ : ∃ W0, W0 = w.alloc (.cells #[.int .u8 0, .int .i64 0, .slice none 0 0, .string ⟨#[]⟩, .string ⟨#[]⟩, .slice none 0 0, .slice none 0 0] 25) := ⟨_, rfl⟩
  have hb0 : Below w.heap.size w W0 := by rw [hW0]; exact (Below.refl _ _).alloc (Nat.le_refl _) _
  have hz0 : Box W0 w.heap.size 25 #[.int .u8 0, .int .i64 0, .slice none 0 0, .string ⟨#[]⟩, .string ⟨#[]⟩, .slice none 0 0, .slice none 0 0] := by rw [hW0]; exact Box.new _ _ _
  have HWR := Lib.hid (wrong_any A n c ms ba wi y W0 (hr.below hb0) hl b1 b2 hs hy)
  have B0 := Lib.hid hb0
  have Z0 := Lib.hid hz0
  have q1 : (y != 0) = true := by simpa using h0
  clear hr hy hb0 hz0 h0
  go_enter Try.func13, Try.ntmps13
  go_wp2_with fail
  rw [← hW0]
  clear hW0
  refine HWR.out.mono ?_
  rintro e w1 ⟨rfl, rfl⟩
  have qx := Z0.out.put7 (.int .u8 0) (.int .i64 0) (.slice none 0 0) (.string ⟨#[]⟩) (.string ⟨#[]⟩) (.slice none 0 0) (.slice none 0 0)
  have qb := below_put7 B0.out (g := w.heap.size) (by omega) (.int .u8 0) (.int .i64 0) (.slice none 0 0) (.string ⟨#[]⟩) (.string ⟨#[]⟩) (.slice none 0 0) (.slice none 0 0)
  unfold put7 at qx qb
  have HQX := Lib.hid qx
  have HQB := Lib.hid qb
  clear qx qb
  obtain ⟨⟨v0, v1, v2, v3, v4, v5, v6⟩, vf0, vf1, vf2, vf3, vf4, vf5, vf6⟩ := Z0.out.seven
  go_wp2_with fail
  obtain ⟨⟨d0, d1, d2, d3, d4, d5, d6⟩, _⟩ := HQX.out.seven
  exact bodyPost_ret (v := .tuple #[.agg #[.int .u8 0, .int .i64 0, .slice none 0 0, .string ⟨#[]⟩, .string ⟨#[]⟩, .slice none 0 0, .slice none 0 0], .int .i64 y]) (by simp [results, Try.results13, go_sem, d0, d1, d2, d3, d4, d5, d6]) rfl ⟨_, rfl, AtOwn.zero _ _, HQB.out⟩

/-- Begin of whatever members: too many of them end in its error -/
theorem begin_big (A : Option Addr) (n c : Nat) (ms : List Int) (ba : Int) (wi : ByteArray) (y : Int) (w : World) (hr : Rd w A n (ic ms)) (hn : n ≤ 9223372036854775807) (b1 : -9223372036854775808 ≤ ba) (b2 : ba ≤ 9223372036854775807) (hs : wi.size ≤ maxLen) (hy : AM.BegIs ms ba wi y) :
    Calls Try.prog 13 #[.slice A n c, .int .i64 ba, .string wi] w (ErrRet (begAt ms ba wi y) y w) := by
  by_cases h0 : y = 0
  · refine begin_any A n c ms ba wi y w hr ?_ b1 b2 hs hy
    subst h0
    have := AM.begIs_zero.1 hy
    unfold AM.okB at this
    simp only [Bool.and_eq_true] at this
    have := (QM.may_len this.1).2.1
    omega
  · rw [begAt, if_neg h0]
    exact begin_err2 A n c ms ba wi y w hr hn b1 b2 hs hy h0

/-- the word of the first loop -/
def TellRel (w : World) (g : Nat) (ms : List Int) (ba : Int) (wi : ByteArray) (wr : World) : Prop :=
  Below w.heap.size w wr ∧ w.heap.size ≤ g ∧ ∃ x A c D q C f, TellInv ms ba wi x ∧ Box wr g 25 #[.int .u8 x.ph, .int .i64 x.ba, .slice A x.ms.length c, .string x.wi, .string x.va, .slice D x.ps.length q, .slice C x.ac.length f] ∧
    AtOwn wr w.heap.size (.agg #[.int .u8 x.ph, .int .i64 x.ba, .slice A x.ms.length c, .string x.wi, .string x.va, .slice D x.ps.length q, .slice C x.ac.length f]) x
/-- the word of the third loop -/
def HitRel (ps : List AM.Pr) (G : Int) (va : ByteArray) (k : Nat) (t : Bool) : Prop := 0 < k → t = (ps.take k).any (hit G va)
theorem hit_next {ps : List AM.Pr} {G : Int} {va : ByteArray} {k : Nat} {t : Bool} {p : AM.Pr} (h : HitRel ps G va k t) (hp : ps[k]? = some p) (t' : Bool) (ht : t' = ((decide (0 < k) && t) || hit G va p)) : HitRel ps G va (k + 1) t' := by
  intro _
  have hk := (List.getElem?_eq_some_iff.1 hp).1
  rw [List.take_succ_eq_append_getElem hk, (List.getElem?_eq_some_iff.1 hp).2, List.any_append, ht]
  simp only [List.any_cons, List.any_nil, Bool.or_false]
  congr 1
  by_cases h0 : 0 < k
  · rw [← h h0]; simp [h0]
  · obtain rfl : k = 0 := by omega
    simp

set_option maxRecDepth 100000 in
set_option maxHeartbeats 20000000 in
theorem attemptTells_walk (A : Option Addr) (n c : Nat) (zs : List Int) (ba : Int) (wi : ByteArray) (B : Option Addr) (m d : Nat) (ls : List AM.Pr) (w : World) (H : IsRow .i64 w A n c zs) (hba : (Lit.int .i64 ba).wf = true) (hwi : wi.size ≤ maxLen) (HP : PrsArg w B m d ls) :
    Calls Try.prog 6 #[.slice A n c, .int .i64 ba, .string wi, .slice B m d] w fun e w' => e = .returned (.bool true) ∧ Below w.heap.size w w' := by
  have hcm := H.len_le
  have hn63 : n ≤ 9223372036854775807 := by have := hcm.2.1; unfold maxLen at this; omega
  have hm63 : m ≤ 9223372036854775807 := by have := HP.2.1; unfold maxLen at this; omega
  obtain ⟨ms, hms⟩ : ∃ ms, ms = zs.take n := ⟨_, rfl⟩
  have hr := H.ints
  rw [← hms] at hr
  have hl : ms.length = n := by have := hr.1; rwa [ic_length] at this
  have HRP := Lib.hid HP.1
  have HFP := Lib.hid HP.2.2
  obtain ⟨b1, b2⟩ := range_i64 hba
  have BB := Lib.hid (Below.refl w.heap.size w)
  clear H HP hcm hba hms
  obtain ⟨y, hy⟩ := AM.begIs_ex ms ba wi
  have HCB : Hid (∀ W, Below w.heap.size w W → Calls Try.prog 13 #[.slice A n c, .int .i64 ba, .string wi] W (ErrRet (begAt ms ba wi y) y W)) := Lib.hid fun W hb => begin_big A n c ms ba wi y W (hr.below hb) hn63 b1 b2 hwi hy
  have hfit : y = 0 → Fit (begAt ms ba wi y) := fun h0 => by
    subst h0
    have hl6 : ms.length ≤ 6 := by
      have := AM.begIs_zero.1 hy
      unfold AM.okB at this
      simp only [Bool.and_eq_true] at this
      exact (QM.may_len this.1).2.1
    unfold begAt
    rw [if_pos rfl]
    exact ⟨by simp [AM.start], by simp [AM.start], b1, b2, hwi, by simp only [AM.start]; omega, by simp [AM.start], by simp [AM.start], fun q hq => by simp [AM.start] at hq⟩
  by_cases h0 : y = 0
  rotate_left
  · have y1 : (y != 0) = true := by simpa using h0
    clear h0 hfit hy
    go_enter Try.func6, Try.ntmps6
    go_wp2_with fail
    refine (alive_any _).mono ?_
    rintro e w0 ⟨rfl, hb⟩
    replace BB := Lib.hid (bmore BB.out hb (Nat.le_refl _))
    clear hb
    go_wp2_with fail
    refine (HCB.out _ BB.out).mono ?_
    rintro e w1 ⟨v, rfl, own, hb⟩
    obtain ⟨A1, c1, D1, q1, C1, f1, rfl⟩ := own.form
    replace BB := Lib.hid (bmore BB.out (hb.alloc hb.size (.cells #[.int .u8 (begAt ms ba wi y).ph, .int .i64 (begAt ms ba wi y).ba, .slice A1 (begAt ms ba wi y).ms.length c1, .string (begAt ms ba wi y).wi, .string (begAt ms ba wi y).va, .slice D1 (begAt ms ba wi y).ps.length q1, .slice C1 (begAt ms ba wi y).ac.length f1] 25)) (Nat.le_refl _))
    generalize begAt ms ba wi y = x0 at own BB ⊢
    clear own hb
    go_wp2_with fail
    go_ret
    exact ⟨rfl, BB.out⟩
  subst h0
  have hF := hfit rfl
  have hinv : TellInv ms ba wi (begAt ms ba wi 0) := tell_start hy hF
  have hmay : QM.may ms = true := by
    have := AM.begIs_zero.1 hy
    unfold AM.okB at this
    simp only [Bool.and_eq_true] at this
    exact this.1
  generalize begAt ms ba wi 0 = x0 at HCB hinv
  clear hfit hF hy
  have HR := Lib.hid hr
  have HI := Lib.hid hinv
  have HMY := Lib.hid hmay
  clear hr hinv hmay hl
  by_cases k50 : 50 < m
  · have d1 : decide ((50 : Int) < (m : Int)) = true := by simp; omega
    have d2 : decide (50 < m) = true := by simp; omega
    go_enter Try.func6, Try.ntmps6
    go_wp2_with fail
    refine (alive_any _).mono ?_
    rintro e w0 ⟨rfl, hb⟩
    replace BB := Lib.hid (bmore BB.out hb (Nat.le_refl _))
    clear hb
    go_wp2_with fail
    refine (HCB.out _ BB.out).mono ?_
    rintro e w1 ⟨v, rfl, own, hb⟩
    obtain ⟨A1, c1, D1, q1, C1, f1, rfl⟩ := own.form
    replace BB := Lib.hid (bmore BB.out (hb.alloc hb.size (.cells #[.int .u8 x0.ph, .int .i64 x0.ba, .slice A1 x0.ms.length c1, .string x0.wi, .string x0.va, .slice D1 x0.ps.length q1, .slice C1 x0.ac.length f1] 25)) (Nat.le_refl _))
    clear own hb
    go_wp2_with fail
    go_ret
    exact ⟨rfl, BB.out⟩
  have d1 : decide ((50 : Int) < (m : Int)) = false := by simp; omega
  have d2 : decide (50 < m) = false := by simp; omega
  go_enter Try.func6, Try.ntmps6
  go_wp2_with fail
  refine (alive_any _).mono ?_
  rintro e w0 ⟨rfl, hb⟩
  replace BB := Lib.hid (bmore BB.out hb (Nat.le_refl _))
  clear hb
  go_wp2_with fail
  refine (HCB.out _ BB.out).mono ?_
  rintro e w1 ⟨v, rfl, own, hb⟩
  obtain ⟨A1, c1, D1, q1, C1, f1, rfl⟩ := own.form
  have hrel0 : TellRel w w1.heap.size ms ba wi (w1.alloc (.cells #[.int .u8 x0.ph, .int .i64 x0.ba, .slice A1 x0.ms.length c1, .string x0.wi, .string x0.va, .slice D1 x0.ps.length q1, .slice C1 x0.ac.length f1] 25)) :=
    ⟨bmore BB.out (hb.alloc hb.size _) (Nat.le_refl _), Nat.le_trans BB.out.size hb.size, x0, A1, c1, D1, q1, C1, f1, HI.out, Box.new _ _ _, (own.alloc _).mono BB.out.size⟩
  have HREL := Lib.hid hrel0
  clear hrel0 own hb HCB HI BB
  go_wp2_with fail
  generalize w1.alloc (.cells #[.int .u8 x0.ph, .int .i64 x0.ba, .slice A1 x0.ms.length c1, .string x0.wi, .string x0.va, .slice D1 x0.ps.length q1, .slice C1 x0.ac.length f1] 25) = wa at HREL ⊢
  generalize w1.heap.size = g at HREL ⊢
  go_loopw [12] (fun i wr => ∃ k : Nat, k ≤ m ∧ i = .int .i64 k ∧ TellRel w g ms ba wi wr) (fun i _ => m - (intOf i).toNat)
  case atStart => exact ⟨0, by omega, rfl, HREL.out⟩
  case round =>
    clear HREL
    obtain ⟨k, hk, rfl, hbel, hwg, x, A2, c2, D2, q2, C2, f2, hinv, hbox, hown⟩ := hrel
    have BB := Lib.hid hbel
    have HI := Lib.hid hinv
    have X := Lib.hid hbox
    have O := Lib.hid hown
    have hgl := hbox.lt
    clear hbel hinv hbox hown
    by_cases hlt : k < m
    · obtain ⟨bl, o, p, rfl, hbl, hp, c0', c1', c2'⟩ := (HRP.out.below BB.out).at_ hlt
      have FP : FitP p := HFP.out p (List.mem_of_getElem? hp)
      have hpv : p.v.size ≤ 9223372036854775807 := by have := FP.v; unfold maxLen at this; omega
      clear hp
      have i0 : (0 : Int) ≤ (k : Int) := by omega
      have i1 : (k : Int) < (m : Int) := by omega
      by_cases k5 : 5000 < p.v.size
      · have e1 : decide ((5000 : Int) < (p.v.size : Int)) = true := by simp; omega
        have e2 : decide (5000 < p.v.size) = true := by simp; omega
        go_wp2_with fail
        go_ret
        exact ⟨rfl, BB.out⟩
      · have e1 : decide ((5000 : Int) < (p.v.size : Int)) = false := by simp; omega
        have e2 : decide (5000 < p.v.size) = false := by simp; omega
        obtain ⟨y, hy⟩ : ∃ y, y = AM.prom x ba p := ⟨_, rfl⟩
        obtain ⟨er, her⟩ : ∃ er, er = AM.errP x ba p := ⟨_, rfl⟩
        have hx := HI.out
        have hc := fun W (hb : Below wr.heap.size wr W) => prom_any _ x ba p W (O.out.below hb).is hx.2.2.2.2.2 FP
        rw [← hy, ← her] at hc
        have HC := Lib.hid hc
        have HNX := Lib.hid (fun h0 : er = 0 => show TellInv ms ba wi y by rw [hy]; exact tell_next hx FP (by rw [← her]; exact h0))
        clear hc hy her hx FP
        have HCL := Lib.hid (And.intro c0' (And.intro c1' c2'))
        go_upto_region 12 with (fail)
        have hS : ∀ w', Below wr.heap.size wr w' → w'.cell? ⟨g, 0, none⟩ = some (.int .u8 x.ph) ∧ w'.cell? ⟨g, 1, none⟩ = some (.int .i64 x.ba) ∧ w'.cell? ⟨g, 2, none⟩ = some (.slice A2 x.ms.length c2) ∧ w'.cell? ⟨g, 3, none⟩ = some (.string x.wi) ∧ w'.cell? ⟨g, 4, none⟩ = some (.string x.va) ∧ w'.cell? ⟨g, 5, none⟩ = some (.slice D2 x.ps.length q2) ∧ w'.cell? ⟨g, 6, none⟩ = some (.slice C2 x.ac.length f2) ∧ w'.cell? ⟨bl, o + k * 3, none⟩ = some (.int .i64 p.n) ∧ w'.cell? ⟨bl, o + k * 3 + 1, none⟩ = some (.int .i64 p.b) ∧ w'.cell? ⟨bl, o + k * 3 + 2, none⟩ = some (.string p.v) := fun w' h =>
          ⟨(X.out.below h hgl).cell 0, (X.out.below h hgl).cell 1, (X.out.below h hgl).cell 2, (X.out.below h hgl).cell 3, (X.out.below h hgl).cell 4, (X.out.below h hgl).cell 5, (X.out.below h hgl).cell 6, (h.cell hbl).trans HCL.out.1, (h.cell hbl).trans HCL.out.2.1, (h.cell hbl).trans HCL.out.2.2⟩
        have HSS := Lib.hid hS; clear hS
        clear c0' c1' c2' e1 e2 k5 hpv
        go_cut [13, 14] (fun u13 u14 wx => LoopMid wr y er u13 u14 wx)
        case first =>
          have bb1 : Below wr.heap.size wr wr.drew := (Below.refl _ _).drew
          have bb0 : ∀ ob : Obj, Below wr.heap.size wr (wr.alloc ob).drew := fun ob => ((Below.refl _ _).alloc (Nat.le_refl _) ob).drew
          refine wp_region_held_drew (S := fun w' => w'.cell? ⟨g, 0, none⟩ = some (.int .u8 x.ph) ∧ w'.cell? ⟨g, 1, none⟩ = some (.int .i64 x.ba) ∧ w'.cell? ⟨g, 2, none⟩ = some (.slice A2 x.ms.length c2) ∧ w'.cell? ⟨g, 3, none⟩ = some (.string x.wi) ∧ w'.cell? ⟨g, 4, none⟩ = some (.string x.va) ∧ w'.cell? ⟨g, 5, none⟩ = some (.slice D2 x.ps.length q2) ∧ w'.cell? ⟨g, 6, none⟩ = some (.slice C2 x.ac.length f2) ∧ w'.cell? ⟨bl, o + k * 3, none⟩ = some (.int .i64 p.n) ∧ w'.cell? ⟨bl, o + k * 3 + 1, none⟩ = some (.int .i64 p.b) ∧ w'.cell? ⟨bl, o + k * 3 + 2, none⟩ = some (.string p.v)) (by kernel_rfl) (HSS.out _ bb1) (fun hHeld => ?_)
          refine wpAnyH_take (i := 0) (v := ?_) rfl (by kernel_rfl) (by kernel_rfl) (by kernel_rfl) (fun _ _ _ h => h) (Or.inl ⟨by rfl, ?_⟩) (by assumption) ?_
          rotate_left
          · intro w' hSw
            (try dsimp only at hSw)
            go_simp
            all_goals (with_reducible rfl)
          try simp only [Act.put, List.setIfInBounds_toArray, List.set_cons_zero, List.set_cons_succ, List.getElem_toArray, List.getElem_cons_zero, List.getElem_cons_succ]
          refine wpAnyH_take (i := 1) (v := ?_) rfl (by kernel_rfl) (by kernel_rfl) (by kernel_rfl) (fun _ _ _ h => h) (Or.inl ⟨by rfl, ?_⟩) (by assumption) ?_
          rotate_left
          · intro w' hSw
            (try dsimp only at hSw)
            go_simp
            all_goals (with_reducible rfl)
          try simp only [Act.put, List.setIfInBounds_toArray, List.set_cons_zero, List.set_cons_succ, List.getElem_toArray, List.getElem_cons_zero, List.getElem_cons_succ]
          refine wpAnyH_take (i := 2) (v := ?_) rfl (by kernel_rfl) (by kernel_rfl) (by kernel_rfl) (fun _ _ _ h => h) (Or.inl ⟨by rfl, ?_⟩) (by assumption) ?_
          rotate_left
          · intro w' hSw
            (try dsimp only at hSw)
            go_simp
            all_goals (with_reducible rfl)
          try simp only [Act.put, List.setIfInBounds_toArray, List.set_cons_zero, List.set_cons_succ, List.getElem_toArray, List.getElem_cons_zero, List.getElem_cons_succ]
          refine wpAnyH_take (i := 3) (v := ?_) rfl (by kernel_rfl) (by kernel_rfl) (by kernel_rfl) (fun _ _ _ h => h) (Or.inl ⟨by rfl, ?_⟩) (by assumption) ?_
          rotate_left
          · intro w' hSw
            (try dsimp only at hSw)
            go_simp
            all_goals (with_reducible rfl)
          try simp only [Act.put, List.setIfInBounds_toArray, List.set_cons_zero, List.set_cons_succ, List.getElem_toArray, List.getElem_cons_zero, List.getElem_cons_succ]
          refine wpAnyH_take (i := 4) (v := ?_) rfl (by kernel_rfl) (by kernel_rfl) (by kernel_rfl) (fun _ _ _ h => h) (Or.inl ⟨by rfl, ?_⟩) (by assumption) ?_
          rotate_left
          · intro w' hSw
            (try dsimp only at hSw)
            go_simp
            all_goals (with_reducible rfl)
          try simp only [Act.put, List.setIfInBounds_toArray, List.set_cons_zero, List.set_cons_succ, List.getElem_toArray, List.getElem_cons_zero, List.getElem_cons_succ]
          refine wpAnyH_take (i := 5) (v := ?_) rfl (by kernel_rfl) (by kernel_rfl) (by kernel_rfl) (fun _ _ _ h => h) (Or.inl ⟨by rfl, ?_⟩) (by assumption) ?_
          rotate_left
          · intro w' hSw
            (try dsimp only at hSw)
            go_simp
            all_goals (with_reducible rfl)
          try simp only [Act.put, List.setIfInBounds_toArray, List.set_cons_zero, List.set_cons_succ, List.getElem_toArray, List.getElem_cons_zero, List.getElem_cons_succ]
          refine wpAnyH_ready (rs := [6, 10]) (by kernel_rfl) (by simp) ?_
          refine AllReadyH.cons rfl (fun K hK => ?_) (AllReadyH.cons rfl (fun K hK => ?_) AllReadyH.nil)
          · go_simp
            refine (HC.out _ bb1).mono ?_
            rintro e w4 ⟨v, rfl, own, ha⟩
            obtain ⟨A3, c3, D3, q3, C3, f3, rfl⟩ := own.form
            have hq := lm_1 (e := er) ha own
            have bb2 := hq.1
            have mid := Lib.hid hq.2
            clear hq ha own
            refine hK.out _ _ (HSS.out _ bb2) (fun hHeld => ?_)
            clear hK
            try simp only [Act.put, List.setIfInBounds_toArray, List.set_cons_zero, List.set_cons_succ, List.getElem_toArray, List.getElem_cons_zero, List.getElem_cons_succ]
            refine wpAnyH_take (i := 7) (v := ?_) rfl (by kernel_rfl) (by kernel_rfl) (by kernel_rfl) (fun _ _ _ h => h) (Or.inl ⟨by rfl, ?_⟩) (by assumption) ?_
            rotate_left
            · intro w' hSw
              (try dsimp only at hSw)
              go_simp
              all_goals (with_reducible rfl)
            try simp only [Act.put, List.setIfInBounds_toArray, List.set_cons_zero, List.set_cons_succ, List.getElem_toArray, List.getElem_cons_zero, List.getElem_cons_succ]
            refine wpAnyH_take (i := 8) (v := ?_) rfl (by kernel_rfl) (by kernel_rfl) (by kernel_rfl) (fun _ _ _ h => h) (Or.inl ⟨by rfl, ?_⟩) (by assumption) ?_
            rotate_left
            · intro w' hSw
              (try dsimp only at hSw)
              go_simp
              all_goals (with_reducible rfl)
            try simp only [Act.put, List.setIfInBounds_toArray, List.set_cons_zero, List.set_cons_succ, List.getElem_toArray, List.getElem_cons_zero, List.getElem_cons_succ]
            refine wpAnyH_take (i := 9) (v := ?_) rfl (by kernel_rfl) (by kernel_rfl) (by kernel_rfl) (fun _ _ _ h => h) (Or.inl ⟨by rfl, ?_⟩) (by assumption) ?_
            rotate_left
            · intro w' hSw
              (try dsimp only at hSw)
              go_simp
              all_goals (with_reducible rfl)
            try simp only [Act.put, List.setIfInBounds_toArray, List.set_cons_zero, List.set_cons_succ, List.getElem_toArray, List.getElem_cons_zero, List.getElem_cons_succ]
            refine wpAnyH_ready (rs := [10]) (by kernel_rfl) (by simp) ?_
            refine AllReadyH.cons rfl (fun K hK => ?_) AllReadyH.nil
            go_simp
            refine hK.out _ _ (HSS.out _ (bb2.alloc bb2.size _)) (fun hHeld => ?_)
            clear hK
            try simp only [Act.put, List.setIfInBounds_toArray, List.set_cons_zero, List.set_cons_succ, List.getElem_toArray, List.getElem_cons_zero, List.getElem_cons_succ]
            refine wpAnyH_ready (rs := [11]) (by kernel_rfl) (by simp) ?_
            refine AllReadyH.cons rfl (fun K hK => ?_) AllReadyH.nil
            go_simp
            refine hK.out _ _ (HSS.out _ (bb2.alloc bb2.size _)) (fun hHeld => ?_)
            clear hK
            try simp only [Act.put, List.setIfInBounds_toArray, List.set_cons_zero, List.set_cons_succ, List.getElem_toArray, List.getElem_cons_zero, List.getElem_cons_succ]
            refine wpAnyH_take (i := 12) (v := ?_) rfl (by kernel_rfl) (by kernel_rfl) (by kernel_rfl) (fun _ _ _ h => h) (Or.inl ⟨by rfl, ?_⟩) (by assumption) ?_
            rotate_left
            · intro w' hSw
              (try dsimp only at hSw)
              go_simp
              all_goals (with_reducible rfl)
            try simp only [Act.put, List.setIfInBounds_toArray, List.set_cons_zero, List.set_cons_succ, List.getElem_toArray, List.getElem_cons_zero, List.getElem_cons_succ]
            refine wpAnyH_done (by kernel_rfl) ?_ _
            go_wp2_with fail
            go_meet
            case rel => exact mid.out
          · go_simp
            refine hK.out _ _ (HSS.out _ (bb0 _)) (fun hHeld => ?_)
            clear hK
            try simp only [Act.put, List.setIfInBounds_toArray, List.set_cons_zero, List.set_cons_succ, List.getElem_toArray, List.getElem_cons_zero, List.getElem_cons_succ]
            refine wpAnyH_ready (rs := [6]) (by kernel_rfl) (by simp) ?_
            refine AllReadyH.cons rfl (fun K hK => ?_) AllReadyH.nil
            go_simp
            refine (HC.out _ (bb0 _)).mono ?_
            rintro e w4 ⟨v, rfl, own, ha⟩
            obtain ⟨A3, c3, D3, q3, C3, f3, rfl⟩ := own.form
            have hq := lm_2 (e := er) ha own
            have bb2 := hq.1
            obtain ⟨⟨r0, r1, r2, r3, r4, r5, r6⟩, z0, z1, z2, z3, z4, z5, z6⟩ := hq.2.1.seven
            have mid := Lib.hid hq.2.2
            unfold put7 at mid
            have kk := HSS.out _ (below_put7 bb2 (Nat.le_refl _) (.int .u8 y.ph) (.int .i64 y.ba) (.slice A3 y.ms.length c3) (.string y.wi) (.string y.va) (.slice D3 y.ps.length q3) (.slice C3 y.ac.length f3))
            unfold put7 at kk
            clear hq ha own
            refine hK.out _ _ (HSS.out _ bb2) (fun hHeld => ?_)
            clear hK
            try simp only [Act.put, List.setIfInBounds_toArray, List.set_cons_zero, List.set_cons_succ, List.getElem_toArray, List.getElem_cons_zero, List.getElem_cons_succ]
            refine wpAnyH_take (i := 7) (v := ?_) rfl (by kernel_rfl) (by kernel_rfl) (by kernel_rfl) (fun _ _ _ h => h) (Or.inl ⟨by rfl, ?_⟩) (by assumption) ?_
            rotate_left
            · intro w' hSw
              (try dsimp only at hSw)
              go_simp
              all_goals (with_reducible rfl)
            try simp only [Act.put, List.setIfInBounds_toArray, List.set_cons_zero, List.set_cons_succ, List.getElem_toArray, List.getElem_cons_zero, List.getElem_cons_succ]
            refine wpAnyH_take (i := 8) (v := ?_) rfl (by kernel_rfl) (by kernel_rfl) (by kernel_rfl) (fun _ _ _ h => h) (Or.inl ⟨by rfl, ?_⟩) (by assumption) ?_
            rotate_left
            · intro w' hSw
              (try dsimp only at hSw)
              go_simp
              all_goals (with_reducible rfl)
            try simp only [Act.put, List.setIfInBounds_toArray, List.set_cons_zero, List.set_cons_succ, List.getElem_toArray, List.getElem_cons_zero, List.getElem_cons_succ]
            refine wpAnyH_take (i := 9) (v := ?_) rfl (by kernel_rfl) (by kernel_rfl) (by kernel_rfl) (fun _ _ _ h => h) (Or.inl ⟨by rfl, ?_⟩) (by assumption) ?_
            rotate_left
            · intro w' hSw
              (try dsimp only at hSw)
              go_simp
              all_goals (with_reducible rfl)
            try simp only [Act.put, List.setIfInBounds_toArray, List.set_cons_zero, List.set_cons_succ, List.getElem_toArray, List.getElem_cons_zero, List.getElem_cons_succ]
            refine wpAnyH_ready (rs := [11]) (by kernel_rfl) (by simp) ?_
            refine AllReadyH.cons rfl (fun K hK => ?_) AllReadyH.nil
            go_simp
            refine hK.out _ _ (kk) (fun hHeld => ?_)
            clear hK
            try simp only [Act.put, List.setIfInBounds_toArray, List.set_cons_zero, List.set_cons_succ, List.getElem_toArray, List.getElem_cons_zero, List.getElem_cons_succ]
            refine wpAnyH_take (i := 12) (v := ?_) rfl (by kernel_rfl) (by kernel_rfl) (by kernel_rfl) (fun _ _ _ h => h) (Or.inl ⟨by rfl, ?_⟩) (by assumption) ?_
            rotate_left
            · intro w' hSw
              (try dsimp only at hSw)
              go_simp
              all_goals (with_reducible rfl)
            try simp only [Act.put, List.setIfInBounds_toArray, List.set_cons_zero, List.set_cons_succ, List.getElem_toArray, List.getElem_cons_zero, List.getElem_cons_succ]
            refine wpAnyH_done (by kernel_rfl) ?_ _
            go_wp2_with fail
            go_meet
            case rel => exact mid.out
        case rest =>
          obtain ⟨gy, A3, c3, D3, q3, C3, f3, rfl, rfl, hmb, hmg, hmv, hmo⟩ := hcut
          have BB2 := Lib.hid (bmore BB.out hmb (Nat.le_refl _))
          have X2 := Lib.hid (X.out.below hmb hgl)
          have O2 := Lib.hid (O.out.below hmb)
          have Y2 := Lib.hid hmv
          have OY := Lib.hid (hmo.mono BB.out.size)
          obtain ⟨⟨s0, s1, s2, s3, s4, s5, s6⟩, t0, t1, t2, t3, t4, t5, t6⟩ := X2.out.seven
          obtain ⟨⟨r0, r1, r2, r3, r4, r5, r6⟩, _⟩ := Y2.out.seven
          clear hmb hmv hmo HSS HCL BB X O HC
          by_cases h0 : er = 0
          · have HN := Lib.hid (HNX.out h0)
            have q1 : (er == 0) = true := by simpa using h0
            have hnx : TellRel w g ms ba wi (put7 wc g (.int .u8 y.ph) (.int .i64 y.ba) (.slice A3 y.ms.length c3) (.string y.wi) (.string y.va) (.slice D3 y.ps.length q3) (.slice C3 y.ac.length f3)) := ⟨below_put7 BB2.out hwg .., hwg, y, A3, c3, D3, q3, C3, f3, HN.out, X2.out.put7 .., OY.out.far7 X2.out ..⟩
            unfold put7 at hnx
            have HNR := Lib.hid hnx
            clear hnx h0 HNX
            go_wp2_with fail
            go_roundw
            case rel => exact ⟨k + 1, by omega, by go_num, HNR.out⟩
            case measure => simp [intOf]; omega
          · have q1 : (er == 0) = false := by simpa using h0
            have hnx : TellRel w g ms ba wi wc := ⟨BB2.out, hwg, x, A2, c2, D2, q2, C2, f2, HI.out, X2.out, O2.out⟩
            have HNR := Lib.hid hnx
            clear hnx h0 HNX
            go_wp2_with fail
            go_roundw
            case rel => exact ⟨k + 1, by omega, by go_num, HNR.out⟩
            case measure => simp [intOf]; omega
    · obtain rfl : m = k := by omega
      obtain ⟨ph, xba, xms, xwi, va, ps, ac⟩ := x
      obtain ⟨i1, i2, i3, i4, i5, F⟩ := HI.out
      simp only at i2 i3 i4 i5 X O
      subst i3 i4 i5
      have hpos := AM.may_pos i1 (by simp only; omega)
      obtain ⟨_, _, ok, hph⟩ := hpos
      simp only at hph
      have hlen := may_lens i1
      simp only at hlen
      obtain ⟨l1, l2, l3⟩ := hlen
      have hck := fun W (h : AtIs W _ _) => acheck_any (.agg #[.int .u8 ph, .int .i64 xba, .slice A2 xms.length c2, .string xwi, .string va, .slice D2 ps.length q2, .slice C2 ac.length f2]) ⟨ph, xba, xms, xwi, va, ps, ac⟩ W h F
      rw [if_pos i1] at hck
      have HCK := Lib.hid hck
      obtain ⟨b, yy, hmi⟩ := QM.mostIs_ex xms (AM.nodes ps)
      obtain ⟨hb1, rfl⟩ := AM.most_is HMY.out (by rw [AM.nodes_length]; omega) hmi
      have HMO := Lib.hid (fun W D e (h : Rd W D ps.length (ic (AM.nodes ps))) (hb : Below w.heap.size w W) => most_any A n c xms D ps.length e (AM.nodes ps) b 0 W (HR.out.below hb) hn63 h (by omega) hmi)
      have hl2000 : ps.length ≤ 2000 := by omega
      have hrp2 : RdP wr D2 ps.length ps := by obtain ⟨xx, yy, zz, ev, _, hh, _⟩ := O.out; simp at ev; obtain ⟨_, rfl, _⟩ := ev; exact RdP.of_own hh
      have HNO := Lib.hid (lnodes_any D2 ps.length q2 ps wr hrp2 hl2000)
      clear hrp2
      obtain ⟨⟨s0, s1, s2, s3, s4, s5, s6⟩, _⟩ := X.out.seven
      have HF := Lib.hid hph
      have HM := Lib.hid hb1
      clear hph hb1 hck hmi i1 F ok
      go_wp2_with fail
      refine HNO.out.mono ?_
      rintro e w2 ⟨A4, c4, rfl, ho, hb⟩
      have hrd := Rd.of_own ho
      replace BB := Lib.hid (bmore BB.out hb (Nat.le_refl _))
      replace X := Lib.hid (X.out.below hb hgl)
      replace O := Lib.hid (O.out.below hb)
      clear s0 s1 s2 s3 s4 s5 s6 HNO
      go_wp2_with fail
      refine (HMO.out _ _ _ hrd BB.out).mono ?_
      rintro e w3 ⟨rfl, rfl⟩
      clear ho hb hrd HMO
      obtain ⟨⟨s0, s1, s2, s3, s4, s5, s6⟩, _⟩ := X.out.seven
      have bb : (xba != xba) = false := by simp
      rcases i2 with rfl | rfl
      · have hf := HF.out
        rw [if_pos rfl] at hf
        obtain ⟨f1, f2, f3⟩ := hf
        have hbf : b = false := by rw [HM.out]; exact f1
        subst hbf
        have HVE := Lib.hid f2
        clear f1 f2 f3 HF HM
        go_wp2_with fail
        refine (HCK.out _ O.out.is).mono ?_
        rintro e w4 ⟨rfl, hb⟩
        replace BB := Lib.hid (bmore BB.out hb (Nat.le_refl _))
        have x4 := X.out.below hb X.out.lt
        clear s0 s1 s2 s3 s4 s5 s6 hb
        obtain ⟨⟨s0, s1, s2, s3, s4, s5, s6⟩, _⟩ := x4.seven
        have ve : va.toList.isEmpty = true := by rw [str_no, HVE.out]; rfl
        clear x4
        go_wp2_with fail
        go_ret
        exact ⟨by first | rfl | simp, BB.out⟩
      · have hf := HF.out
        rw [if_neg (by decide)] at hf
        obtain ⟨f1, f2, f3⟩ := hf
        have hbf : b = true := by rw [HM.out]; exact f1
        subst hbf
        obtain ⟨GG, hGG⟩ : ∃ GG, GG = grF 0 ps := ⟨_, rfl⟩
        have hbh := best_hit (l := ps) (wi := xwi) hGG.symm
        rw [← f2] at hbh
        have HBH := Lib.hid hbh
        have HST := Lib.hid (show grF 0 (ps.drop 0) = GG by rw [hGG]; rfl)
        clear f1 f2 f3 HF HM hbh hGG
        go_wp2_with fail
        refine (HCK.out _ O.out.is).mono ?_
        rintro e w4 ⟨rfl, hb⟩
        replace BB := Lib.hid (bmore BB.out hb (Nat.le_refl _))
        have x4 := X.out.below hb X.out.lt
        have o4 := (O.out.below hb)
        have HP4 : Hid (RdP w4 D2 ps.length ps) := Lib.hid (by obtain ⟨xx, yy, zz, ev, _, hh, _⟩ := o4; simp at ev; obtain ⟨_, rfl, _⟩ := ev; exact RdP.of_own hh)
        clear s0 s1 s2 s3 s4 s5 s6 hb O X
        obtain ⟨⟨s0, s1, s2, s3, s4, s5, s6⟩, _⟩ := x4.seven
        clear x4 o4 HCK
        go_upto_region 20 with (fail)
        go_quiet (fail)
        go_wp2_with fail
        have BB5 := Lib.hid (below_drewN BB.out nq)
        have HP5 : Hid (RdP (w4.drewN nq) D2 ps.length ps) := Lib.hid (HP4.out.drewN nq)
        have s0' : (w4.drewN nq).cell? ⟨g, 0, none⟩ = _ := s0
        have s4' : (w4.drewN nq).cell? ⟨g, 4, none⟩ = _ := s4
        have s5' : (w4.drewN nq).cell? ⟨g, 5, none⟩ = _ := s5
        clear s0 s1 s2 s3 s4 s5 s6 BB HP4
        generalize w4.drewN nq = wz at BB5 HP5 s0' s4' s5' ⊢
        go_loop [17, 19] (fun s i => ∃ (j : Nat) (z : Int), j ≤ ps.length ∧ i = .int .i64 j ∧ s = .int .i64 z ∧ Hid (grF z (ps.drop j) = GG)) (fun _ i => ps.length - (intOf i).toNat)
        case atStart => exact ⟨0, 0, by omega, rfl, rfl, HST⟩
        case round =>
          clear HST
          obtain ⟨j, z, hj, rfl, rfl, HG⟩ := hrel
          by_cases hlt2 : j < ps.length
          · obtain ⟨bl, o, p, rfl, hbl, hp, c0, c1', c2'⟩ := HP5.out.at_ hlt2
            have hre := HG.out
            have hpe : ps[j] = p := (List.getElem?_eq_some_iff.1 hp).2
            rw [List.drop_eq_getElem_cons hlt2, hpe, grF] at hre
            have HG2 := Lib.hid hre
            have j0 : (0 : Int) ≤ (j : Int) := by omega
            have j1 : (j : Int) < (ps.length : Int) := by omega
            clear hre hpe hp HG
            go_wp2_with fail
            go_round
            case rel => exact ⟨j + 1, max z p.b, by omega, by go_num, rfl, HG2⟩
            case measure => simp [intOf]; omega
          · have hz : z = GG := by have := HG.out; rw [List.drop_of_length_le (by omega)] at this; exact this
            subst hz
            have HH := Lib.hid (show HitRel ps z va 0 (va.toList == xwi.toList) from fun h => absurd h (by omega))
            clear HG
            go_wp2_with fail
            go_loopw [18, 20] (fun s i wr => ∃ (j : Nat) (t : Bool) (qq : Nat), j ≤ ps.length ∧ wr = wz.drewN qq ∧ i = .int .i64 j ∧ s = .bool t ∧ Hid (HitRel ps z va j t) ∧ (j = 0 → t = (va.toList == xwi.toList)) ∧ (0 < j → 0 < z)) (fun _ i _ => ps.length - (intOf i).toNat)
            case atStart => exact ⟨0, _, 0, by omega, rfl, rfl, rfl, HH, fun _ => rfl, fun h => absurd h (by omega)⟩
            case round =>
              clear HH
              obtain ⟨i, t, qq, hi, rfl, rfl, rfl, HR3, ht00, hzp⟩ := hrel
              by_cases hz0 : 0 < z
              · have dz : decide (0 < z) = true := by simpa using hz0
                by_cases hlt3 : i < ps.length
                · obtain ⟨bl, o, p, rfl, hbl, hp, c0, c1', c2'⟩ := HP5.out.at_ hlt3
                  have HNX := Lib.hid (fun t' h => hit_next HR3.out hp t' h)
                  have j0 : (0 : Int) ≤ (i : Int) := by omega
                  have j1 : (i : Int) < (ps.length : Int) := by omega
                  have di : decide ((i : Int) < (ps.length : Int)) = true := by simp; omega
                  have di2 : decide (i < ps.length) = true := by simp; omega
                  clear hp ht00 HR3 hzp
                  by_cases hi0 : 0 < i
                  · have da : decide ((0 : Int) < (i : Int)) = true := by simp; omega
                    have db : decide (0 < i) = true := by simp; omega
                    have HDB := Lib.hid db
                    cases t
                    · rcases eb : (p.b == z) with _ | _
                      · have EB := Lib.hid eb
                        go_wp2_with fail
                        go_quiet (fail)
                        go_wp2_with fail
                        go_roundw
                        case rel => exact ⟨i + 1, false, qq + nq, by omega, by simp, by go_num, rfl, Lib.hid (HNX.out false (by unfold hit; rw [EB.out]; simp)), fun h => by omega, fun _ => hz0⟩
                        case measure => simp [intOf]; omega
                      · rcases ev : (p.v.toList == va.toList) with _ | _
                        all_goals
                          have EB := Lib.hid eb
                          have EV := Lib.hid ev
                          go_wp2_with fail
                          go_quiet (fail)
                          go_wp2_with fail
                          go_roundw
                          case rel => exact ⟨i + 1, _, qq + nq, by omega, by simp, by go_num, rfl, Lib.hid (HNX.out _ (by unfold hit; rw [EB.out, EV.out]; simp)), fun h => by omega, fun _ => hz0⟩
                          case measure => simp [intOf]; omega
                    · go_wp2_with fail
                      go_quiet (fail)
                      go_wp2_with fail
                      go_roundw
                      case rel => exact ⟨i + 1, true, qq + nq, by omega, by simp, by go_num, rfl, Lib.hid (HNX.out true (by rw [HDB.out]; simp)), fun h => by omega, fun _ => hz0⟩
                      case measure => simp [intOf]; omega
                  · have da : decide ((0 : Int) < (i : Int)) = false := by simp; omega
                    have db : decide (0 < i) = false := by simp; omega
                    have HDB := Lib.hid db
                    rcases eb : (p.b == z) with _ | _
                    · have EB := Lib.hid eb
                      go_wp2_with fail
                      go_quiet (fail)
                      go_wp2_with fail
                      go_roundw
                      case rel => exact ⟨i + 1, false, qq + nq, by omega, by simp, by go_num, rfl, Lib.hid (HNX.out false (by unfold hit; rw [EB.out, HDB.out]; simp)), fun h => by omega, fun _ => hz0⟩
                      case measure => simp [intOf]; omega
                    · rcases ev : (p.v.toList == va.toList) with _ | _
                      all_goals
                        have EB := Lib.hid eb
                        have EV := Lib.hid ev
                        go_wp2_with fail
                        go_quiet (fail)
                        go_wp2_with fail
                        go_roundw
                        case rel => exact ⟨i + 1, _, qq + nq, by omega, by simp, by go_num, rfl, Lib.hid (HNX.out _ (by unfold hit; rw [EB.out, EV.out, HDB.out]; simp)), fun h => by omega, fun _ => hz0⟩
                        case measure => simp [intOf]; omega
                · have hle : i = ps.length := by omega
                  have di : decide ((i : Int) < (ps.length : Int)) = false := by simp; omega
                  have di2 : decide (i < ps.length) = false := by simp; omega
                  have htrue : t = true := by
                    have hany := HBH.out.2 hz0
                    have h0 : 0 < i := by
                      rw [hle]
                      rcases hps : ps with _ | ⟨a, l⟩
                      · rw [hps] at hany; simp at hany
                      · simp
                    rw [HR3.out h0, hle, List.take_length]
                    exact hany
                  subst htrue
                  clear hle
                  go_wp2_with fail
                  go_ret
                  exact ⟨by first | rfl | simp, below_drewN BB5.out _⟩
              · have dz : decide (0 < z) = false := by simpa using hz0
                have hi0 : i = 0 := by
                  rcases Nat.eq_zero_or_pos i with h | h
                  · exact h
                  · exact absurd (hzp h) hz0
                have htrue : t = true := by
                  rw [ht00 hi0, HBH.out.1 (by omega)]
                  simp
                clear ht00 hzp HR3 hi0
                subst htrue
                by_cases hlt3 : i < ps.length
                · have di : decide ((i : Int) < (ps.length : Int)) = true := by simp; omega
                  have di2 : decide (i < ps.length) = true := by simp; omega
                  go_wp2_with fail
                  go_ret
                  exact ⟨by first | rfl | simp, below_drewN BB5.out _⟩
                · have di : decide ((i : Int) < (ps.length : Int)) = false := by simp; omega
                  have di2 : decide (i < ps.length) = false := by simp; omega
                  go_wp2_with fail
                  go_ret
                  exact ⟨by first | rfl | simp, below_drewN BB5.out _⟩
end Go.Proofs.Ytmcfamoicdmkdaa
