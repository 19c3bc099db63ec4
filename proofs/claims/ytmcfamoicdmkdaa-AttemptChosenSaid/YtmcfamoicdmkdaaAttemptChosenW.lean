/-
  AttemptChosen's walk: an attempt behind acceptances that come. Conditions: what the arguments are.
-/
import Derived.Test.YtmcfamoicdmkdaaAttFar
import Derived.Test.YtmcfamoicdmkdaaAttCho
import Derived.Test.YtmcfamoicdmkdaaAttAlive
import Derived.Test.YtmcfamoicdmkdaaAttR
import Derived.Test.YtmcfamoicdmkdaaAttArg
import Derived.Deep.RegionHeld3
import Derived.Deep.DeepCutAuto
namespace Go.Proofs.Ytmcfamoicdmkdaa
open Go.RowKit
set_option linter.unusedVariables false
set_option linter.unusedSimpArgs false

/-- the word of the loop: the attempt in g, the one it was in g8, all that came in the row -/
def ChoRel (w : World) (g g8 : Nat) (cw : Array Value) (a : AM.At) (k : Nat) (s9 : Value) (wr : World) : Prop :=
  Below w.heap.size w wr ∧ Box wr g8 25 cw ∧ ∃ x A2 c2 D2 q2 C2 f2 z Z m d, ChoInv a z x ∧ z.length = m ∧ m ≤ a.ac.length + k ∧
    Box wr g 25 #[.int .u8 x.ph, .int .i64 x.ba, .slice A2 x.ms.length c2, .string x.wi, .string x.va, .slice D2 x.ps.length q2, .slice C2 x.ac.length f2] ∧ s9 = .slice Z m d ∧ wr.ownsRow (g8 + 1) 3 1 (.slice Z m d) m (ic z) ∧
    AtSafe wr (fun b => b = g ∨ (Value.slice Z m d).ownBlock = some b) (.agg #[.int .u8 x.ph, .int .i64 x.ba, .slice A2 x.ms.length c2, .string x.wi, .string x.va, .slice D2 x.ps.length q2, .slice C2 x.ac.length f2]) x

theorem cho_grow {w wr wc w2 : World} {g g8 gy n : Nat} {cx cw cy : Array Value} {x y : AM.At} {vx vy Z Z2 : Value} {z : List Value} {ob : Obj} (hwg : w.heap.size ≤ g) (hgg : g < g8)
    (hb : Below w.heap.size w wc) (hmb : Below wr.heap.size wr wc) (hgx : g < wr.heap.size) (ho : wr.ownsRow (g8 + 1) 3 1 Z n z)
    (X : Box wc g 25 cx) (W : Box wc g8 25 cw) (Y : Box wc gy 25 cy) (hgy : wr.heap.size ≤ gy) (OY : AtOwn wc wr.heap.size vy y)
    (SX : AtSafe wr (fun b => b = g ∨ Z.ownBlock = some b) vx x)
    (hg2 : (wc.alloc ob).grownBy w2 Z.ownBlock) (ho2 : Z2.ownBlock = Z.ownBlock ∨ Z2.ownBlock = some (wc.alloc ob).heap.size) :
    Below w.heap.size w w2 ∧ Box w2 g 25 cx ∧ Box w2 g8 25 cw ∧ Box w2 gy 25 cy ∧ AtSafe w2 (fun b => b = g ∨ Z2.ownBlock = some b) vy y ∧ AtIs w2 vx x := by
  have hab : Below wc.heap.size wc (wc.alloc ob) := (Below.refl _ _).alloc (Nat.le_refl _) ob
  have hZ : ∀ k, Z.ownBlock = some k → g8 + 1 ≤ k ∧ k < wr.heap.size := fun k hk => by
    obtain ⟨h1, cur, h2⟩ := own_block ho hk
    exact ⟨h1, h2.lt⟩
  have hba : Below w.heap.size w (wc.alloc ob) := bmore hb hab (Nat.le_refl _)
  have ho3 : (wc.alloc ob).ownsRow w.heap.size 3 1 Z n z := own_base (own_below3 (own_below3 ho hmb) hab) (by omega)
  have hne : ∀ k, (k ≤ g8 ∨ wr.heap.size ≤ k) → some k ≠ Z.ownBlock := fun k hk e => by have := hZ k e.symm; omega
  refine ⟨below_row hba ho3 hba.size hg2, (X.below hab X.lt).grown hg2 (hne _ (by omega)), (W.below hab W.lt).grown hg2 (hne _ (by omega)), (Y.below hab Y.lt).grown hg2 (hne _ (.inr hgy)), ?_, ?_⟩
  · have s1 : AtSafe wc (fun b => b = g ∨ Z.ownBlock = some b) vy y := atSafe_own OY (fun k hk => by
      rcases hk with rfl | hk
      · exact hgx
      · exact (hZ k hk).2)
    refine (s1.below hab).grown hg2 (fun k hk => .inr hk) (fun k hkl hk => ?_)
    rcases hk with rfl | hk
    · exact .inl rfl
    · rcases ho2 with e | e
      · exact .inr (e ▸ hk)
      · rw [e] at hk; injection hk with hk; omega
  · exact (((SX.below hmb).below hab).grown (S' := fun b => b = g ∨ Z.ownBlock = some b) hg2 (fun k hk => .inr hk) (fun _ _ h => h)).is

theorem at_members {w : World} {p2 p1 : Value} {A B C : Option Addr} {n c m d k f : Nat} {s1 s2 : Value} {x : AM.At} (h : AtIs w (.agg #[p1, p2, .slice A n c, s1, s2, .slice B m d, .slice C k f]) x) : Rd w A n (ic x.ms) := by
  obtain ⟨A', n', c', B', m', d', C', k', f', e, h1, _, _⟩ := h
  simp at e
  obtain ⟨_, _, ⟨rfl, rfl, rfl⟩, _⟩ := e
  exact h1

set_option maxRecDepth 100000 in
set_option maxHeartbeats 20000000 in
theorem attemptChosen_walk (v : Value) (a : AM.At) (ba : Int) (A : Option Addr) (n c : Nat) (zs : List Int) (w : World) (HA : AttArg w v a) (hba : (Lit.int .i64 ba).wf = true) (H : IsRow .i64 w A n c zs) :
    Calls Try.prog 7 #[v, .int .i64 ba, .slice A n c] w fun e w' => e = .returned (.bool true) ∧ Below w.heap.size w w' := by
  obtain ⟨i0, hi, hz0, hz1, hz2⟩ := info_parts info_ai
  have hcm := H.len_le
  have hn63 : n ≤ 9223372036854775807 := by have := hcm.2.1; unfold maxLen at this; omega
  obtain ⟨ms, hms⟩ : ∃ ms, ms = zs.take n := ⟨_, rfl⟩
  have hr := H.ints
  rw [← hms] at hr
  have hl : ms.length = n := by have := hr.1; rwa [ic_length] at this
  have HR := Lib.hid hr
  obtain ⟨hat, hfl⟩ := HA
  have HAT := Lib.hid hat
  have HFL := Lib.hid hfl
  obtain ⟨A0, n0, c0, D0, m0, q0, C0, k0, f0, rfl, h1, h2, h3⟩ := hat
  obtain rfl : a.ms.length = n0 := by have := h1.1; rwa [ic_length] at this
  obtain rfl : a.ps.length = m0 := h2.1
  obtain rfl : a.ac.length = k0 := by have := h3.1; rwa [ic_length] at this
  have RC := Lib.hid h3
  obtain ⟨W1, hW1⟩ : ∃ W1, W1 = w.alloc (.cells #[.int .u8 a.ph, .int .i64 a.ba, .slice A0 a.ms.length c0, .string a.wi, .string a.va, .slice D0 a.ps.length q0, .slice C0 a.ac.length f0] 25) := ⟨_, rfl⟩
  have bb : Below w.heap.size w W1 := by rw [hW1]; exact (Below.refl _ _).alloc (Nat.le_refl _) _
  have x1 : Box W1 w.heap.size 25 #[.int .u8 a.ph, .int .i64 a.ba, .slice A0 a.ms.length c0, .string a.wi, .string a.va, .slice D0 a.ps.length q0, .slice C0 a.ac.length f0] := by rw [hW1]; exact Box.new _ _ _
  have BB := Lib.hid bb
  have X := Lib.hid x1
  obtain ⟨g, hg⟩ : ∃ g, g = w.heap.size := ⟨_, rfl⟩
  have hwg : w.heap.size ≤ g := by omega
  have X : Hid (Box W1 g 25 #[.int .u8 a.ph, .int .i64 a.ba, .slice A0 a.ms.length c0, .string a.wi, .string a.va, .slice D0 a.ps.length q0, .slice C0 a.ac.length f0]) := Lib.hid (by rw [hg]; exact x1)
  clear h1 h2 h3 H hcm hba hms bb x1
  go_enter Try.func7, Try.ntmps7
  go_upto_region 1 with (fail)
  rw [← hW1]
  rw [← hg]
  clear hW1 hg
  go_wp2_with fail
  refine (alive_any _).mono ?_
  rintro e w0 ⟨rfl, hb⟩
  replace BB := Lib.hid (bmore BB.out hb (Nat.le_refl _))
  replace X := Lib.hid (X.out.below hb X.out.lt)
  clear hb
  obtain ⟨⟨s0, s1, s2, s3, s4, s5, s6⟩, _⟩ := X.out.seven
  go_wp2_with fail
  clear s0 s1 s2 s3 s4 s5 s6
  refine (great_any _ a _ (HAT.out.below BB.out) HFL.out).mono ?_
  rintro e w1 ⟨b, rfl, hgr, hb⟩
  replace BB := Lib.hid (bmore BB.out hb (Nat.le_refl _))
  replace X := Lib.hid (X.out.below hb X.out.lt)
  clear hb
  obtain ⟨⟨s0, s1, s2, s3, s4, s5, s6⟩, _⟩ := X.out.seven
  cases b
  rotate_left
  · clear hgr
    go_wp2_with fail
    go_ret
    exact ⟨rfl, BB.out⟩
  obtain ⟨gm, gp, ga⟩ := hgr rfl
  have hF := HFL.out.fit gm gp ga
  have HF := Lib.hid hF
  clear hgr gm gp hF
  by_cases k50 : 50 < n
  · have d1 : decide ((50 : Int) < (n : Int)) = true := by simp; omega
    have d2 : decide (50 < n) = true := by simp; omega
    go_wp2_with fail
    go_ret
    exact ⟨rfl, BB.out⟩
  have d1 : decide ((50 : Int) < (n : Int)) = false := by simp; omega
  have d2 : decide (50 < n) = false := by simp; omega
  go_wp2_with fail
  clear s0 s1 s2 s3 s4 s5 s6
  refine (acheck_any _ a _ (HAT.out.below BB.out) HF.out).mono ?_
  rintro e w2 ⟨rfl, hb⟩
  replace BB := Lib.hid (bmore BB.out hb (Nat.le_refl _))
  replace X := Lib.hid (X.out.below hb X.out.lt)
  clear hb
  rcases hm : AM.may a with _ | _
  · rw [if_neg (by simp)]
    clear hm
    go_wp2_with fail
    go_ret
    exact ⟨rfl, BB.out⟩
  rw [if_pos rfl]
  have HI := Lib.hid (cho_start hm HF.out)
  clear hm
  obtain ⟨⟨s0, s1, s2, s3, s4, s5, s6⟩, _⟩ := X.out.seven
  have hgg : g < w2.heap.size := X.out.lt
  obtain ⟨W2, hW2⟩ : ∃ W2, W2 = w2.alloc (.cells #[.int .u8 a.ph, .int .i64 a.ba, .slice A0 a.ms.length c0, .string a.wi, .string a.va, .slice D0 a.ps.length q0, .slice C0 a.ac.length f0] 25) := ⟨_, rfl⟩
  have hb2 : Below w2.heap.size w2 W2 := by rw [hW2]; exact (Below.refl _ _).alloc (Nat.le_refl _) _
  have V := Lib.hid (show Box W2 w2.heap.size 25 #[.int .u8 a.ph, .int .i64 a.ba, .slice A0 a.ms.length c0, .string a.wi, .string a.va, .slice D0 a.ps.length q0, .slice C0 a.ac.length f0] by rw [hW2]; exact Box.new _ _ _)
  replace BB := Lib.hid (bmore BB.out hb2 (Nat.le_refl _))
  replace X := Lib.hid (X.out.below hb2 X.out.lt)
  have HSZ := Lib.hid (show w2.heap.size + 1 ≤ W2.heap.size by rw [hW2]; simp)
  clear hb2
  obtain ⟨⟨r0, r1, r2, r3, r4, r5, r6⟩, _⟩ := X.out.seven
  go_upto_region 7 with (fail)
  rw [← hW2]
  clear hW2
  generalize w2.heap.size = g8 at V hgg HSZ ⊢
  have HNI := Lib.hid (World.ownsRow_nil W2 (g8 + 1) 3 1)
  have HRC := Lib.hid (RC.out.below BB.out)
  go_wp2_with (at_builtin; refine wpList_append_rd _ rfl _ _ 22 rfl (g8 + 1) 3 i0 (.int .i64 0) 8 Try.underlying22 hi hz0 hz1 hz2 rfl (.slice none 0 0) _ _ rfl HNI.out C0 a.ac.length f0 (ic a.ac) rfl HRC.out (ic_one _) (by unfold maxLen; omega) (by omega) HSZ.out ?_; intro v2 w3 hown2 hg2 hob2; obtain ⟨A', c', rfl, _, _⟩ := own_form hown2)
  simp only [Nat.zero_add, List.nil_append] at hown2 ⊢
  clear s0 s1 s2 s3 s4 s5 s6
  clear r0 r1 r2 r3 r4 r5 r6
  have hrel0 : ChoRel w g g8 #[.int .u8 a.ph, .int .i64 a.ba, .slice A0 a.ms.length c0, .string a.wi, .string a.va, .slice D0 a.ps.length q0, .slice C0 a.ac.length f0] a 0 (.slice A' a.ac.length c') w3 := by
    have hV := V.out.grown hg2 (by simp [Value.ownBlock])
    have hX := X.out.grown hg2 (by simp [Value.ownBlock])
    have hB : Below w.heap.size w w3 := below_row BB.out (own_base HNI.out (by omega)) BB.out.size hg2
    refine ⟨hB, hV, a, A0, c0, D0, q0, C0, f0, a.ac, A', _, c', HI.out, rfl, Nat.le_refl _, hX, rfl, hown2, atSafe_args HAT.out hB (fun k hk => ?_)⟩
    rcases hk with rfl | hk
    · exact hwg
    · have := (own_block hown2 hk).1
      omega
  have HREL := Lib.hid hrel0
  clear hrel0 hown2 hg2 hob2 HNI HRC V X BB HI RC HSZ
  go_upto_region 9 with (fail)
  go_loopw [9, 10] (fun s i wr => ∃ k : Nat, k ≤ n ∧ i = .int .i64 k ∧ ChoRel w g g8 #[.int .u8 a.ph, .int .i64 a.ba, .slice A0 a.ms.length c0, .string a.wi, .string a.va, .slice D0 a.ps.length q0, .slice C0 a.ac.length f0] a k s wr) (fun _ i _ => n - (intOf i).toNat)
  case atStart => exact ⟨0, by omega, rfl, HREL.out⟩
  case round =>
    clear HREL
    obtain ⟨k, hk, rfl, hbel, hvbox, x, A2, c2, D2, q2, C2, f2, z, Z, m, d, hinv, hzm, hzl, hbox, rfl, hown, hsafe⟩ := hrel
    have BB := Lib.hid hbel
    have HI := Lib.hid hinv
    have V := Lib.hid hvbox
    have X := Lib.hid hbox
    have O := Lib.hid hown
    have SF := Lib.hid hsafe
    have hgl := hbox.lt
    clear hbel hinv hbox hown hsafe hvbox
    by_cases hlt : k < n
    · obtain ⟨ad, u, rfl, hbl, hu, hcell⟩ := (HR.out.below BB.out).at_ hlt
      obtain ⟨nn, enn, rfl⟩ := ic_at hu
      clear hu enn
      have i0' : (0 : Int) ≤ (k : Int) := by omega
      have i1 : (k : Int) < (n : Int) := by omega
      obtain ⟨y, hy⟩ : ∃ y, y = AM.acc x ba nn := ⟨_, rfl⟩
      obtain ⟨er, her⟩ : ∃ er, er = AM.errA x ba nn := ⟨_, rfl⟩
      have hx := HI.out
      have hc := fun W (hb : Below wr.heap.size wr W) => accd_any _ x ba nn W (SF.out.is.below hb) hx.2.1
      rw [← hy, ← her] at hc
      have HC := Lib.hid hc
      have HNX := Lib.hid (fun h0 : er = 0 => show ChoInv a (z ++ [nn]) y ∧ x.ph ≤ y.ph ∧ y.ba = x.ba ∧ y.va = x.va ∧ y.wi = x.wi ∧ y.ms = x.ms by rw [hy]; exact cho_next hx (by rw [← her]; exact h0))
      clear hc hy her hx
      have HCL := Lib.hid hcell
      go_upto_region 11 with (fail)
      have hS : ∀ w', Below wr.heap.size wr w' → w'.cell? ⟨g, 0, none⟩ = some (.int .u8 x.ph) ∧ w'.cell? ⟨g, 1, none⟩ = some (.int .i64 x.ba) ∧ w'.cell? ⟨g, 2, none⟩ = some (.slice A2 x.ms.length c2) ∧ w'.cell? ⟨g, 3, none⟩ = some (.string x.wi) ∧ w'.cell? ⟨g, 4, none⟩ = some (.string x.va) ∧ w'.cell? ⟨g, 5, none⟩ = some (.slice D2 x.ps.length q2) ∧ w'.cell? ⟨g, 6, none⟩ = some (.slice C2 x.ac.length f2) ∧ w'.cell? (ad.add k) = some (.int .i64 nn) := fun w' h =>
        ⟨(X.out.below h hgl).cell 0, (X.out.below h hgl).cell 1, (X.out.below h hgl).cell 2, (X.out.below h hgl).cell 3, (X.out.below h hgl).cell 4, (X.out.below h hgl).cell 5, (X.out.below h hgl).cell 6, (h.cell (by rw [block_of_add]; exact hbl)).trans HCL.out⟩
      have HSS := Lib.hid hS; clear hS
      clear hcell
      go_cut [11, 12] (fun u13 u14 wx => LoopMid wr y er u13 u14 wx)
      case first =>
        have bb1 : Below wr.heap.size wr wr.drew := (Below.refl _ _).drew
        have bb0 : ∀ ob : Obj, Below wr.heap.size wr (wr.alloc ob).drew := fun ob => ((Below.refl _ _).alloc (Nat.le_refl _) ob).drew
        refine wp_region_held_drew (S := fun w' => w'.cell? ⟨g, 0, none⟩ = some (.int .u8 x.ph) ∧ w'.cell? ⟨g, 1, none⟩ = some (.int .i64 x.ba) ∧ w'.cell? ⟨g, 2, none⟩ = some (.slice A2 x.ms.length c2) ∧ w'.cell? ⟨g, 3, none⟩ = some (.string x.wi) ∧ w'.cell? ⟨g, 4, none⟩ = some (.string x.va) ∧ w'.cell? ⟨g, 5, none⟩ = some (.slice D2 x.ps.length q2) ∧ w'.cell? ⟨g, 6, none⟩ = some (.slice C2 x.ac.length f2) ∧ w'.cell? (ad.add k) = some (.int .i64 nn)) (by kernel_rfl) (HSS.out _ bb1) (fun hHeld => ?_)
        refine wpAnyH_take (i := 0) (v := ?_) rfl (by kernel_rfl) (by kernel_rfl) (by kernel_rfl) (fun _ _ _ h => h) (Or.inl ⟨by rfl, ?_⟩) (by assumption) ?_
        rotate_left
        · intro w' hSw
          (try dsimp only at hSw)
          go_simp
          all_goals (with_reducible rfl)
        try simp only [Act.put, List.setIfInBounds_toArray, List.set_cons_zero, List.set_cons_succ, List.getElem_toArray, List.getElem_cons_zero, List.getElem_cons_succ]
        refine wpAnyH_take (i := 1) (v := ?_) rfl (by kernel_rfl) (by kernel_rfl) (by kernel_rfl) (fun _ _ _ h => h) (Or.inl ⟨by rfl, ?_⟩) (by assumption) ?_
        rotate_left
        · intro w' hSw
          (try dsimp only at hSw)
          go_simp
          all_goals (with_reducible rfl)
        try simp only [Act.put, List.setIfInBounds_toArray, List.set_cons_zero, List.set_cons_succ, List.getElem_toArray, List.getElem_cons_zero, List.getElem_cons_succ]
        refine wpAnyH_take (i := 2) (v := ?_) rfl (by kernel_rfl) (by kernel_rfl) (by kernel_rfl) (fun _ _ _ h => h) (Or.inl ⟨by rfl, ?_⟩) (by assumption) ?_
        rotate_left
        · intro w' hSw
          (try dsimp only at hSw)
          go_simp
          all_goals (with_reducible rfl)
        try simp only [Act.put, List.setIfInBounds_toArray, List.set_cons_zero, List.set_cons_succ, List.getElem_toArray, List.getElem_cons_zero, List.getElem_cons_succ]
        refine wpAnyH_take (i := 3) (v := ?_) rfl (by kernel_rfl) (by kernel_rfl) (by kernel_rfl) (fun _ _ _ h => h) (Or.inl ⟨by rfl, ?_⟩) (by assumption) ?_
        rotate_left
        · intro w' hSw
          (try dsimp only at hSw)
          go_simp
          all_goals (with_reducible rfl)
        try simp only [Act.put, List.setIfInBounds_toArray, List.set_cons_zero, List.set_cons_succ, List.getElem_toArray, List.getElem_cons_zero, List.getElem_cons_succ]
        refine wpAnyH_take (i := 4) (v := ?_) rfl (by kernel_rfl) (by kernel_rfl) (by kernel_rfl) (fun _ _ _ h => h) (Or.inl ⟨by rfl, ?_⟩) (by assumption) ?_
        rotate_left
        · intro w' hSw
          (try dsimp only at hSw)
          go_simp
          all_goals (with_reducible rfl)
        try simp only [Act.put, List.setIfInBounds_toArray, List.set_cons_zero, List.set_cons_succ, List.getElem_toArray, List.getElem_cons_zero, List.getElem_cons_succ]
        refine wpAnyH_take (i := 5) (v := ?_) rfl (by kernel_rfl) (by kernel_rfl) (by kernel_rfl) (fun _ _ _ h => h) (Or.inl ⟨by rfl, ?_⟩) (by assumption) ?_
        rotate_left
        · intro w' hSw
          (try dsimp only at hSw)
          go_simp
          all_goals (with_reducible rfl)
        try simp only [Act.put, List.setIfInBounds_toArray, List.set_cons_zero, List.set_cons_succ, List.getElem_toArray, List.getElem_cons_zero, List.getElem_cons_succ]
        refine wpAnyH_ready (rs := [6, 10]) (by kernel_rfl) (by simp) ?_
        refine AllReadyH.cons rfl (fun K hK => ?_) (AllReadyH.cons rfl (fun K hK => ?_) AllReadyH.nil)
        · go_simp
          refine (HC.out _ bb1).mono ?_
          rintro e w4 ⟨v, rfl, own, ha⟩
          obtain ⟨A3, c3, D3, q3, C3, f3, rfl⟩ := own.form
          have hq := lm_1 (e := er) ha own
          have bb2 := hq.1
          have mid := Lib.hid hq.2
          clear hq ha own
          refine hK.out _ _ (HSS.out _ bb2) (fun hHeld => ?_)
          clear hK
          try simp only [Act.put, List.setIfInBounds_toArray, List.set_cons_zero, List.set_cons_succ, List.getElem_toArray, List.getElem_cons_zero, List.getElem_cons_succ]
          refine wpAnyH_take (i := 7) (v := ?_) rfl (by kernel_rfl) (by kernel_rfl) (by kernel_rfl) (fun _ _ _ h => h) (Or.inl ⟨by rfl, ?_⟩) (by assumption) ?_
          rotate_left
          · intro w' hSw
            (try dsimp only at hSw)
            go_simp
            all_goals (with_reducible rfl)
          try simp only [Act.put, List.setIfInBounds_toArray, List.set_cons_zero, List.set_cons_succ, List.getElem_toArray, List.getElem_cons_zero, List.getElem_cons_succ]
          refine wpAnyH_take (i := 8) (v := ?_) rfl (by kernel_rfl) (by kernel_rfl) (by kernel_rfl) (fun _ _ _ h => h) (Or.inl ⟨by rfl, ?_⟩) (by assumption) ?_
          rotate_left
          · intro w' hSw
            (try dsimp only at hSw)
            go_simp
            all_goals (with_reducible rfl)
          try simp only [Act.put, List.setIfInBounds_toArray, List.set_cons_zero, List.set_cons_succ, List.getElem_toArray, List.getElem_cons_zero, List.getElem_cons_succ]
          refine wpAnyH_take (i := 9) (v := ?_) rfl (by kernel_rfl) (by kernel_rfl) (by kernel_rfl) (fun _ _ _ h => h) (Or.inl ⟨by rfl, ?_⟩) (by assumption) ?_
          rotate_left
          · intro w' hSw
            (try dsimp only at hSw)
            go_simp
            all_goals (with_reducible rfl)
          try simp only [Act.put, List.setIfInBounds_toArray, List.set_cons_zero, List.set_cons_succ, List.getElem_toArray, List.getElem_cons_zero, List.getElem_cons_succ]
          refine wpAnyH_ready (rs := [10]) (by kernel_rfl) (by simp) ?_
          refine AllReadyH.cons rfl (fun K hK => ?_) AllReadyH.nil
          go_simp
          refine hK.out _ _ (HSS.out _ (bb2.alloc bb2.size _)) (fun hHeld => ?_)
          clear hK
          try simp only [Act.put, List.setIfInBounds_toArray, List.set_cons_zero, List.set_cons_succ, List.getElem_toArray, List.getElem_cons_zero, List.getElem_cons_succ]
          refine wpAnyH_ready (rs := [11]) (by kernel_rfl) (by simp) ?_
          refine AllReadyH.cons rfl (fun K hK => ?_) AllReadyH.nil
          go_simp
          refine hK.out _ _ (HSS.out _ (bb2.alloc bb2.size _)) (fun hHeld => ?_)
          clear hK
          try simp only [Act.put, List.setIfInBounds_toArray, List.set_cons_zero, List.set_cons_succ, List.getElem_toArray, List.getElem_cons_zero, List.getElem_cons_succ]
          refine wpAnyH_take (i := 12) (v := ?_) rfl (by kernel_rfl) (by kernel_rfl) (by kernel_rfl) (fun _ _ _ h => h) (Or.inl ⟨by rfl, ?_⟩) (by assumption) ?_
          rotate_left
          · intro w' hSw
            (try dsimp only at hSw)
            go_simp
            all_goals (with_reducible rfl)
          try simp only [Act.put, List.setIfInBounds_toArray, List.set_cons_zero, List.set_cons_succ, List.getElem_toArray, List.getElem_cons_zero, List.getElem_cons_succ]
          refine wpAnyH_done (by kernel_rfl) ?_ _
          go_wp2_with fail
          go_meet
          case rel => exact mid.out
        · go_simp
          refine hK.out _ _ (HSS.out _ (bb0 _)) (fun hHeld => ?_)
          clear hK
          try simp only [Act.put, List.setIfInBounds_toArray, List.set_cons_zero, List.set_cons_succ, List.getElem_toArray, List.getElem_cons_zero, List.getElem_cons_succ]
          refine wpAnyH_ready (rs := [6]) (by kernel_rfl) (by simp) ?_
          refine AllReadyH.cons rfl (fun K hK => ?_) AllReadyH.nil
          go_simp
          refine (HC.out _ (bb0 _)).mono ?_
          rintro e w4 ⟨v, rfl, own, ha⟩
          obtain ⟨A3, c3, D3, q3, C3, f3, rfl⟩ := own.form
          have hq := lm_2 (e := er) ha own
          have bb2 := hq.1
          obtain ⟨⟨r0, r1, r2, r3, r4, r5, r6⟩, z0, z1, z2, z3, z4, z5, z6⟩ := hq.2.1.seven
          have mid := Lib.hid hq.2.2
          unfold put7 at mid
          have kk := HSS.out _ (below_put7 bb2 (Nat.le_refl _) (.int .u8 y.ph) (.int .i64 y.ba) (.slice A3 y.ms.length c3) (.string y.wi) (.string y.va) (.slice D3 y.ps.length q3) (.slice C3 y.ac.length f3))
          unfold put7 at kk
          clear hq ha own
          refine hK.out _ _ (HSS.out _ bb2) (fun hHeld => ?_)
          clear hK
          try simp only [Act.put, List.setIfInBounds_toArray, List.set_cons_zero, List.set_cons_succ, List.getElem_toArray, List.getElem_cons_zero, List.getElem_cons_succ]
          refine wpAnyH_take (i := 7) (v := ?_) rfl (by kernel_rfl) (by kernel_rfl) (by kernel_rfl) (fun _ _ _ h => h) (Or.inl ⟨by rfl, ?_⟩) (by assumption) ?_
          rotate_left
          · intro w' hSw
            (try dsimp only at hSw)
            go_simp
            all_goals (with_reducible rfl)
          try simp only [Act.put, List.setIfInBounds_toArray, List.set_cons_zero, List.set_cons_succ, List.getElem_toArray, List.getElem_cons_zero, List.getElem_cons_succ]
          refine wpAnyH_take (i := 8) (v := ?_) rfl (by kernel_rfl) (by kernel_rfl) (by kernel_rfl) (fun _ _ _ h => h) (Or.inl ⟨by rfl, ?_⟩) (by assumption) ?_
          rotate_left
          · intro w' hSw
            (try dsimp only at hSw)
            go_simp
            all_goals (with_reducible rfl)
          try simp only [Act.put, List.setIfInBounds_toArray, List.set_cons_zero, List.set_cons_succ, List.getElem_toArray, List.getElem_cons_zero, List.getElem_cons_succ]
          refine wpAnyH_take (i := 9) (v := ?_) rfl (by kernel_rfl) (by kernel_rfl) (by kernel_rfl) (fun _ _ _ h => h) (Or.inl ⟨by rfl, ?_⟩) (by assumption) ?_
          rotate_left
          · intro w' hSw
            (try dsimp only at hSw)
            go_simp
            all_goals (with_reducible rfl)
          try simp only [Act.put, List.setIfInBounds_toArray, List.set_cons_zero, List.set_cons_succ, List.getElem_toArray, List.getElem_cons_zero, List.getElem_cons_succ]
          refine wpAnyH_ready (rs := [11]) (by kernel_rfl) (by simp) ?_
          refine AllReadyH.cons rfl (fun K hK => ?_) AllReadyH.nil
          go_simp
          refine hK.out _ _ (kk) (fun hHeld => ?_)
          clear hK
          try simp only [Act.put, List.setIfInBounds_toArray, List.set_cons_zero, List.set_cons_succ, List.getElem_toArray, List.getElem_cons_zero, List.getElem_cons_succ]
          refine wpAnyH_take (i := 12) (v := ?_) rfl (by kernel_rfl) (by kernel_rfl) (by kernel_rfl) (fun _ _ _ h => h) (Or.inl ⟨by rfl, ?_⟩) (by assumption) ?_
          rotate_left
          · intro w' hSw
            (try dsimp only at hSw)
            go_simp
            all_goals (with_reducible rfl)
          try simp only [Act.put, List.setIfInBounds_toArray, List.set_cons_zero, List.set_cons_succ, List.getElem_toArray, List.getElem_cons_zero, List.getElem_cons_succ]
          refine wpAnyH_done (by kernel_rfl) ?_ _
          go_wp2_with fail
          go_meet
          case rel => exact mid.out
      case rest =>
        obtain ⟨gy, A3, c3, D3, q3, C3, f3, rfl, rfl, hmb, hmg, hmv, hmo⟩ := hcut
        have BB2 := Lib.hid (bmore BB.out hmb (Nat.le_refl _))
        have X2 := Lib.hid (X.out.below hmb hgl)
        have V2 := Lib.hid (V.out.below hmb V.out.lt)
        have Y2 := Lib.hid hmv
        have OY := Lib.hid hmo
        have MB := Lib.hid hmb
        clear hmb hmv hmo HSS HC BB X V
        by_cases h0 : er = 0
        rotate_left
        · have q1 : (er != 0) = true := by simpa using h0
          have hnx : ChoRel w g g8 #[.int .u8 a.ph, .int .i64 a.ba, .slice A0 a.ms.length c0, .string a.wi, .string a.va, .slice D0 a.ps.length q0, .slice C0 a.ac.length f0] a (k + 1) (.slice Z m d) wc := ⟨BB2.out, V2.out, x, A2, c2, D2, q2, C2, f2, z, Z, m, d, HI.out, hzm, by omega, X2.out, rfl, own_below3 O.out MB.out, SF.out.below MB.out⟩
          have HNR := Lib.hid hnx
          clear hnx h0 HNX
          go_wp2_with fail
          go_roundw
          case rel => exact ⟨k + 1, by omega, by go_num, HNR.out⟩
          case measure => simp [intOf]; omega
        · have q1 : (er != 0) = false := by simpa using h0
          have HE := Lib.hid (HNX.out h0)
          have HN := Lib.hid HE.out.1
          clear h0 HNX
          have O2 := Lib.hid (own_below3 (own_below3 O.out MB.out) ((Below.refl _ _).alloc (Nat.le_refl _) (.cells #[.int .i64 nn] 3)))
          have hr2 := Lib.hid (rd_one wc 3 nn)
          have hcw : wc.cell? (ad.add k) = some (.int .i64 nn) := (MB.out.cell (by rw [block_of_add]; exact hbl)).trans HCL.out
          have hsz : g8 + 1 ≤ (wc.alloc (.cells #[.int .i64 nn] 3)).heap.size := by have := V2.out.lt; simp; omega
          have HSZ := Lib.hid hsz
          have hz50 : m ≤ 200 := by omega
          clear hsz
          go_upto_region 14 with (at_builtin; refine wpList_append_rd _ rfl _ _ 22 rfl (g8 + 1) 3 i0 (.int .i64 0) 8 Try.underlying22 hi hz0 hz1 hz2 rfl _ _ _ rfl O2.out (some ⟨wc.heap.size, 0, none⟩) 1 1 [.int .i64 nn] rfl hr2.out (by intro u hu; simp at hu; subst hu; rfl) (by unfold maxLen; omega) (by omega) HSZ.out ?_; intro v2 w5 hown2 hg2 hob2; obtain ⟨Z2, d2, rfl, _, _⟩ := own_form hown2)
          obtain ⟨gb, gx, gv, gyy, gs, gi⟩ := cho_grow hwg hgg BB2.out MB.out hgl O.out X2.out V2.out Y2.out hmg OY.out SF.out hg2 hob2
          have hown3 : w5.ownsRow (g8 + 1) 3 1 (.slice Z2 (m + 1) d2) (m + 1) (ic (z ++ [nn])) := by
            have e : ic (z ++ [nn]) = ic z ++ [.int .i64 nn] := by simp [ic]
            rw [e]; exact hown2
          replace BB2 := Lib.hid gb
          replace X2 := Lib.hid gx
          replace V2 := Lib.hid gv
          replace Y2 := Lib.hid gyy
          replace O2 := Lib.hid hown3
          have SY := Lib.hid gs
          have XI := Lib.hid gi
          clear gb gx gv gyy gs gi hown2 hg2 hob2 hown3 OY MB O SF HCL hcw hr2 HSZ
          obtain ⟨⟨r0, r1, r2, r3, r4, r5, r6⟩, u0, u1, u2, u3, u4, u5, u6⟩ := Y2.out.seven
          go_wp2_with fail
          clear r0 r1 r2 r3 r4 r5 r6 u0 u1 u2 u3 u4 u5 u6
          refine (acheck_any _ y _ SY.out.is HN.out.2.1).mono ?_
          rintro e w6 ⟨rfl, hb⟩
          rw [if_pos HN.out.1]
          replace BB2 := Lib.hid (bmore BB2.out hb (Nat.le_refl _))
          replace X2 := Lib.hid (X2.out.below hb X2.out.lt)
          replace V2 := Lib.hid (V2.out.below hb V2.out.lt)
          replace Y2 := Lib.hid (Y2.out.below hb Y2.out.lt)
          replace O2 := Lib.hid (own_below3 O2.out hb)
          replace SY := Lib.hid (SY.out.below hb)
          replace XI := Lib.hid (XI.out.below hb)
          clear hb
          obtain ⟨n1, n2, n3, n4, n5, n6⟩ := HE.out
          clear HE n1
          obtain ⟨yph, yba, yms, ywi, yva, yps, yac⟩ := y
          obtain ⟨xph, xba, xms, xwi, xva, xps, xac⟩ := x
          simp only at n2 n3 n4 n5 n6 X2 Y2 SY XI ⊢
          subst n3 n4 n5 n6
          obtain ⟨⟨s0, s1, s2, s3, s4, s5, s6⟩, t0, t1, t2, t3, t4, t5, t6⟩ := X2.out.seven
          obtain ⟨⟨r0, r1, r2, r3, r4, r5, r6⟩, u0, u1, u2, u3, u4, u5, u6⟩ := Y2.out.seven
          have p1 : decide (yph < xph) = false := by simp; omega
          have p2 : (yba != yba) = false := by simp
          have p3 : (yva.toList != yva.toList) = false := by simp
          have p4 : (ywi.toList != ywi.toList) = false := by simp
          have hlm : yms.length ≤ 9223372036854775807 := by have := HN.out.2.1.ms; simp only at this; omega
          have HLS := Lib.hid (lsame_any A3 yms.length c3 yms A2 yms.length c2 yms w6 (at_members SY.out.is) (at_members XI.out) hlm hlm)
          rw [show decide (yms = yms) = true by simp] at HLS
          clear n2
          go_wp2_with fail
          refine HLS.out.mono ?_
          rintro e w7 ⟨rfl, q, rfl⟩
          have hnx : ChoRel w g g8 #[.int .u8 a.ph, .int .i64 a.ba, .slice A0 a.ms.length c0, .string a.wi, .string a.va, .slice D0 a.ps.length q0, .slice C0 a.ac.length f0] a (k + 1) (.slice Z2 (m + 1) d2) (put7 (w6.drewN q) g (.int .u8 yph) (.int .i64 yba) (.slice A3 yms.length c3) (.string ywi) (.string yva) (.slice D3 yps.length q3) (.slice C3 yac.length f3)) :=
            ⟨below_put7 (below_drewN BB2.out q) hwg .., (V2.out.below (below_drewN (Below.refl _ _) q) V2.out.lt).putFar7 (by omega) .., _, A3, c3, D3, q3, C3, f3, z ++ [nn], Z2, m + 1, d2, HN.out, by simp [hzm], by omega, (X2.out.below (below_drewN (Below.refl _ _) q) X2.out.lt).put7 .., rfl, own_put7 (own_below3 O2.out (below_drewN (Below.refl _ _) q)) (by omega) .., (SY.out.below (below_drewN (Below.refl _ _) q)).put7 (.inl rfl) _ _ _ _ _ _ _⟩
          unfold put7 at hnx
          have HNR := Lib.hid hnx
          clear hnx
          go_wp2_with fail
          go_roundw
          case rel => exact ⟨k + 1, by omega, by go_num, HNR.out⟩
          case measure => simp [intOf]; omega
    · obtain rfl : n = k := by omega
      have BB3 := Lib.hid BB.out
      obtain ⟨⟨v0, v1, v2, v3, v4, v5, v6⟩, _⟩ := V.out.seven
      obtain ⟨⟨s0, s1, s2, s3, s4, s5, s6⟩, t0, t1, t2, t3, t4, t5, t6⟩ := X.out.seven
      by_cases hp : a.ph < 2
      · have p1 : decide (a.ph < 2) = true := by simpa using hp
        have he := HI.out.2.2.2.1 hp
        have HSM := Lib.hid (rsame_any _ x _ a wr SF.out.is (HAT.out.below BB.out) HI.out.2.1 HF.out)
        rw [show decide (x = a) = true by simp [he]] at HSM
        clear he hp
        go_wp2_with fail
        refine HSM.out.mono ?_
        rintro e w5 ⟨rfl, hb⟩
        go_wp2_with fail
        go_ret
        exact ⟨by first | rfl | simp, bmore BB.out hb (Nat.le_refl _)⟩
      · have p1 : decide (a.ph < 2) = false := by simpa using hp
        have hlm : x.ms.length ≤ 9223372036854775807 := by have := HI.out.2.1.ms; omega
        obtain ⟨bb, yy, hmi⟩ := QM.mostIs_ex x.ms z
        obtain ⟨rfl, hbb⟩ := cho_end HI.out (by omega) (by omega) hmi
        have HMO := Lib.hid (most_any A2 x.ms.length c2 x.ms Z m d z bb 0 wr (at_members SF.out.is) hlm (Rd.of_own O.out) (by omega) hmi)
        have HBB := Lib.hid hbb
        clear hmi hbb hp
        go_wp2_with fail
        refine HMO.out.mono ?_
        rintro e w5 ⟨rfl, rfl⟩
        rcases hp3 : (x.ph == 3) with _ | _
        · obtain rfl : bb = false := by rw [HBB.out]; simpa using hp3
          go_wp2_with fail
          go_ret
          exact ⟨by first | rfl | simp, BB.out⟩
        · obtain rfl : bb = true := by rw [HBB.out]; simpa using hp3
          go_wp2_with fail
          go_ret
          exact ⟨by first | rfl | simp, BB.out⟩
end Go.Proofs.Ytmcfamoicdmkdaa
