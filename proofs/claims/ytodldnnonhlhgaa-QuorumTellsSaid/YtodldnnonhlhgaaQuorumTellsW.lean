/-
  The walk of QuorumTells: each answer of package quorum is the document's own one, what is handed in is only read. Conditions: any lists of ints, any group, any int.
-/
import Derived.Test.YtodldnnonhlhgaaQuorumRB
import Derived.Test.YtodldnnonhlhgaaSameI
import Derived.Test.YtodldnnonhlhgaaGroupArg
import Derived.Deep.RegionHeld3
import Derived.Deep.DeepCutAuto
namespace Go.Proofs.Ytodldnnonhlhgaa
open Go.RowKit
set_option linter.unusedVariables false

set_option maxRecDepth 100000 in
set_option maxHeartbeats 4000000 in
theorem tells_great (A B C D : Option Addr) (n cn m cm l cl k ck : Nat) (x : Int) (w : World) (h : 2000 < n ∨ (n ≤ 2000 ∧ (2000 < m ∨ (m ≤ 2000 ∧ (2000 < l ∨ (l ≤ 2000 ∧ 2000 < k)))))) :
    Calls Try.prog 4 #[.slice A n cn, .slice B m cm, .agg #[.slice C l cl, .slice D k ck], .int .i64 x] w fun e w' => e = .returned (.bool true) ∧ Below w.heap.size w w' := by
  rcases h with h | ⟨h1, h | ⟨h2, h | ⟨h3, h⟩⟩⟩
  all_goals
    go_enter Try.func4, Try.ntmps4
    go_wp2
    go_ret
    exact ⟨rfl, (Below.refl _ _).alloc (Nat.le_refl _) _⟩

theorem check_b (A : Option Addr) (n c : Nat) (zs : List Int) (y : Int) (w : World) (hr : Rd w A n (ic zs)) (hm : n ≤ 9223372036854775807) (hy : QM.ChkIs zs y) :
    Calls Try.prog 8 #[.slice A n c] w fun e w' => e = .returned (.int .i64 y) ∧ Below w.heap.size w w' :=
  (check_any A n c zs y w hr hm hy).mono fun _ _ ⟨a, b⟩ => ⟨a, b ▸ Below.refl _ _⟩
theorem rCheck_b (A : Option Addr) (n c : Nat) (zs : List Int) (y : Int) (w : World) (hr : Rd w A n (ic zs)) (hm : n ≤ 9223372036854775807) (hy : QM.ChkIs zs y) :
    Calls Try.prog 14 #[.slice A n c] w fun e w' => e = .returned (.int .i64 y) ∧ Below w.heap.size w w' :=
  (rCheck_any A n c zs y w hr hm hy).mono fun _ _ ⟨a, q, b⟩ => ⟨a, b ▸ below_drewN (Below.refl _ _) _⟩
theorem has_b (A : Option Addr) (n c : Nat) (zs : List Int) (x : Int) (w : World) (hr : Rd w A n (ic zs)) (hm : n ≤ 9223372036854775807) :
    Calls Try.prog 16 #[.slice A n c, .int .i64 x] w fun e w' => e = .returned (.bool (QM.has zs x)) ∧ Below w.heap.size w w' :=
  (has_any A n c zs x w hr hm).mono fun _ _ ⟨a, b⟩ => ⟨a, b ▸ Below.refl _ _⟩
theorem rHas_b (A : Option Addr) (n c : Nat) (zs : List Int) (x : Int) (w : World) (hr : Rd w A n (ic zs)) (hm : n ≤ 9223372036854775807) :
    Calls Try.prog 17 #[.slice A n c, .int .i64 x] w fun e w' => e = .returned (.bool (QM.has zs x)) ∧ Below w.heap.size w w' :=
  (rHas_any A n c zs x w hr hm).mono fun _ _ ⟨a, b⟩ => ⟨a, b ▸ Below.refl _ _⟩
theorem same_b (A B : Option Addr) (n ca cb : Nat) (zs : List Int) (w : World) (h1 : Rd w A n (ic zs)) (h2 : Rd w B n (ic zs)) (hm : n ≤ 9223372036854775807) :
    Calls Try.prog 18 #[.slice A n ca, .slice B n cb] w fun e w' => e = .returned (.bool true) ∧ Below w.heap.size w w' :=
  (same_ints A B n ca cb zs w h1 h2 hm).mono fun _ _ ⟨a, q, b⟩ => ⟨a, b ▸ below_drewN (Below.refl _ _) _⟩

set_option maxRecDepth 100000 in
set_option maxHeartbeats 4000000 in
theorem tells_rd (A B C D : Option Addr) (n cn m cm l cl k ck : Nat) (ms xs rs gs : List Int) (x : Int) (w : World) (h1 : Rd w A n (ic ms)) (h2 : Rd w B m (ic xs)) (h3 : Rd w C l (ic rs)) (h4 : Rd w D k (ic gs)) (g1 : n ≤ 2000) (g2 : m ≤ 2000) (g3 : l ≤ 2000) (g4 : k ≤ 2000) :
    Calls Try.prog 4 #[.slice A n cn, .slice B m cm, .agg #[.slice C l cl, .slice D k ck], .int .i64 x] w fun e w' => e = .returned (.bool true) ∧ Below w.heap.size w w' := by
  obtain ⟨i0, hi, hz0, hz1, hz2⟩ := info_parts info_qi
  obtain ⟨x1, y1, hd⟩ := QM.needIs_ex ms
  obtain ⟨b2, y2, hp⟩ := QM.mostIs_ex ms xs
  obtain ⟨y3, hg⟩ := QM.grpIs_ex rs gs
  have HC := Lib.hid hd.1
  have HD := Lib.hid hd; clear hd
  have HP := Lib.hid hp; clear hp
  have HG := Lib.hid hg; clear hg
  have bW : Below w.heap.size w (w.alloc (.cells #[.slice C l cl, .slice D k ck] 29)) := (Below.refl _ _).alloc (Nat.le_refl _) _
  have R1 := Lib.hid (h1.below bW); clear h1
  have R2 := Lib.hid (h2.below bW); clear h2
  have R3 := Lib.hid (h3.below bW); clear h3
  have R4 := Lib.hid (h4.below bW); clear h4
  have HB := Lib.hid bW; clear bW
  have c0 : (w.alloc (.cells #[.slice C l cl, .slice D k ck] 29)).cell? ⟨w.heap.size, 0, none⟩ = some (.slice C l cl) := by simp
  have c1 : (w.alloc (.cells #[.slice C l cl, .slice D k ck] 29)).cell? ⟨w.heap.size, 1, none⟩ = some (.slice D k ck) := by simp
  have hlt : w.heap.size < (w.alloc (.cells #[.slice C l cl, .slice D k ck] 29)).heap.size := by simp
  have C0 := Lib.hid c0; have C1 := Lib.hid c1; have HLT := Lib.hid hlt
  clear c0 c1 hlt
  go_enter Try.func4, Try.ntmps4
  go_upto_region 3 with (fail)
  generalize w.alloc (.cells #[.slice C l cl, .slice D k ck] 29) = u at R1 R2 R3 R4 HB C0 C1 HLT ⊢
  generalize w.heap.size = g at C0 C1 HLT ⊢
  go_wp2_with (first
    | (at_builtin; refine wpList_append_rd _ rfl _ _ 25 rfl u.heap.size 3 i0 (.int .i64 0) 8 Try.underlying25 hi hz0 hz1 hz2 rfl (.slice none 0 0) 0 [] rfl (World.ownsRow_nil _ _ _ _) A n cn (ic ms) rfl R1.out (ic_one ms) (by unfold maxLen; omega) (by omega) (Nat.le_refl _) ?_; intro v4 w4 hown4 hg4 hob4; simp only [Nat.zero_add, List.nil_append] at hown4; obtain ⟨A4, c4, hv4, hci4, hcm4⟩ := own_slice hown4; subst hv4; have hb4 : Below u.heap.size u w4 := below_of_grown hg4 (by simp [Value.ownBlock]); clear hg4 hob4; have R2b := Lib.hid (R2.out.below hb4))
    | (at_builtin; refine wpList_append_rd _ rfl _ _ 25 rfl w4.heap.size 3 i0 (.int .i64 0) 8 Try.underlying25 hi hz0 hz1 hz2 rfl (.slice none 0 0) 0 [] rfl (World.ownsRow_nil _ _ _ _) B m cm (ic xs) rfl R2b.out (ic_one xs) (by unfold maxLen; omega) (by omega) (Nat.le_refl _) ?_; intro v5 w5 hown5 hg5 hob5; simp only [Nat.zero_add, List.nil_append] at hown5; obtain ⟨A5, c5, hv5, hci5, hcm5⟩ := own_slice hown5; subst hv5; have hb5 : Below w4.heap.size w4 w5 := below_of_grown hg5 (by simp [Value.ownBlock]); clear hg5 hob5; clear R2b))
  have O1 := Lib.hid ((Rd.of_own hown4).below hb5)
  have O2 := Lib.hid (Rd.of_own hown5)
  have hb45 := bmore hb4 hb5 (Nat.le_refl _)
  have T1 := Lib.hid (R1.out.below hb45)
  have T2 := Lib.hid (R2.out.below hb45)
  have T3 := Lib.hid (R3.out.below hb45)
  have T4 := Lib.hid (R4.out.below hb45)
  have D0 := Lib.hid ((hb45.cell (p := ⟨g, 0, none⟩) HLT.out).trans C0.out)
  have D1 := Lib.hid ((hb45.cell (p := ⟨g, 1, none⟩) HLT.out).trans C1.out)
  have HB5 := Lib.hid (HB.out.trans (hb45.mono HB.out.size))
  have HL5 := Lib.hid (Nat.lt_of_lt_of_le HLT.out hb45.size)
  clear hown4 hown5 hb4 hb5 hb45 R1 R2 R3 R4 C0 C1 HB HLT hi hz0 hz1 hz2
  refine (need_any _ _ _ _ _ _ _ O1.out (by omega) HD.out).mono ?_
  rintro e w6 ⟨rfl, rfl⟩
  go_wp2_with fail
  refine (rNeed_any _ _ _ _ _ _ _ T1.out (by omega) HD.out).mono ?_
  rintro e w6 ⟨rfl, q1, rfl⟩
  go_wp2_with fail
  refine (most_any _ _ _ _ _ _ _ _ _ _ _ (O1.out.drewN _) (by omega) (O2.out.drewN _) (by omega) HP.out).mono ?_
  rintro e w6 ⟨rfl, rfl⟩
  go_wp2_with fail
  refine (rMost_any _ _ _ _ _ _ _ _ _ _ _ (T1.out.drewN _) (by omega) (T2.out.drewN _) (by omega) HP.out).mono ?_
  rintro e w6 ⟨rfl, q2, rfl⟩
  go_upto_region 9 with (fail)
  have O1_ := Lib.hid (O1.out.drewN (q1 + q2))
  have O2_ := Lib.hid (O2.out.drewN (q1 + q2))
  have T1_ := Lib.hid (T1.out.drewN (q1 + q2))
  have T2_ := Lib.hid (T2.out.drewN (q1 + q2))
  have T3_ := Lib.hid (T3.out.drewN (q1 + q2))
  have T4_ := Lib.hid (T4.out.drewN (q1 + q2))
  have D0_ : Hid ((w5.drewN (q1 + q2)).cell? ⟨g, 0, none⟩ = some (.slice C l cl)) := Lib.hid D0.out
  have D1_ : Hid ((w5.drewN (q1 + q2)).cell? ⟨g, 1, none⟩ = some (.slice D k ck)) := Lib.hid D1.out
  have HB5_ := Lib.hid (below_drewN HB5.out (q1 + q2))
  have HL5_ : Hid (g < (w5.drewN (q1 + q2)).heap.size) := Lib.hid HL5.out
  clear O1 O2 T1 T2 T3 T4 D0 D1 HB5 HL5
  have O1 := O1_; have O2 := O2_; have T1 := T1_; have T2 := T2_; have T3 := T3_; have T4 := T4_; have D0 := D0_; have D1 := D1_; have HB5 := HB5_; have HL5 := HL5_
  clear O1_ O2_ T1_ T2_ T3_ T4_ D0_ D1_ HB5_ HL5_
  generalize w5.drewN (q1 + q2) = wk at O1 O2 T1 T2 T3 T4 D0 D1 HB5 HL5 ⊢
  have hS : ∀ w', Below wk.heap.size wk w' → w'.cell? ⟨g, 0, none⟩ = some (.slice C l cl) ∧ w'.cell? ⟨g, 1, none⟩ = some (.slice D k ck) := fun w' h => ⟨(h.cell (p := ⟨g, 0, none⟩) HL5.out).trans D0.out, (h.cell (p := ⟨g, 1, none⟩) HL5.out).trans D1.out⟩
  have HSS := Lib.hid hS; clear hS
  have bb1 : Below wk.heap.size wk wk.drew := (Below.refl _ _).drew
  obtain ⟨p0, p1⟩ := HSS.out wk (Below.refl _ _)
  have gn : n ≤ 9223372036854775807 := by omega
  have gm : m ≤ 9223372036854775807 := by omega
  have gl : l ≤ 9223372036854775807 := by omega
  have gk : k ≤ 9223372036854775807 := by omega
  clear D0 D1
  go_region_held3 (fun w' => w'.cell? ⟨g, 0, none⟩ = some (.slice C l cl) ∧ w'.cell? ⟨g, 1, none⟩ = some (.slice D k ck))
    (first | exact HSS.out _ bb9 | exact HSS.out _ bb8 | exact HSS.out _ bb7 | exact HSS.out _ bb6 | exact HSS.out _ bb5 | exact HSS.out _ bb4 | exact HSS.out _ bb3 | exact HSS.out _ bb2 | exact HSS.out _ bb1 | go_keep)
    (first
      | (go_at_call 8; ((with_reducible refine (check_b A4 n c4 ms y1 _ (O1.out.below bb1) gn HC.out).mono ?_); rintro e wa1 ⟨rfl, ha1⟩; have bb2 : Below wk.heap.size wk wa1 := bb1.trans (ha1.mono bb1.size)))
      | (go_at_call 14; ((with_reducible refine (rCheck_b A n cn ms y1 _ (T1.out.below bb2) gn HC.out).mono ?_); rintro e wa2 ⟨rfl, ha2⟩; have bb3 : Below wk.heap.size wk wa2 := bb2.trans (ha2.mono bb2.size)))
      | (go_at_call 9; ((with_reducible refine (checkGroup_any C l cl rs D k ck gs y3 _ (T3.out.below bb3) gl (T4.out.below bb3) gk HG.out).mono ?_); rintro e wa3 ⟨rfl, ha3⟩; have bb4 : Below wk.heap.size wk wa3 := bb3.trans (ha3.mono bb3.size)))
      | (go_at_call 15; ((with_reducible refine (rCheckGroup_any C l cl rs D k ck gs y3 _ (T3.out.below bb4) gl (T4.out.below bb4) gk HG.out).mono ?_); rintro e wa4 ⟨rfl, ha4⟩; have bb5 : Below wk.heap.size wk wa4 := bb4.trans (ha4.mono bb4.size)))
      | (go_at_call 16; ((with_reducible refine (has_b A4 n c4 ms x _ (O1.out.below bb5) gn).mono ?_); rintro e wa5 ⟨rfl, ha5⟩; have bb6 : Below wk.heap.size wk wa5 := bb5.trans (ha5.mono bb5.size)))
      | (go_at_call 17; ((with_reducible refine (rHas_b A n cn ms x _ (T1.out.below bb6) gn).mono ?_); rintro e wa6 ⟨rfl, ha6⟩; have bb7 : Below wk.heap.size wk wa6 := bb6.trans (ha6.mono bb6.size)))
      | (go_at_call 18; ((with_reducible refine (same_b A4 A n c4 cn ms _ (O1.out.below bb7) (T1.out.below bb7) gn).mono ?_); rintro e wa7 ⟨rfl, ha7⟩; have bb8 : Below wk.heap.size wk wa7 := bb7.trans (ha7.mono bb7.size)))
      | (go_at_call 18; ((with_reducible refine (same_b A5 B m c5 cm xs _ (O2.out.below bb8) (T2.out.below bb8) gm).mono ?_); rintro e wa8 ⟨rfl, ha8⟩; have bb9 : Below wk.heap.size wk wa8 := bb8.trans (ha8.mono bb8.size)))
    )
  all_goals
    go_wp2_with fail
    go_ret
    exact ⟨rfl, HB5.out.trans (bb9.mono HB5.out.size)⟩

theorem quorumTells_walk (A : Option Addr) (n cn : Nat) (zs : List Int) (B : Option Addr) (m cm : Nat) (ys : List Int) (v : Value) (rs gs : List Int) (x : Int) (w : World) (h1 : IsRow .i64 w A n cn zs) (h2 : IsRow .i64 w B m cm ys) (h3 : GroupArg w v rs gs) (hx : (Lit.int .i64 x).wf = true) :
    Calls Try.prog 4 #[.slice A n cn, .slice B m cm, v, .int .i64 x] w fun e w' => e = .returned (.bool true) ∧ Below w.heap.size w w' := by
  obtain ⟨C, l, cl, D, k, ck, rfl, _, _, r1, _, _, r2⟩ := h3
  by_cases hg : n ≤ 2000 ∧ m ≤ 2000 ∧ l ≤ 2000 ∧ k ≤ 2000
  · exact tells_rd A B C D n cn m cm l cl k ck _ _ rs gs x w h1.ints h2.ints r1 r2 hg.1 hg.2.1 hg.2.2.1 hg.2.2.2
  · exact tells_great A B C D n cn m cm l cl k ck x w (by omega)
end Go.Proofs.Ytodldnnonhlhgaa
