/-
  The walk of WalNames: the errors have their numbers, and the chapter's examples are so.
-/
import Derived.Test.YtkdnkaiknmcfmaaWalE
import Derived.Test.YtkdnkaiknmcfmaaWalMath
import Derived.Deep.DeepCutAuto
import Derived.Deep.RegionHeld3
namespace Go.Proofs.Ytkdnkaiknmcfmaa
open Go.RowKit
set_option linter.unusedVariables false

theorem names_2 : CrashIs [1, 97] [(false, [2, 98, 99])] 0 2 [1, 97, 2, 98] 0 := .inr (.inr ⟨by decide, by omega, by decide, by omega, rfl, rfl⟩)
theorem names_3 : OpenIs [1, 97, 2, 98] [] [1, 97, 2, 98] [(true, [1, 97])] [[97]] 0 := .inr (.inr ⟨by decide, by decide, .inr (.inr ⟨by decide, by decide, rfl, rfl, rfl⟩), .inl ⟨rfl, by decide⟩⟩)
theorem names_4 : AddIs [1, 97, 2, 98] [] [[120]] [] [] 8 := .inr (.inr (.inr (.inl ⟨by decide, by decide, by decide, by decide, rfl, rfl, rfl⟩)))
theorem names_5 : ResetIs [1, 97] [] [[120]] [1, 97] [(true, [1, 120])] 0 := .inr (.inr (.inr ⟨by decide, by decide, ⟨by decide, by decide⟩, .inr (.inr ⟨by decide, by decide, rfl, rfl, rfl⟩)⟩))
theorem names_6 : OpenIs [1, 97] [(true, [1, 120])] [1, 97] [(true, [1, 120])] [[120]] 0 := .inr (.inl ⟨by decide, by decide, rfl, rfl, by decide, rfl⟩)
theorem names_7 : OpenIs [] (List.replicate 1025 (false, [])) [] [] [] 30 := .inl ⟨fun h => by have := h.1; rw [List.length_replicate] at this; omega, rfl, rfl, rfl, rfl⟩
theorem names_8 : AddIs [1, 97] [] (List.replicate 1025 []) [] [] 4 := .inr (.inl ⟨by decide, by rw [List.length_replicate]; omega, rfl, rfl, rfl⟩)

/-- make of elements of s cells each -/
theorem wpList_make_s {P : Program} (w : World) {ops : Array Oper} {rest : List Oper} {o : Oper} {a : Act} {Q : Exit → Act → World → Prop}
    (hg : o.guard = none) (l c : Operand) (t : TypeId) (hop : o.op = Op.makeSlice t l c)
    (e : TypeId) (i : TypeInfo) (z : Value) (s : Nat) (ht : P.underlying t = some (.slice e)) (hi : P.info? e = some i) (hz : i.zero = some z) (hsize : i.size = s)
    (kl kc : IntKind) (n : Nat) (hl : a.eval l = .int kl (n : Int)) (hc : a.eval c = .int kc (n : Int)) (hbytes : i.bytes * n ≤ 281474976710656) (h63 : n ≤ maxLen)
    (h : ∀ A w', w'.ownsRow w.heap.size e s (.slice A n n) n (madeCells z.cells (n * s)).toList → Below w.heap.size w w' → wpList P ops Q rest (a.put o.dst (.slice A n n)) w') :
    wpList P ops Q (o :: rest) a w := by
  refine wpList_plain hg fun K hK => ?_
  obtain ⟨w', hrun, hown, hgr⟩ := run_make_full (P := P) w w.heap.size t e i z s ht hi hz hsize kl kc n hbytes h63 (Nat.le_refl _)
  unfold Oper.wp
  simp only [execOp, hop, hl, hc, hrun, Result.andThen_ok, Sem.run_bind, Sem.run_pure]
  exact hK _ _ (h _ _ hown (below_of_grown hgr (by simp)))
theorem made_pairs (x : Value) (n : Nat) : (madeCells #[.bool false, x] (n * 2)).toList = pc (List.replicate n (false, x)) := by
  have hlen : (pc (List.replicate n (false, x))).length = n * 2 := by rw [pc_length, List.length_replicate]
  apply List.ext_getElem?
  intro j
  by_cases hj : j < n * 2
  · have hk : (List.replicate n (false, x))[j / 2]? = some (false, x) := by rw [List.getElem?_replicate, if_pos (by omega)]
    have h0 := pc_even _ _ _ hk
    have h1 := pc_odd _ _ _ hk
    rcases Nat.mod_two_eq_zero_or_one j with h | h
    · rw [show j / 2 * 2 = j by omega] at h0
      rw [h0]
      simp [madeCells, hj, h]
    · rw [show j / 2 * 2 + 1 = j by omega] at h1
      rw [h1]
      simp [madeCells, hj, h]
  · have h1 : (pc (List.replicate n (false, x)))[j]? = none := List.getElem?_eq_none (by rw [hlen]; omega)
    rw [h1]
    simp [madeCells, hj]
theorem disk_made {w : World} {base n : Nat} {t : TypeId} {A : Option Addr} (h : w.ownsRow base t 2 (.slice A n n) n (madeCells (Value.agg #[.bool false, .slice none 0 0]).cells (n * 2)).toList) (hn : n ≤ maxLen) :
    DiskIs w (.agg #[.slice none 0 0, .slice A n n]) [] (List.replicate n (false, [])) := by
  have h' : w.ownsRow base t 2 (.slice A n n) n (pc (List.replicate n (false, .slice none 0 0))) := by
    rw [← made_pairs]; exact h
  refine ⟨none, 0, 0, A, n, n, rfl, Nat.le_refl _, Nat.zero_le _, Nat.le_refl _, hn, Rd.nil, by simp, _, RdS.of_own h', by simp, ?_⟩
  intro i p q hp hq
  rw [List.getElem?_replicate] at hp hq
  split at hp
  · rename_i hlt
    rw [if_pos hlt] at hq
    injection hp with hp
    injection hq with hq
    subst hp; subst hq
    exact ⟨rfl, none, 0, rfl, Nat.le_refl _, Nat.zero_le _, Rd.nil⟩
  · cases hp

theorem DiskIs.drew' {w : World} {v : Value} {b : List UInt8} {ps : List DM.Wr} (h : DiskIs w v b ps) : DiskIs w.drew v b ps := h.below (Below.refl _ _).drew
theorem DiskIs.alloc' {w : World} {v : Value} {b : List UInt8} {ps : List DM.Wr} (h : DiskIs w v b ps) (o : Obj) : DiskIs (w.alloc o) v b ps := h.below ((Below.refl _ _).alloc (Nat.le_refl _) o)
theorem cutp {p q : Prop} (h : p) (k : p → q) : q := k h
theorem siz_alloc (w : World) (o : Obj) : (w.alloc o).heap.size = w.heap.size + 1 := by simp
def ManyAns (w : World) (e : Ending) (w' : World) : Prop := e = .returned (.tuple #[.agg #[.slice none 0 0, .slice none 0 0], .int .i64 4]) ∧ Below w.heap.size w w'
def MidN (u : World) (z : Value) (wx : World) : Prop := z = .int .i64 4 ∧ Below u.heap.size u wx
set_option maxRecDepth 100000 in
set_option maxHeartbeats 4000000 in
theorem add_many (v : Value) (L : Option Addr) (nl cl : Nat) (b : List UInt8) (ps : List DM.Wr) (w : World) (HV : Hid (DiskIs w v b ps)) (hmay : DM.may b ps) (h2 : 1024 < nl) (hnl : nl ≤ 9223372036854775807) :
    Calls Try.prog 7 #[v, .slice L nl cl] w (ManyAns w) := by
  obtain ⟨r, ts, k, x0, hRd⟩ := readIs_ex b ps
  obtain ⟨nr, hnr⟩ : ∃ nr, r.length = nr := ⟨_, rfl⟩
  obtain ⟨q, hq⟩ : ∃ q, ts.length = q := ⟨_, rfl⟩
  have HRd := Lib.hid hRd
  have HNR := Lib.hid hnr
  have HQ := Lib.hid hq
  clear hRd hnr hq
  obtain ⟨A, n1, c, B, m1, d, rfl, h1, h3, h4, h5, h6, h7⟩ := HV.out
  have hB0 : Below w.heap.size w ((w.alloc (.cells #[.slice A n1 c, .slice B m1 d] 25)).alloc (.cells #[.slice none 0 0, .slice none 0 0] 25)) := ((Below.refl _ _).alloc (Nat.le_refl _) _).alloc (by simp) _
  have X := Lib.hid (show Box ((w.alloc (.cells #[.slice A n1 c, .slice B m1 d] 25)).alloc (.cells #[.slice none 0 0, .slice none 0 0] 25)) w.heap.size 25 #[.slice A n1 c, .slice B m1 d] from (Box.new _ _ _).alloc _)
  have Y := Lib.hid (show Box ((w.alloc (.cells #[.slice A n1 c, .slice B m1 d] 25)).alloc (.cells #[.slice none 0 0, .slice none 0 0] 25)) (w.heap.size + 1) 25 #[.slice none 0 0, .slice none 0 0] from Box.new_at _ (by simp))
  have HV0 := Lib.hid (HV.out.below hB0)
  have HB := Lib.hid hB0
  clear h1 h3 h4 h5 h6 h7 hB0 HV
  go_enter Try.func7, Try.ntmps7
  go_upto_region 1 with (fail)
  generalize ((w.alloc (.cells #[.slice A n1 c, .slice B m1 d] 25)).alloc (.cells #[.slice none 0 0, .slice none 0 0] 25)) = w0 at X Y HV0 HB ⊢
  have k0 : w0.cell? ⟨w.heap.size, 0, none⟩ = some (.slice A n1 c) := X.out.cell 0
  have k1 : w0.cell? ⟨w.heap.size, 1, none⟩ = some (.slice B m1 d) := X.out.cell 1
  go_wp2_with fail
  clear k0 k1
  refine (read_any _ b r ps ts nr q k x0 _ HV0 HRd HNR HQ).mono ?_
  rintro e w1 ⟨A1, c1, C1, g1, rfl, hr1, l1, l2, hr2, hb1⟩
  have Y1 := Lib.hid (Y.out.below hb1 Y.out.lt)
  have HB1 := Lib.hid (bmore HB.out hb1 (Nat.le_refl _))
  clear hr1 l2 hr2 hb1 X Y HV0 HB
  have hYlt := Y1.out.lt
  obtain ⟨hr, hcut, rfl⟩ : r = DM.behind b ps ∧ NM.cut r = (ts, k) ∧ x0 = 0 := by
    rcases HRd.out with ⟨_, h⟩ | ⟨h, _⟩
    · exact h
    · exact absurd hmay h
  clear hr hcut
  have z0 : w1.cell? ⟨w.heap.size + 1, 0, none⟩ = some (.slice none 0 0) := Y1.out.cell 0
  have z1 : w1.cell? ⟨w.heap.size + 1, 1, none⟩ = some (.slice none 0 0) := Y1.out.cell 1
  have z2 : w1.frozen? ⟨w.heap.size + 1, 0, none⟩ = false := Y1.out.frozen 0
  have z3 : w1.frozen? ⟨w.heap.size + 1, 1, none⟩ = false := Y1.out.frozen 1
  go_wp2_with fail
  exact bodyPost_ret (v := .tuple #[.agg #[.slice none 0 0, .slice none 0 0], .int .i64 4]) (by simp [results, Try.results7, go_sem, z0, z1]) rfl ⟨rfl, below_put HB1.out (by omega) _ _⟩

set_option maxRecDepth 100000 in
set_option maxHeartbeats 8000000 in
theorem walNames_walk (w : World) : Calls Try.prog 3 #[] w fun e w' => e = .returned (.bool true) ∧ Below w.heap.size w w' := by
  obtain ⟨j0, hj, hy0, hy1, hy2⟩ := info_parts info_put
  have HJ := Lib.hid (And.intro hj (And.intro hy0 (And.intro hy1 hy2))); clear hj hy0 hy1 hy2
  obtain ⟨i0, hi, hz0, hz1, hz2⟩ := info_parts info_str
  have HI := Lib.hid (And.intro hi (And.intro hz0 (And.intro hz1 hz2))); clear hi hz0 hz1 hz2
  go_enter Try.func3, Try.ntmps3
  go_wp2_with fail
  refine (one_any w).mono ?_
  rintro e wa ⟨Aa, rfl, hd1, hb1⟩
  have hba : Below wa.heap.size wa (wa.alloc (.cells #[.string ⟨#[98, 99]⟩] 9)) := (Below.refl _ _).alloc (Nat.le_refl _) _
  have HW := Lib.hid (bmore hb1 hba (Nat.le_refl _))
  have HV := Lib.hid (hd1.below hba)
  have HR := Lib.hid (show Rd (wa.alloc (.cells #[.string ⟨#[98, 99]⟩] 9)) (some ⟨wa.heap.size, 0, none⟩) 1 (sc [[98, 99]]) from rd_new _ _ _)
  clear hd1 hb1 hba
  go_wp2_with fail
  generalize wa.alloc (.cells #[.string ⟨#[98, 99]⟩] 9) = ua at HV HR HW  ⊢
  generalize wa.heap.size = ga at HR ⊢
  refine (add_any _ _ 1 1 [1, 97] _ [] _ [[98, 99]] 0 2 1 _ HV HR (Lib.hid (by decide)) (by omega) (Lib.hid alive_1) (Lib.hid rfl) (Lib.hid rfl)).mono ?_
  clear HV HR
  rintro e w1 ⟨A1, c1, B1, d1, rfl, hown, hb⟩
  obtain ⟨hst, v1⟩ := var_step hb hown
  have HW_ := Lib.hid (bmore HW.out hst (Nat.le_refl _))
  clear HW 
  have HW := HW_; clear HW_
  have V1 := Lib.hid v1
  clear hown hb hst v1
  have k01 := V1.out.c0
  have k11 := V1.out.c1
  go_wp2_with fail
  clear k01 k11
  generalize w1.alloc (.cells #[.slice A1 2 c1, .slice B1 1 d1] 25) = u1 at V1 HW ⊢
  generalize w1.heap.size = g1 at V1 ⊢
  refine (crash_s _ [1, 97] [1, 97, 2, 98] [(false, [2, 98, 99])] 0 2 0 4 _ (Lib.hid V1.out.2) (Lib.hid names_2) (by omega) (by omega) (by omega) (by omega) (Lib.hid rfl)).mono ?_
  rintro e w2 ⟨A2, c2, B2, d2, rfl, hown, hb⟩
  obtain ⟨hst, v2⟩ := var_step hb hown
  have V1_ := Lib.hid (V1.out.below hst)
  have HW_ := Lib.hid (bmore HW.out hst (Nat.le_refl _))
  clear HW V1
  have V1 := V1_; clear V1_
  have HW := HW_; clear HW_
  have V2 := Lib.hid v2
  clear hown hb hst v2
  have k02 := V2.out.c0
  have k12 := V2.out.c1
  go_wp2_with fail
  clear k02 k12
  generalize w2.alloc (.cells #[.slice A2 4 c2, .slice B2 0 d2] 25) = u2 at V1 V2 HW ⊢
  generalize w2.heap.size = g2 at V2 ⊢
  refine (open_any _ [1, 97, 2, 98] _ [] _ [[97]] 0 4 1 1 _ (Lib.hid V2.out.2) (Lib.hid names_3) (Lib.hid rfl) (Lib.hid rfl) (Lib.hid rfl)).mono ?_
  rintro e w3 ⟨A3, c3, B3, d3, C3, e3, rfl, hown, hr, l1, l2, hb⟩
  obtain ⟨hst, v3⟩ := var_step hb hown
  have hr_ := hr.below ((Below.refl w3.heap.size w3).alloc (Nat.le_refl _) (.cells #[.slice A3 4 c3, .slice B3 1 d3] 25))
  have V1_ := Lib.hid (V1.out.below hst)
  have V2_ := Lib.hid (V2.out.below hst)
  have HW_ := Lib.hid (bmore HW.out hst (Nat.le_refl _))
  clear HW V1 V2
  have V1 := V1_; clear V1_
  have V2 := V2_; clear V2_
  have HW := HW_; clear HW_
  have V3 := Lib.hid v3
  have R3 := Lib.hid hr_
  have L3 := Lib.hid (And.intro l1 l2)
  clear hown hb hst v3 hr hr_ l1 l2
  have k02 := V2.out.c0
  have k12 := V2.out.c1
  have hba : Below (w3.alloc (.cells #[.slice A3 4 c3, .slice B3 1 d3] 25)).heap.size (w3.alloc (.cells #[.slice A3 4 c3, .slice B3 1 d3] 25)) ((w3.alloc (.cells #[.slice A3 4 c3, .slice B3 1 d3] 25)).alloc (.cells #[.string ⟨#[120]⟩] 9)) := (Below.refl _ _).alloc (Nat.le_refl _) _
  have hR := rd_new (w3.alloc (.cells #[.slice A3 4 c3, .slice B3 1 d3] 25)) (.string ⟨#[120]⟩) 9
  rw [show (w3.alloc (.cells #[.slice A3 4 c3, .slice B3 1 d3] 25)).heap.size = w3.heap.size + 1 by simp] at hR
  have HR := Lib.hid (show Rd ((w3.alloc (.cells #[.slice A3 4 c3, .slice B3 1 d3] 25)).alloc (.cells #[.string ⟨#[120]⟩] 9)) (some ⟨w3.heap.size + 1, 0, none⟩) 1 (sc [[120]]) from hR); clear hR
  have V1_ := Lib.hid (V1.out.below hba)
  have V2_ := Lib.hid (V2.out.below hba)
  have V3_ := Lib.hid (V3.out.below hba)
  have R3_ := Lib.hid (R3.out.below hba)
  have HW_ := Lib.hid (bmore HW.out hba (Nat.le_refl _))
  clear HW V1 V2 V3 R3
  have V1 := V1_; clear V1_
  have V2 := V2_; clear V2_
  have V3 := V3_; clear V3_
  have R3 := R3_; clear R3_
  have HW := HW_; clear HW_
  clear hba
  go_wp2_with fail
  clear k02 k12
  generalize (w3.alloc (.cells #[.slice A3 4 c3, .slice B3 1 d3] 25)).alloc (.cells #[.string ⟨#[120]⟩] 9) = u31 at HR HW V1 V2 V3 R3 ⊢
  generalize w3.heap.size + 1 = g31 at HR ⊢
  generalize w3.heap.size = g3 at V3 ⊢
  refine (add_any _ _ 1 1 [1, 97, 2, 98] _ [] _ [[120]] 8 0 0 _ (Lib.hid V2.out.2) HR (Lib.hid (by decide)) (by omega) (Lib.hid names_4) (Lib.hid rfl) (Lib.hid rfl)).mono ?_
  clear HR
  rintro e w4 ⟨A4, c4, B4, d4, rfl, hown, hb⟩
  obtain ⟨hst, v4⟩ := var_step hb hown
  have V1_ := Lib.hid (V1.out.below hst)
  have V2_ := Lib.hid (V2.out.below hst)
  have V3_ := Lib.hid (V3.out.below hst)
  have R3_ := Lib.hid (R3.out.below hst)
  have HW_ := Lib.hid (bmore HW.out hst (Nat.le_refl _))
  clear HW V1 V2 V3 R3
  have V1 := V1_; clear V1_
  have V2 := V2_; clear V2_
  have V3 := V3_; clear V3_
  have R3 := R3_; clear R3_
  have HW := HW_; clear HW_
  have V4 := Lib.hid v4
  clear hown hb hst v4
  go_wp2_with fail
  generalize w4.alloc (.cells #[.slice A4 0 c4, .slice B4 0 d4] 25) = u4 at V1 V2 V3 V4 R3 HW ⊢
  generalize w4.heap.size = g4 at V4 ⊢
  refine (one_any _).mono ?_
  rintro e wb ⟨Ab, rfl, hd1, hb1⟩
  have hba : Below wb.heap.size wb (wb.alloc (.cells #[.string ⟨#[120]⟩] 9)) := (Below.refl _ _).alloc (Nat.le_refl _) _
  have hb2 : Below u4.heap.size u4 _ := bmore hb1 hba (Nat.le_refl _)
  have V1_ := Lib.hid (V1.out.below hb2)
  have V2_ := Lib.hid (V2.out.below hb2)
  have V3_ := Lib.hid (V3.out.below hb2)
  have V4_ := Lib.hid (V4.out.below hb2)
  have R3_ := Lib.hid (R3.out.below hb2)
  have HW_ := Lib.hid (bmore HW.out hb2 (Nat.le_refl _))
  clear HW V1 V2 V3 V4 R3
  have V1 := V1_; clear V1_
  have V2 := V2_; clear V2_
  have V3 := V3_; clear V3_
  have V4 := V4_; clear V4_
  have R3 := R3_; clear R3_
  have HW := HW_; clear HW_
  clear hb2
  have HV := Lib.hid (hd1.below hba)
  have HR := Lib.hid (show Rd (wb.alloc (.cells #[.string ⟨#[120]⟩] 9)) (some ⟨wb.heap.size, 0, none⟩) 1 (sc [[120]]) from rd_new _ _ _)
  clear hd1 hb1 hba
  go_wp2_with fail
  generalize wb.alloc (.cells #[.string ⟨#[120]⟩] 9) = ub at HV HR HW V1 V2 V3 V4 R3 ⊢
  generalize wb.heap.size = gb at HR ⊢
  refine (reset_any _ _ 1 1 [1, 97] _ [] _ [[120]] 0 2 1 _ HV HR (Lib.hid (by decide)) (Lib.hid (by unfold maxLen; omega)) (Lib.hid names_5) (Lib.hid rfl) (Lib.hid rfl)).mono ?_
  clear HV HR
  rintro e w5 ⟨A5, c5, B5, d5, rfl, hown, hb⟩
  obtain ⟨hst, v5⟩ := var_step hb hown
  have V1_ := Lib.hid (V1.out.below hst)
  have V2_ := Lib.hid (V2.out.below hst)
  have V3_ := Lib.hid (V3.out.below hst)
  have V4_ := Lib.hid (V4.out.below hst)
  have R3_ := Lib.hid (R3.out.below hst)
  have HW_ := Lib.hid (bmore HW.out hst (Nat.le_refl _))
  clear HW V1 V2 V3 V4 R3
  have V1 := V1_; clear V1_
  have V2 := V2_; clear V2_
  have V3 := V3_; clear V3_
  have V4 := V4_; clear V4_
  have R3 := R3_; clear R3_
  have HW := HW_; clear HW_
  have V5 := Lib.hid v5
  clear hown hb hst v5
  have k05 := V5.out.c0
  have k15 := V5.out.c1
  go_wp2_with fail
  clear k05 k15
  generalize w5.alloc (.cells #[.slice A5 2 c5, .slice B5 1 d5] 25) = u5 at V1 V2 V3 V4 V5 R3 HW ⊢
  generalize w5.heap.size = g5 at V5 ⊢
  refine (open_any _ [1, 97] _ [(true, [1, 120])] _ [[120]] 0 2 1 1 _ (Lib.hid V5.out.2) (Lib.hid names_6) (Lib.hid rfl) (Lib.hid rfl) (Lib.hid rfl)).mono ?_
  rintro e w6 ⟨A6, c6, B6, d6, C6, e6, rfl, hown, hr, l1, l2, hb⟩
  obtain ⟨hst, v6⟩ := var_step hb hown
  have hr_ := hr.below ((Below.refl w6.heap.size w6).alloc (Nat.le_refl _) (.cells #[.slice A6 2 c6, .slice B6 1 d6] 25))
  have V1_ := Lib.hid (V1.out.below hst)
  have V2_ := Lib.hid (V2.out.below hst)
  have V3_ := Lib.hid (V3.out.below hst)
  have V4_ := Lib.hid (V4.out.below hst)
  have V5_ := Lib.hid (V5.out.below hst)
  have R3_ := Lib.hid (R3.out.below hst)
  have HW_ := Lib.hid (bmore HW.out hst (Nat.le_refl _))
  clear HW V1 V2 V3 V4 V5 R3
  have V1 := V1_; clear V1_
  have V2 := V2_; clear V2_
  have V3 := V3_; clear V3_
  have V4 := V4_; clear V4_
  have V5 := V5_; clear V5_
  have R3 := R3_; clear R3_
  have HW := HW_; clear HW_
  have V6 := Lib.hid v6
  have R6 := Lib.hid hr_
  have L6 := Lib.hid (And.intro l1 l2)
  clear hown hb hst v6 hr hr_ l1 l2
  go_upto_region 7 with (fail)
  generalize w6.alloc (.cells #[.slice A6 2 c6, .slice B6 1 d6] 25) = u6 at V1 V2 V3 V4 V5 V6 R3 R6 HW ⊢
  generalize w6.heap.size = g6 at V6 ⊢
  go_wp2_with (at_make; refine wpList_make_s _ rfl _ _ 23 rfl 37 j0 (.agg #[.bool false, .slice none 0 0]) 2 Try.underlying23 HJ.out.1 HJ.out.2.1 HJ.out.2.2.1 .i64 .i64 1025 rfl rfl (by rw [HJ.out.2.2.2]; omega) (by unfold maxLen; omega) ?_; intro Am wm hownm hbm; have hdm := disk_made hownm (by unfold maxLen; omega); have HDM := Lib.hid hdm; have HBM := Lib.hid hbm; clear hownm hdm hbm)
  have V1_ := Lib.hid (V1.out.below HBM.out)
  have V2_ := Lib.hid (V2.out.below HBM.out)
  have V3_ := Lib.hid (V3.out.below HBM.out)
  have V4_ := Lib.hid (V4.out.below HBM.out)
  have V5_ := Lib.hid (V5.out.below HBM.out)
  have V6_ := Lib.hid (V6.out.below HBM.out)
  have R3_ := Lib.hid (R3.out.below HBM.out)
  have R6_ := Lib.hid (R6.out.below HBM.out)
  have HW_ := Lib.hid (bmore HW.out HBM.out (Nat.le_refl _))
  clear HW V1 V2 V3 V4 V5 V6 R3 R6
  have V1 := V1_; clear V1_
  have V2 := V2_; clear V2_
  have V3 := V3_; clear V3_
  have V4 := V4_; clear V4_
  have V5 := V5_; clear V5_
  have V6 := V6_; clear V6_
  have R3 := R3_; clear R3_
  have R6 := R6_; clear R6_
  have HW := HW_; clear HW_
  clear HBM
  refine (open_any _ [] _ (List.replicate 1025 (false, [])) _ [] 30 0 0 0 _ HDM (Lib.hid names_7) (Lib.hid rfl) (Lib.hid rfl) (Lib.hid rfl)).mono ?_
  clear HDM
  rintro e w7 ⟨A7, c7, B7, d7, C7, e7, rfl, hown, hr, l1, l2, hb⟩
  obtain ⟨hst, v7⟩ := var_step hb hown
  have hr_ := hr.below ((Below.refl w7.heap.size w7).alloc (Nat.le_refl _) (.cells #[.slice A7 0 c7, .slice B7 0 d7] 25))
  have V1_ := Lib.hid (V1.out.below hst)
  have V2_ := Lib.hid (V2.out.below hst)
  have V3_ := Lib.hid (V3.out.below hst)
  have V4_ := Lib.hid (V4.out.below hst)
  have V5_ := Lib.hid (V5.out.below hst)
  have V6_ := Lib.hid (V6.out.below hst)
  have R3_ := Lib.hid (R3.out.below hst)
  have R6_ := Lib.hid (R6.out.below hst)
  have HW_ := Lib.hid (bmore HW.out hst (Nat.le_refl _))
  clear HW V1 V2 V3 V4 V5 V6 R3 R6
  have V1 := V1_; clear V1_
  have V2 := V2_; clear V2_
  have V3 := V3_; clear V3_
  have V4 := V4_; clear V4_
  have V5 := V5_; clear V5_
  have V6 := V6_; clear V6_
  have R3 := R3_; clear R3_
  have R6 := R6_; clear R6_
  have HW := HW_; clear HW_
  have V7 := Lib.hid v7
  have R7 := Lib.hid hr_
  have L7 := Lib.hid (And.intro l1 l2)
  clear hown hb hst v7 hr hr_ l1 l2
  go_upto_region 8 with (fail)
  generalize w7.alloc (.cells #[.slice A7 0 c7, .slice B7 0 d7] 25) = u7 at V1 V2 V3 V4 V5 V6 V7 R3 R6 R7 HW ⊢
  generalize w7.heap.size = g7 at V7 ⊢
  obtain ⟨mk, hmk⟩ : ∃ mk, ∀ W, (Instr.makeSlice 30 (.int .i64 1025) (.int .i64 1025)).run Try.prog W = .ok (.slice (some ⟨W.heap.size, 0, none⟩) 1025 1025) (W.alloc (.cells mk 9)) := ⟨_, fun W => run_make (P := Try.prog) W _ _ i0 _ Try.underlying30 HI.out.1 HI.out.2.1 .i64 .i64 1025 1025 (by omega) (by omega) (by rw [HI.out.2.2.2]; omega) (by omega)⟩
  clear HI HJ V1 V2 V4 V5 V6 V7 R7 L3 L6 L7
  go_cut [19] (fun z19 wx => MidN u7 z19 wx)
  case first =>
    clear HW V3 R3 R6
    go_region_held3 (fun w' => True) (trivial) (first
      | (go_at_call 8; refine (one_any _).mono ?_; rintro e wo ⟨Ao, rfl, hdo, hbo⟩; refine cutp (bmore (B := u7.heap.size) (a := u7) ?_ hbo (Nat.le_refl _)) ?_; (focus ((repeat (first | with_reducible exact Below.refl _ _ | with_reducible refine Below.drew ?_ | with_reducible refine Below.alloc ?_ ?_ _ | (focus (simp; done)))); done)); intro hBo; (first | (refine cutp (Box.below (g := u7.heap.size) (t := 25) (cs := #[.slice none 0 0, .slice none 0 0]) ?_ hbo ?_) ?_; (focus ((repeat (first | with_reducible exact Box.new _ _ _ | with_reducible exact Box.new_at _ (siz_alloc _ _) | with_reducible refine Box.drew ?_ | with_reducible refine Box.alloc ?_ _)); done)); (focus ((simp; try omega); done)); intro hx) | (refine cutp (Box.below (g := u7.heap.size + 1) (t := 25) (cs := #[.slice none 0 0, .slice none 0 0]) ?_ hbo ?_) ?_; (focus ((repeat (first | with_reducible exact Box.new _ _ _ | with_reducible exact Box.new_at _ (siz_alloc _ _) | with_reducible refine Box.drew ?_ | with_reducible refine Box.alloc ?_ _)); done)); (focus ((simp; try omega); done)); intro hx) | skip); clear hbo)
      | (go_at_call 7; refine (add_many _ _ _ _ [1, 97] [] _ (Lib.hid ?_) (by decide) (by omega) (by omega)).mono ?_; (focus ((repeat (first | with_reducible exact hdo | with_reducible refine DiskIs.drew' ?_ | with_reducible refine DiskIs.alloc' ?_ _)); done)); rintro e wm ⟨rfl, hbm⟩; refine cutp (bmore (B := u7.heap.size) (a := u7) ?_ hbm (Nat.le_refl _)) ?_; (focus ((repeat (first | with_reducible exact hBo | with_reducible refine Below.drew ?_ | with_reducible refine Below.alloc ?_ ?_ _ | (focus (have := hBo.size; simp; omega; done)))); done)); intro hBm; (first | (refine cutp (Box.below (g := u7.heap.size) (t := 25) (cs := #[.slice none 0 0, .slice none 0 0]) ?_ hbm ?_) ?_; (focus ((repeat (first | with_reducible exact hx | with_reducible refine Box.drew ?_ | with_reducible refine Box.alloc ?_ _)); done)); (focus ((have := hx.lt; simp; try omega); done)); intro hy) | (refine cutp (Box.below (g := u7.heap.size + 1) (t := 25) (cs := #[.slice none 0 0, .slice none 0 0]) ?_ hbm ?_) ?_; (focus ((repeat (first | with_reducible exact hx | with_reducible refine Box.drew ?_ | with_reducible refine Box.alloc ?_ _)); done)); (focus ((have := hx.lt; simp; try omega); done)); intro hy) | (refine cutp (Box.below (g := wo.heap.size) (t := 25) (cs := #[.slice none 0 0, .slice none 0 0]) ?_ hbm ?_) ?_; (focus ((repeat (first | with_reducible exact Box.new _ _ _ | with_reducible exact Box.new_at _ (siz_alloc _ _) | with_reducible refine Box.drew ?_ | with_reducible refine Box.alloc ?_ _)); done)); (focus ((simp; try omega); done)); intro hy) | (refine cutp (Box.below (g := wo.heap.size + 1) (t := 25) (cs := #[.slice none 0 0, .slice none 0 0]) ?_ hbm ?_) ?_; (focus ((repeat (first | with_reducible exact Box.new _ _ _ | with_reducible exact Box.new_at _ (siz_alloc _ _) | with_reducible refine Box.drew ?_ | with_reducible refine Box.alloc ?_ _)); done)); (focus ((simp; try omega); done)); intro hy) | (refine cutp True.intro ?_; intro hy)); (first | (have y0 := hy.cell 0; have y1 := hy.cell 1; have y2 := hy.frozen 0; have y3 := hy.frozen 1) | skip); clear hbm))
    all_goals (go_wp2_with fail; go_meet; case rel => first | exact ⟨rfl, hBm.alloc hBm.size _⟩ | exact ⟨rfl, below_put hBm (Nat.le_refl _) _ _⟩ | exact ⟨rfl, below_put hBm hBo.size _ _⟩ | exact ⟨rfl, below_put hBm (Nat.le_succ _) _ _⟩ | exact ⟨rfl, below_put hBm (Nat.le_trans hBo.size (Nat.le_succ _)) _ _⟩)
  case rest =>
    obtain ⟨rfl, hbc⟩ := hcut
  
    have V3_ := Lib.hid (V3.out.below hbc)
    have R3_ := Lib.hid (R3.out.below hbc)
    have R6_ := Lib.hid (R6.out.below hbc)
    have HW_ := Lib.hid (bmore HW.out hbc (Nat.le_refl _))
    clear HW V3 R3 R6
    have V3 := V3_; clear V3_
    have R3 := R3_; clear R3_
    have R6 := R6_; clear R6_
    have HW := HW_; clear HW_
    clear hbc hmk
    go_wp2_with fail
    refine (alive_any _).mono ?_
    rintro e wy ⟨rfl, hb⟩
    have V3_ := Lib.hid (V3.out.below hb)
    have R3_ := Lib.hid (R3.out.below hb)
    have R6_ := Lib.hid (R6.out.below hb)
    have HW_ := Lib.hid (bmore HW.out hb (Nat.le_refl _))
    clear HW V3 R3 R6
    have V3 := V3_; clear V3_
    have R3 := R3_; clear R3_
    have R6 := R6_; clear R6_
    have HW := HW_; clear HW_
    clear hb
    have hba : Below wy.heap.size wy (wy.alloc (.cells #[.string ⟨#[97]⟩] 9)) := (Below.refl _ _).alloc (Nat.le_refl _) _
    have HR := Lib.hid (show Rd (wy.alloc (.cells #[.string ⟨#[97]⟩] 9)) (some ⟨wy.heap.size, 0, none⟩) 1 (sc [[97]]) from rd_new _ _ _)
    have V3_ := Lib.hid (V3.out.below hba)
    have R3_ := Lib.hid (R3.out.below hba)
    have R6_ := Lib.hid (R6.out.below hba)
    have HW_ := Lib.hid (bmore HW.out hba (Nat.le_refl _))
    clear HW V3 R3 R6
    have V3 := V3_; clear V3_
    have R3 := R3_; clear R3_
    have R6 := R6_; clear R6_
    have HW := HW_; clear HW_
    clear hba
    go_wp2_with fail
    generalize wy.alloc (.cells #[.string ⟨#[97]⟩] 9) = uy at HR HW V3 R3 R6 ⊢
    generalize wy.heap.size = gy at HR ⊢
    refine (same_texts C3 _ 1 e3 1 [[97]] _ R3.out HR.out (by omega)).mono ?_
    clear HR
    rintro e wq ⟨rfl, qq, rfl⟩
    have hbq := below_drewN (Below.refl uy.heap.size uy) qq
    have V3_ := Lib.hid (V3.out.below hbq)
    have R3_ := Lib.hid (R3.out.below hbq)
    have R6_ := Lib.hid (R6.out.below hbq)
    have HW_ := Lib.hid (bmore HW.out hbq (Nat.le_refl _))
    clear HW V3 R3 R6
    have V3 := V3_; clear V3_
    have R3 := R3_; clear R3_
    have R6 := R6_; clear R6_
    have HW := HW_; clear HW_
    clear hbq
    generalize uy.drewN qq = uq at V3 R3 R6 HW ⊢
    obtain ⟨A', n', c', B', m', d', e, h1, h2, h3, h4, h5, h6⟩ := V3.out.2
    simp at e
    obtain ⟨⟨rfl, rfl, rfl⟩, rfl, rfl, rfl⟩ := e
    obtain ⟨bl, o, Aw, cw, sw, bw, hB, hbl, hps, hc0, hc1, lw1, lw2, hrw⟩ := h6.at_ (k := 0) (by omega)
    simp at hps
    obtain ⟨rfl, rfl⟩ := hps
    subst hB
    have x0 := V3.out.c0
    have x1 := V3.out.c1
    have y0 : uq.cell? ⟨bl, o, none⟩ = some (.bool true) := by simpa using hc0
    have y1 : uq.cell? ⟨bl, o + 1, none⟩ = some (.slice Aw 2 cw) := by simpa using hc1
    have s1 : (convert 22 9 (.slice Aw 2 cw)).run Try.prog uq = .ok (.string ⟨#[1, 97]⟩) uq := rd_str (c := cw) hrw
    clear h1 h2 h3 h4 h5 h6 hc0 hc1 lw1 lw2 hrw hbl
    have hba : Below uq.heap.size uq (uq.alloc (.cells #[.string ⟨#[120]⟩] 9)) := (Below.refl _ _).alloc (Nat.le_refl _) _
    have HR := Lib.hid (show Rd (uq.alloc (.cells #[.string ⟨#[120]⟩] 9)) (some ⟨uq.heap.size, 0, none⟩) 1 (sc [[120]]) from rd_new _ _ _)
    have V3_ := Lib.hid (V3.out.below hba)
    have R3_ := Lib.hid (R3.out.below hba)
    have R6_ := Lib.hid (R6.out.below hba)
    have HW_ := Lib.hid (bmore HW.out hba (Nat.le_refl _))
    clear HW V3 R3 R6
    have V3 := V3_; clear V3_
    have R3 := R3_; clear R3_
    have R6 := R6_; clear R6_
    have HW := HW_; clear HW_
    clear hba
    go_wp2_with fail
    generalize uq.alloc (.cells #[.string ⟨#[120]⟩] 9) = uz at HR HW V3 R3 R6 ⊢
    generalize uq.heap.size = gz at HR ⊢
    clear x0 x1 y0 y1 s1
    refine (same_texts C6 _ 1 e6 1 [[120]] _ R6.out HR.out (by omega)).mono ?_
    clear HR
    rintro e wq ⟨rfl, qq, rfl⟩
    have hbq := below_drewN (Below.refl uz.heap.size uz) qq
    have V3_ := Lib.hid (V3.out.below hbq)
    have R3_ := Lib.hid (R3.out.below hbq)
    have R6_ := Lib.hid (R6.out.below hbq)
    have HW_ := Lib.hid (bmore HW.out hbq (Nat.le_refl _))
    clear HW V3 R3 R6
    have V3 := V3_; clear V3_
    have R3 := R3_; clear R3_
    have R6 := R6_; clear R6_
    have HW := HW_; clear HW_
    clear hbq
    go_wp2
    go_ret
    exact ⟨rfl, HW.out⟩
    

end Go.Proofs.Ytkdnkaiknmcfmaa
