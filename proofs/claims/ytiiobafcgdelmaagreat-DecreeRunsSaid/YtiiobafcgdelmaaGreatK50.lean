/- Contracts of functions of towncrier, layers 5 to 9, and of the document's own ones, part 50; each as its theorem says. -/
import Derived.Test.YtiiobafcgdelmaaGreatK01
import Derived.Test.YtiiobafcgdelmaaGreatK27
import Derived.Test.YtiiobafcgdelmaaGreatK29
import Derived.Deep.LoopGhost
import Derived.Deep.CutBlock
import Derived.Test.YtiiobafcgdelmaaGreatProg
import Derived.Deep.QuietTactic
import Derived.BigQuiet
set_option linter.unusedVariables false
set_option linter.unusedSimpArgs false
namespace Go.Proofs.YtiiobafcgdelmaaGreat.PD
open Go.RowKit Go.Shelf
theorem str_eq2 {x y : ByteArray} (h : x.toList = y.toList) : x = y := by
 rw [ByteArray.toList_eq, ByteArray.toList_eq] at h
 obtain ⟨⟨l⟩⟩ := x
 obtain ⟨⟨k⟩⟩ := y
 simp at h
 rw [h]
theorem vt_ways {a b : DC.Vt} (h : a ≠ b) : ((a.p == b.p) = false) ∨ ((a.p == b.p) = true ∧ (a.b == b.b) = false) ∨ ((a.p == b.p) = true ∧ (a.b == b.b) = true ∧ (a.v.toList == b.v.toList) = false) := by
 rcases h0 : a.p == b.p with _ | _
 ·simp [h0]
 rcases h1 : a.b == b.b with _ | _
 ·simp [h0, h1]
 rcases h2 : a.v.toList == b.v.toList with _ | _
 ·simp [h0, h1, h2]
 refine absurd ?_ h
 obtain ⟨x0, x1, x2⟩ := a
 obtain ⟨y0, y1, y2⟩ := b
 simp only [beq_iff_eq] at h0 h1 h2
 have := str_eq2 h2
 subst h0 h1 this
 rfl
theorem ch_ways {a b : DC.Ch} (h : a ≠ b) : ((a.n == b.n) = false) ∨ ((a.n == b.n) = true ∧ (a.v.toList == b.v.toList) = false) := by
 rcases h0 : a.n == b.n with _ | _
 ·simp [h0]
 rcases h1 : a.v.toList == b.v.toList with _ | _
 ·simp [h0, h1]
 refine absurd ?_ h
 obtain ⟨x0, x1⟩ := a
 obtain ⟨y0, y1⟩ := b
 simp only [beq_iff_eq] at h0 h1
 have := str_eq2 h1
 subst h0 this
 rfl
theorem ml_ways {a b : DC.Ml} (h : a ≠ b) : ((a.f == b.f) = false) ∨ ((a.f == b.f) = true ∧ (a.t == b.t) = false) ∨ ((a.f == b.f) = true ∧ (a.t == b.t) = true ∧ (a.k == b.k) = false) ∨ ((a.f == b.f) = true ∧ (a.t == b.t) = true ∧ (a.k == b.k) = true ∧ (a.g == b.g) = false) ∨ ((a.f == b.f) = true ∧ (a.t == b.t) = true ∧ (a.k == b.k) = true ∧ (a.g == b.g) = true ∧ (a.s == b.s) = false) ∨ ((a.f == b.f) = true ∧ (a.t == b.t) = true ∧ (a.k == b.k) = true ∧ (a.g == b.g) = true ∧ (a.s == b.s) = true ∧ (a.b == b.b) = false) ∨ ((a.f == b.f) = true ∧ (a.t == b.t) = true ∧ (a.k == b.k) = true ∧ (a.g == b.g) = true ∧ (a.s == b.s) = true ∧ (a.b == b.b) = true ∧ (a.p == b.p) = false) ∨ ((a.f == b.f) = true ∧ (a.t == b.t) = true ∧ (a.k == b.k) = true ∧ (a.g == b.g) = true ∧ (a.s == b.s) = true ∧ (a.b == b.b) = true ∧ (a.p == b.p) = true ∧ (a.v.toList == b.v.toList) = false) ∨ ((a.f == b.f) = true ∧ (a.t == b.t) = true ∧ (a.k == b.k) = true ∧ (a.g == b.g) = true ∧ (a.s == b.s) = true ∧ (a.b == b.b) = true ∧ (a.p == b.p) = true ∧ (a.v.toList == b.v.toList) = true ∧ (a.i == b.i) = false) ∨ ((a.f == b.f) = true ∧ (a.t == b.t) = true ∧ (a.k == b.k) = true ∧ (a.g == b.g) = true ∧ (a.s == b.s) = true ∧ (a.b == b.b) = true ∧ (a.p == b.p) = true ∧ (a.v.toList == b.v.toList) = true ∧ (a.i == b.i) = true ∧ (a.m == b.m) = false) := by
 rcases h0 : a.f == b.f with _ | _
 ·simp [h0]
 rcases h1 : a.t == b.t with _ | _
 ·simp [h0, h1]
 rcases h2 : a.k == b.k with _ | _
 ·simp [h0, h1, h2]
 rcases h3 : a.g == b.g with _ | _
 ·simp [h0, h1, h2, h3]
 rcases h4 : a.s == b.s with _ | _
 ·simp [h0, h1, h2, h3, h4]
 rcases h5 : a.b == b.b with _ | _
 ·simp [h0, h1, h2, h3, h4, h5]
 rcases h6 : a.p == b.p with _ | _
 ·simp [h0, h1, h2, h3, h4, h5, h6]
 rcases h7 : a.v.toList == b.v.toList with _ | _
 ·simp [h0, h1, h2, h3, h4, h5, h6, h7]
 rcases h8 : a.i == b.i with _ | _
 ·simp [h0, h1, h2, h3, h4, h5, h6, h7, h8]
 rcases h9 : a.m == b.m with _ | _
 ·simp [h0, h1, h2, h3, h4, h5, h6, h7, h8, h9]
 refine absurd ?_ h
 obtain ⟨x0, x1, x2, x3, x4, x5, x6, x7, x8, x9⟩ := a
 obtain ⟨y0, y1, y2, y3, y4, y5, y6, y7, y8, y9⟩ := b
 simp only [beq_iff_eq] at h0 h1 h2 h3 h4 h5 h6 h7 h8 h9
 have := str_eq2 h7
 subst h0 h1 h2 h3 h4 h5 h6 h8 h9 this
 rfl
theorem wd_eq {a b : DC.Wd} : a = b ↔ a.ms = b.ms ∧ a.vs = b.vs ∧ a.ts = b.ts ∧ a.ml = b.ml ∧ a.ch = b.ch := by
 obtain ⟨_, _, _, _, _⟩ := a
 obtain ⟨_, _, _, _, _⟩ := b
 simp
set_option maxRecDepth 100000 in
set_option maxHeartbeats 8000000 in
theorem rwsame_any (v : Value) (a : DC.Wd) (u : Value) (b : DC.Wd) (W : World) (H : WIs W v a) (K : WIs W u b) (F : WFit a) (G : WFit b) :
  Calls Tryz.prog 10 #[v, u] W (BoolIs (decide (a = b)) W) := by
 obtain ⟨r, hr⟩ : ∃ r, r = decide (a = b) := ⟨_, rfl⟩
 rw [← hr]
 have hrf : ¬ a = b → false = r := fun h => by rw [hr]; simpa using h
 have hrt : a.ms = b.ms → a.vs = b.vs → a.ts = b.ts → a.ml = b.ml → a.ch = b.ch → true = r := fun h0 h1 h2 h3 h4 => by rw [hr]; symm; rw [decide_eq_true_iff]; exact wd_eq.2 ⟨h0, h1, h2, h3, h4⟩
 have HRF := h! hrf
 have HRT := h! hrt
 obtain ⟨A0, c0, A1, c1, A2, c2, A3, c3, A4, c4, xs, rfl, R⟩ := H
 obtain ⟨B0, d0, B1, d1, B2, d2, B3, d3, B4, d4, ys, rfl, S⟩ := K
 obtain ⟨W0, hW0⟩ : ∃ W0, W0 = (W.alloc (.cells #[.slice A0 a.ms.length c0, .slice A1 a.vs.length c1, .slice A2 a.ts.length c2, .slice A3 a.ml.length c3, .slice A4 a.ch.length c4] 28)).alloc (.cells #[.slice B0 b.ms.length d0, .slice B1 b.vs.length d1, .slice B2 b.ts.length d2, .slice B3 b.ml.length d3, .slice B4 b.ch.length d4] 28) := ⟨_, rfl⟩
 have HB0 := h! (show Below W.heap.size W W0 by rw [hW0]; exact below2 _ _)
 have HX0 := h! (show Box W0 W.heap.size 28 #[.slice A0 a.ms.length c0, .slice A1 a.vs.length c1, .slice A2 a.ts.length c2, .slice A3 a.ml.length c3, .slice A4 a.ch.length c4] by rw [hW0]; exact (Box.new _ _ _).below ((Below.refl _ _).alloc n! _) (by simp))
 have HY0 := h! (show Box W0 (W.heap.size + 1) 28 #[.slice B0 b.ms.length d0, .slice B1 b.vs.length d1, .slice B2 b.ts.length d2, .slice B3 b.ml.length d3, .slice B4 b.ch.length d4] by rw [hW0]; exact Box.new_at _ (by simp))
 have HSI := h! (fun (U : World) (hU : Below W.heap.size W U) => sameInts_any A0 a.ms.length c0 a.ms B0 b.ms.length d0 b.ms U (R.h0.below hU) (S.h0.below hU) (by have := F.l0; omega) (by have := G.l0; omega))
 have HA := h! R
 have HB := h! S
 have HFA := h! F
 have HFB := h! G
 clear R S F G hr hrf hrt
 generalize hgb : W.heap.size = gb at HX0 HY0
 go_enter Tryz.func10, Tryz.ntmps10
 go_wp2_with fail
 rw [← hW0]
 refine (HSI.out _ HB0.out).mono ?_
 clear hW0 HSI
 rintro e w1 ⟨rfl, q1, rfl⟩
 have HB1 := h! (below_drewN HB0.out q1)
 have HX1 : Hid (∀ wr, Below (W0.drewN q1).heap.size (W0.drewN q1) wr → Box wr gb 28 #[.slice A0 a.ms.length c0, .slice A1 a.vs.length c1, .slice A2 a.ts.length c2, .slice A3 a.ml.length c3, .slice A4 a.ch.length c4]) := h! (fun wr h => (HX0.out.below (below_drewN (Below.refl _ _) q1) HX0.out.lt).below h HX0.out.lt)
 have HY1 : Hid (∀ wr, Below (W0.drewN q1).heap.size (W0.drewN q1) wr → Box wr (gb + 1) 28 #[.slice B0 b.ms.length d0, .slice B1 b.vs.length d1, .slice B2 b.ts.length d2, .slice B3 b.ml.length d3, .slice B4 b.ch.length d4]) := h! (fun wr h => (HY0.out.below (below_drewN (Below.refl _ _) q1) HY0.out.lt).below h HY0.out.lt)
 clear HB0 HX0 HY0
 generalize W0.drewN q1 = w1 at HB1 HX1 HY1 ⊢
 generalize gb + 1 = gc at HY1 ⊢
 have h11 := Below.refl w1.heap.size w1
 obtain ⟨⟨x0, x1, x2, x3, x4⟩, _⟩ := (HX1.out w1 h11).five
 obtain ⟨⟨y0, y1, y2, y3, y4⟩, _⟩ := (HY1.out w1 h11).five
 by_cases hms : a.ms = b.ms
 rotate_left
 ·rw [decide_eq_false hms]
  have HRE := h! (HRF.out (fun h => hms (by rw [h])))
  clear hms
  go_wp2_with fail
  go_ret
  exact bool_ret HRE.out HB1.out
 rw [decide_eq_true hms]
 have HMS := h! hms
 clear hms
 by_cases hvs : a.vs.length = b.vs.length
 rotate_left
 ·have HRE := h! (HRF.out (fun h => hvs (by rw [h])))
  have e1 : ((a.vs.length : Int) != (b.vs.length : Int)) = true := by simp; omega
  clear hvs
  go_wp2_with fail
  go_ret
  exact bool_ret HRE.out HB1.out
 have e1 : ((a.vs.length : Int) != (b.vs.length : Int)) = false := by rw [hvs]; simp
 by_cases hts : a.ts.length = b.ts.length
 rotate_left
 ·have HRE := h! (HRF.out (fun h => hts (by rw [h])))
  have e2 : ((a.ts.length : Int) != (b.ts.length : Int)) = true := by simp; omega
  clear hvs hts
  go_wp2_with fail
  go_ret
  exact bool_ret HRE.out HB1.out
 have e2 : ((a.ts.length : Int) != (b.ts.length : Int)) = false := by rw [hts]; simp
 by_cases hml : a.ml.length = b.ml.length
 rotate_left
 ·have HRE := h! (HRF.out (fun h => hml (by rw [h])))
  have e3 : ((a.ml.length : Int) != (b.ml.length : Int)) = true := by simp; omega
  clear hvs hts hml
  go_wp2_with fail
  go_ret
  exact bool_ret HRE.out HB1.out
 have e3 : ((a.ml.length : Int) != (b.ml.length : Int)) = false := by rw [hml]; simp
 by_cases hch : a.ch.length = b.ch.length
 rotate_left
 ·have HRE := h! (HRF.out (fun h => hch (by rw [h])))
  have e4 : ((a.ch.length : Int) != (b.ch.length : Int)) = true := by simp; omega
  clear hvs hts hml hch
  go_wp2_with fail
  go_ret
  exact bool_ret HRE.out HB1.out
 have e4 : ((a.ch.length : Int) != (b.ch.length : Int)) = false := by rw [hch]; simp
 have HL := h! (And.intro hvs (And.intro hts (And.intro hml hch)))
 clear hvs hts hml hch h11
 go_upto_block 0 with (fail)
 clear x0 x1 x2 x3 x4 y0 y1 y2 y3 y4 e1 e2 e3 e4
 go_cut [] (fun wx => Hid (Below w1.heap.size w1 wx) ∧ Hid (a.vs = b.vs))
 case first =>
  go_wp2_with fail
  go_loopw [5] (fun i wr => ∃ k : Nat, k ≤ a.vs.length ∧ i = .int .i64 k ∧ Hid (Below w1.heap.size w1 wr) ∧ Hid (a.vs.take k = b.vs.take k)) (fun i _ => a.vs.length - (intOf i).toNat)
  case atStart => exact ⟨0, by omega, rfl, h! (Below.refl _ _), h! (by simp)⟩
  case round =>
   obtain ⟨k, hk, rfl, HR, HT⟩ := hrel
   obtain ⟨⟨x0, x1, x2, x3, x4⟩, _⟩ := (HX1.out _ HR.out).five
   obtain ⟨⟨y0, y1, y2, y3, y4⟩, _⟩ := (HY1.out _ HR.out).five
   have hfl := HFA.out.l1
   by_cases hlt : k < a.vs.length
   ·have hlt2 : k < b.vs.length := by have := HL.out.1; omega
    have hM := List.getElem?_eq_getElem hlt
    have hN := List.getElem?_eq_getElem hlt2
    have i0 : (0 : Int) ≤ (k : Int) := by omega
    have i1 : (k : Int) < (a.vs.length : Int) := by omega
    have i2 : (k : Int) < (b.vs.length : Int) := by omega
    obtain ⟨bl1, o1, rfl, hb1, p0, p1, p2⟩ := RdG.vote (RdG.below HA.out.h1 (bmore HB1.out HR.out n!)) hlt hM
    obtain ⟨bl2, o2, rfl, hb2, q0, q1, q2⟩ := RdG.vote (RdG.below HB.out.h1 (bmore HB1.out HR.out n!)) hlt2 hN
    generalize a.vs[k] = m1 at hM p0 p1 p2
    generalize b.vs[k] = m2 at hN q0 q1 q2
    clear hb1 hb2
    by_cases he : m1 = m2
    ·subst he
     have HT2 := h! (take_snoc_eq HT.out hM hN rfl)
     clear hM hN HT
     go_wp2_with fail
     go_quiet (fail)
     go_wp2_with fail
     go_roundw
     case rel => exact ⟨k + 1, by omega, by go_num, h! (below_drewN HR.out _), HT2⟩
     case measure => simp [intOf]; omega
    ·have HRE := h! (HRF.out (fun h => he (by have h2 := hM; rw [h, hN] at h2; injection h2 with h2; exact h2.symm)))
     have hw := vt_ways he
     clear hM hN HT he
     rcases hw with ⟨z0⟩ | ⟨z0, z1⟩ | ⟨z0, z1, z2⟩
     all_goals
      go_wp2_with fail
      go_quiet (fail)
      go_wp2_with fail
      go_ret
      exact bool_ret HRE.out (bmore HB1.out (below_drewN HR.out _) n!)
   ·obtain rfl : a.vs.length = k := by omega
    have HE := h! (show a.vs = b.vs by have := HT.out; rwa [List.take_length, List.take_of_length_le (by have := HL.out.1; omega)] at this)
    clear HT
    go_wp2_with fail
    go_meet
    case rel => exact ⟨HR, HE⟩
 case rest =>
  obtain ⟨HWZ, HEvs⟩ := hcut
  rename World => wz
  obtain ⟨⟨x0, x1, x2, x3, x4⟩, _⟩ := (HX1.out _ HWZ.out).five
  obtain ⟨⟨y0, y1, y2, y3, y4⟩, _⟩ := (HY1.out _ HWZ.out).five
  go_upto_block 2 with (fail)
  clear x0 x1 x2 x3 x4 y0 y1 y2 y3 y4
  go_cut [] (fun wx => Hid (Below w1.heap.size w1 wx) ∧ Hid (a.ts = b.ts))
  case first =>
   go_wp2_with fail
   go_loopw [6] (fun i wr => ∃ k : Nat, k ≤ a.ts.length ∧ i = .int .i64 k ∧ Hid (Below w1.heap.size w1 wr) ∧ Hid (a.ts.take k = b.ts.take k)) (fun i _ => a.ts.length - (intOf i).toNat)
   case atStart => exact ⟨0, by omega, rfl, HWZ, h! (by simp)⟩
   case round =>
    obtain ⟨k, hk, rfl, HR, HT⟩ := hrel
    obtain ⟨⟨x0, x1, x2, x3, x4⟩, _⟩ := (HX1.out _ HR.out).five
    obtain ⟨⟨y0, y1, y2, y3, y4⟩, _⟩ := (HY1.out _ HR.out).five
    have hfl := HFA.out.l2
    by_cases hlt : k < a.ts.length
    ·have hlt2 : k < b.ts.length := by have := HL.out.2.1; omega
     have hM := List.getElem?_eq_getElem hlt
     have hN := List.getElem?_eq_getElem hlt2
     have i0 : (0 : Int) ≤ (k : Int) := by omega
     have i1 : (k : Int) < (a.ts.length : Int) := by omega
     have i2 : (k : Int) < (b.ts.length : Int) := by omega
     obtain ⟨bl1, o1, C1, n1, k1, C2, n2, k2, C3, n3, k3, rfl, hb1, r1, r2, r3, p0, p1, p2, p3, p4, p5, p6⟩ := RdG.try_ (RdG.below HA.out.h2 (bmore HB1.out HR.out n!)) rfl (HA.out.ht.below (bmore HB1.out HR.out n!)) hM
     obtain ⟨bl2, o2, D1, m1, j1, D2, m2, j2, D3, m3, j3, rfl, hb2, s1, s2, s3, q0, q1, q2, q3, q4, q5, q6⟩ := RdG.try_ (RdG.below HB.out.h2 (bmore HB1.out HR.out n!)) rfl (HB.out.ht.below (bmore HB1.out HR.out n!)) hN
     have hf1 := HFA.out.ts _ (List.getElem_mem hlt)
     have hf2 := HFB.out.ts _ (List.getElem_mem hlt2)
     generalize a.ts[k] = t1 at hM hf1 r1 r2 r3 p0 p1 p2 p3 p4 p5 p6
     generalize b.ts[k] = t2 at hN hf2 s1 s2 s3 q0 q1 q2 q3 q4 q5 q6
     have hat1 : AtIs wr (.agg #[.int .u8 t1.ph, .int .i64 t1.ba, .slice C1 n1 k1, .string t1.wi, .string t1.va, .slice C2 n2 k2, .slice C3 n3 k3]) t1 := ⟨C1, n1, k1, C2, n2, k2, C3, n3, k3, rfl, r1, r2, r3⟩
     have hat2 : AtIs wr (.agg #[.int .u8 t2.ph, .int .i64 t2.ba, .slice D1 m1 j1, .string t2.wi, .string t2.va, .slice D2 m2 j2, .slice D3 m3 j3]) t2 := ⟨D1, m1, j1, D2, m2, j2, D3, m3, j3, rfl, s1, s2, s3⟩
     have HSA := h! (fun (U : World) (hU : Below wr.heap.size wr U) => rsame_any _ t1 _ t2 U (hat1.below hU) (hat2.below hU) hf1 hf2)
     have hS : ∀ w', Below wr.heap.size wr w' → w'.cell? ⟨gb, 2, none⟩ = some (.slice (some ⟨bl1, o1, none⟩) a.ts.length c2) ∧ w'.cell? ⟨gc, 2, none⟩ = some (.slice (some ⟨bl2, o2, none⟩) b.ts.length d2) ∧ w'.cell? ⟨bl1, o1 + k * 7, none⟩ = some (.int .u8 t1.ph) ∧ w'.cell? ⟨bl1, o1 + k * 7 + 1, none⟩ = some (.int .i64 t1.ba) ∧ w'.cell? ⟨bl1, o1 + k * 7 + 2, none⟩ = some (.slice C1 n1 k1) ∧ w'.cell? ⟨bl1, o1 + k * 7 + 3, none⟩ = some (.string t1.wi) ∧ w'.cell? ⟨bl1, o1 + k * 7 + 4, none⟩ = some (.string t1.va) ∧ w'.cell? ⟨bl1, o1 + k * 7 + 5, none⟩ = some (.slice C2 n2 k2) ∧ w'.cell? ⟨bl1, o1 + k * 7 + 6, none⟩ = some (.slice C3 n3 k3) ∧ w'.cell? ⟨bl2, o2 + k * 7, none⟩ = some (.int .u8 t2.ph) ∧ w'.cell? ⟨bl2, o2 + k * 7 + 1, none⟩ = some (.int .i64 t2.ba) ∧ w'.cell? ⟨bl2, o2 + k * 7 + 2, none⟩ = some (.slice D1 m1 j1) ∧ w'.cell? ⟨bl2, o2 + k * 7 + 3, none⟩ = some (.string t2.wi) ∧ w'.cell? ⟨bl2, o2 + k * 7 + 4, none⟩ = some (.string t2.va) ∧ w'.cell? ⟨bl2, o2 + k * 7 + 5, none⟩ = some (.slice D2 m2 j2) ∧ w'.cell? ⟨bl2, o2 + k * 7 + 6, none⟩ = some (.slice D3 m3 j3) := fun w' hb => by
      have hx := (HX1.out _ (bmore HR.out hb n!)).five.1.2.2.1
      have hy := (HY1.out _ (bmore HR.out hb n!)).five.1.2.2.1
      exact ⟨hx, hy, (hb.cell hb1).trans p0, (hb.cell hb1).trans p1, (hb.cell hb1).trans p2, (hb.cell hb1).trans p3, (hb.cell hb1).trans p4, (hb.cell hb1).trans p5, (hb.cell hb1).trans p6, (hb.cell hb2).trans q0, (hb.cell hb2).trans q1, (hb.cell hb2).trans q2, (hb.cell hb2).trans q3, (hb.cell hb2).trans q4, (hb.cell hb2).trans q5, (hb.cell hb2).trans q6⟩
     have HSS := h! hS
     have heq : t1 = t2 → a.ts.take (k + 1) = b.ts.take (k + 1) := fun h => take_snoc_eq HT.out hM hN h
     have hne : ¬ t1 = t2 → false = r := fun hn => HRF.out (fun h => hn (by have h2 := hM; rw [h, hN] at h2; injection h2 with h2; exact h2.symm))
     have HEQ := h! heq
     have HNE := h! hne
     have HWR := h! (show Below wr.heap.size wr wr.drew from (Below.refl _ _).drew)
     clear hat1 hat2 hS heq hne hf1 hf2 hM hN r1 r2 r3 s1 s2 s3 p0 p1 p2 p3 p4 p5 p6 q0 q1 q2 q3 q4 q5 q6 x0 x1 x3 x4 y0 y1 y3 y4 HT hb1 hb2
     go_upto_region 11 with (fail)
     clear x2 y2
     refine wp_region_held_drew (S := fun w' => w'.cell? ⟨gb, 2, none⟩ = some (.slice (some ⟨bl1, o1, none⟩) a.ts.length c2) ∧ w'.cell? ⟨gc, 2, none⟩ = some (.slice (some ⟨bl2, o2, none⟩) b.ts.length d2) ∧ w'.cell? ⟨bl1, o1 + k * 7, none⟩ = some (.int .u8 t1.ph) ∧ w'.cell? ⟨bl1, o1 + k * 7 + 1, none⟩ = some (.int .i64 t1.ba) ∧ w'.cell? ⟨bl1, o1 + k * 7 + 2, none⟩ = some (.slice C1 n1 k1) ∧ w'.cell? ⟨bl1, o1 + k * 7 + 3, none⟩ = some (.string t1.wi) ∧ w'.cell? ⟨bl1, o1 + k * 7 + 4, none⟩ = some (.string t1.va) ∧ w'.cell? ⟨bl1, o1 + k * 7 + 5, none⟩ = some (.slice C2 n2 k2) ∧ w'.cell? ⟨bl1, o1 + k * 7 + 6, none⟩ = some (.slice C3 n3 k3) ∧ w'.cell? ⟨bl2, o2 + k * 7, none⟩ = some (.int .u8 t2.ph) ∧ w'.cell? ⟨bl2, o2 + k * 7 + 1, none⟩ = some (.int .i64 t2.ba) ∧ w'.cell? ⟨bl2, o2 + k * 7 + 2, none⟩ = some (.slice D1 m1 j1) ∧ w'.cell? ⟨bl2, o2 + k * 7 + 3, none⟩ = some (.string t2.wi) ∧ w'.cell? ⟨bl2, o2 + k * 7 + 4, none⟩ = some (.string t2.va) ∧ w'.cell? ⟨bl2, o2 + k * 7 + 5, none⟩ = some (.slice D2 m2 j2) ∧ w'.cell? ⟨bl2, o2 + k * 7 + 6, none⟩ = some (.slice D3 m3 j3)) (by kernel_rfl) (HSS.out _ HWR.out) (fun hHeld => ?_)
     refine qT 0 ?_
     try simp only [Act.put, qq]
     refine qT 1 ?_
     try simp only [Act.put, qq]
     refine qT 2 ?_
     try simp only [Act.put, qq]
     refine qT 3 ?_
     try simp only [Act.put, qq]
     refine qT 4 ?_
     try simp only [Act.put, qq]
     refine qT 5 ?_
     try simp only [Act.put, qq]
     refine qT 6 ?_
     try simp only [Act.put, qq]
     refine qT 7 ?_
     try simp only [Act.put, qq]
     refine qT 8 ?_
     try simp only [Act.put, qq]
     refine qT 9 ?_
     try simp only [Act.put, qq]
     refine qR 10 fun K hK => ?_
     go_simp
     refine (HSA.out _ HWR.out).mono ?_
     rintro e w2 ⟨rfl, hb⟩
     have HW2 := h! (bmore HWR.out hb n!)
     refine hK.out _ _ (HSS.out _ HW2.out) (fun hHeld => ?_)
     clear hK hb
     try simp only [Act.put, qq]
     refine qT 11 ?_
     try simp only [Act.put, qq]
     refine wpAnyH_done (by kernel_rfl) ?_ _
     clear hHeld HSA
     by_cases he : t1 = t2
     ·rw [decide_eq_true he]
      have HT2 := h! (HEQ.out he)
      clear he
      go_wp2_with fail
      go_roundw
      case rel => exact ⟨k + 1, by omega, by go_num, h! (bmore HR.out HW2.out n!), HT2⟩
      case measure => simp [intOf]; omega
     ·rw [decide_eq_false he]
      have HRE := h! (HNE.out he)
      clear he
      go_wp2_with fail
      go_ret
      exact bool_ret HRE.out (bmore HB1.out (bmore HR.out HW2.out n!) n!)
    ·obtain rfl : a.ts.length = k := by omega
     have HE := h! (show a.ts = b.ts by have := HT.out; rwa [List.take_length, List.take_of_length_le (by have := HL.out.2.1; omega)] at this)
     clear HT
     go_wp2_with fail
     go_meet
     case rel => exact ⟨HR, HE⟩
  case rest =>
   obtain ⟨HWZ, HEts⟩ := hcut
   rename World => wz
   obtain ⟨⟨x0, x1, x2, x3, x4⟩, _⟩ := (HX1.out _ HWZ.out).five
   obtain ⟨⟨y0, y1, y2, y3, y4⟩, _⟩ := (HY1.out _ HWZ.out).five
   go_upto_block 4 with (fail)
   clear x0 x1 x2 x3 x4 y0 y1 y2 y3 y4
   go_cut [] (fun wx => Hid (Below w1.heap.size w1 wx) ∧ Hid (a.ml = b.ml))
   case first =>
    go_wp2_with fail
    go_loopw [7] (fun i wr => ∃ k : Nat, k ≤ a.ml.length ∧ i = .int .i64 k ∧ Hid (Below w1.heap.size w1 wr) ∧ Hid (a.ml.take k = b.ml.take k)) (fun i _ => a.ml.length - (intOf i).toNat)
    case atStart => exact ⟨0, by omega, rfl, HWZ, h! (by simp)⟩
    case round =>
     obtain ⟨k, hk, rfl, HR, HT⟩ := hrel
     obtain ⟨⟨x0, x1, x2, x3, x4⟩, _⟩ := (HX1.out _ HR.out).five
     obtain ⟨⟨y0, y1, y2, y3, y4⟩, _⟩ := (HY1.out _ HR.out).five
     have hfl := HFA.out.l3
     by_cases hlt : k < a.ml.length
     ·have hlt2 : k < b.ml.length := by have := HL.out.2.2.1; omega
      have hM := List.getElem?_eq_getElem hlt
      have hN := List.getElem?_eq_getElem hlt2
      have i0 : (0 : Int) ≤ (k : Int) := by omega
      have i1 : (k : Int) < (a.ml.length : Int) := by omega
      have i2 : (k : Int) < (b.ml.length : Int) := by omega
      obtain ⟨bl1, o1, rfl, hb1, p0, p1, p2, p3, p4, p5, p6, p7, p8, p9⟩ := RdG.mail (RdG.below HA.out.h3 (bmore HB1.out HR.out n!)) hlt hM
      obtain ⟨bl2, o2, rfl, hb2, q0, q1, q2, q3, q4, q5, q6, q7, q8, q9⟩ := RdG.mail (RdG.below HB.out.h3 (bmore HB1.out HR.out n!)) hlt2 hN
      generalize a.ml[k] = m1 at hM p0 p1 p2 p3 p4 p5 p6 p7 p8 p9
      generalize b.ml[k] = m2 at hN q0 q1 q2 q3 q4 q5 q6 q7 q8 q9
      clear hb1 hb2
      by_cases he : m1 = m2
      ·subst he
       have HT2 := h! (take_snoc_eq HT.out hM hN rfl)
       clear hM hN HT
       go_wp2_with fail
       go_quiet (fail)
       go_wp2_with fail
       go_roundw
       case rel => exact ⟨k + 1, by omega, by go_num, h! (below_drewN HR.out _), HT2⟩
       case measure => simp [intOf]; omega
      ·have HRE := h! (HRF.out (fun h => he (by have h2 := hM; rw [h, hN] at h2; injection h2 with h2; exact h2.symm)))
       have hw := ml_ways he
       clear hM hN HT he
       rcases hw with ⟨z0⟩ | ⟨z0, z1⟩ | ⟨z0, z1, z2⟩ | ⟨z0, z1, z2, z3⟩ | ⟨z0, z1, z2, z3, z4⟩ | ⟨z0, z1, z2, z3, z4, z5⟩ | ⟨z0, z1, z2, z3, z4, z5, z6⟩ | ⟨z0, z1, z2, z3, z4, z5, z6, z7⟩ | ⟨z0, z1, z2, z3, z4, z5, z6, z7, z8⟩ | ⟨z0, z1, z2, z3, z4, z5, z6, z7, z8, z9⟩
       all_goals
        go_wp2_with fail
        go_quiet (fail)
        go_wp2_with fail
        go_ret
        exact bool_ret HRE.out (bmore HB1.out (below_drewN HR.out _) n!)
     ·obtain rfl : a.ml.length = k := by omega
      have HE := h! (show a.ml = b.ml by have := HT.out; rwa [List.take_length, List.take_of_length_le (by have := HL.out.2.2.1; omega)] at this)
      clear HT
      go_wp2_with fail
      go_meet
      case rel => exact ⟨HR, HE⟩
   case rest =>
    obtain ⟨HWZ, HEml⟩ := hcut
    rename World => wz
    obtain ⟨⟨x0, x1, x2, x3, x4⟩, _⟩ := (HX1.out _ HWZ.out).five
    obtain ⟨⟨y0, y1, y2, y3, y4⟩, _⟩ := (HY1.out _ HWZ.out).five
    go_upto_block 6 with (fail)
    clear x0 x1 x2 x3 x4 y0 y1 y2 y3 y4
    go_wp2_with fail
    go_loopw [8] (fun i wr => ∃ k : Nat, k ≤ a.ch.length ∧ i = .int .i64 k ∧ Hid (Below w1.heap.size w1 wr) ∧ Hid (a.ch.take k = b.ch.take k)) (fun i _ => a.ch.length - (intOf i).toNat)
    case atStart => exact ⟨0, by omega, rfl, HWZ, h! (by simp)⟩
    case round =>
     obtain ⟨k, hk, rfl, HR, HT⟩ := hrel
     obtain ⟨⟨x0, x1, x2, x3, x4⟩, _⟩ := (HX1.out _ HR.out).five
     obtain ⟨⟨y0, y1, y2, y3, y4⟩, _⟩ := (HY1.out _ HR.out).five
     have hfl := HFA.out.l4
     by_cases hlt : k < a.ch.length
     ·have hlt2 : k < b.ch.length := by have := HL.out.2.2.2; omega
      have hM := List.getElem?_eq_getElem hlt
      have hN := List.getElem?_eq_getElem hlt2
      have i0 : (0 : Int) ≤ (k : Int) := by omega
      have i1 : (k : Int) < (a.ch.length : Int) := by omega
      have i2 : (k : Int) < (b.ch.length : Int) := by omega
      obtain ⟨bl1, o1, rfl, hb1, p0, p1⟩ := RdG.choice (RdG.below HA.out.h4 (bmore HB1.out HR.out n!)) hlt hM
      obtain ⟨bl2, o2, rfl, hb2, q0, q1⟩ := RdG.choice (RdG.below HB.out.h4 (bmore HB1.out HR.out n!)) hlt2 hN
      generalize a.ch[k] = m1 at hM p0 p1
      generalize b.ch[k] = m2 at hN q0 q1
      clear hb1 hb2
      by_cases he : m1 = m2
      ·subst he
       have HT2 := h! (take_snoc_eq HT.out hM hN rfl)
       clear hM hN HT
       go_wp2_with fail
       go_quiet (fail)
       go_wp2_with fail
       go_roundw
       case rel => exact ⟨k + 1, by omega, by go_num, h! (below_drewN HR.out _), HT2⟩
       case measure => simp [intOf]; omega
      ·have HRE := h! (HRF.out (fun h => he (by have h2 := hM; rw [h, hN] at h2; injection h2 with h2; exact h2.symm)))
       have hw := ch_ways he
       clear hM hN HT he
       rcases hw with ⟨z0⟩ | ⟨z0, z1⟩
       all_goals
        go_wp2_with fail
        go_quiet (fail)
        go_wp2_with fail
        go_ret
        exact bool_ret HRE.out (bmore HB1.out (below_drewN HR.out _) n!)
     ·obtain rfl : a.ch.length = k := by omega
      have HE := h! (show true = r from HRT.out HMS.out HEvs.out HEts.out HEml.out (by have := HT.out; rwa [List.take_length, List.take_of_length_le (by have := HL.out.2.2.2; omega)] at this))
      clear HT
      go_wp2_with fail
      go_ret
      exact bool_ret HE.out (bmore HB1.out HR.out n!)
end Go.Proofs.YtiiobafcgdelmaaGreat.PD
namespace Go.Proofs.YtiiobafcgdelmaaGreat
open Go.RowKit
set_option maxHeartbeats 1000000 in
theorem same_ints (A B : Option Addr) (n ca cb : Nat) (zs : List Int) (w : World) (h1 : Rd w A n (ic zs)) (h2 : Rd w B n (ic zs)) (hm : n ≤ 9223372036854775807) :
  Calls Tryz.prog 20 #[.slice A n ca, .slice B n cb] w fun e w' => e = .returned (.bool true) ∧ ∃ q, w' = w.drewN q := by
 have hl : zs.length = n := by have := h1.1; rwa [ic_length] at this
 have HL := h! hl; clear hl
 have hne : ((n : Int) != (n : Int)) = false := by simp
 go_enter Tryz.func20, Tryz.ntmps20
 go_wp2
 go_loopw [5] (fun i wr => ∃ k q : Nat, k ≤ n ∧ i = .int .i64 k ∧ wr = w.drewN q) (fun i _ => n - (intOf i).toNat)
 case atStart => exact ⟨0, 0, by omega, rfl, rfl⟩
 case round =>
  obtain ⟨k, q, hk, rfl, rfl⟩ := hrel
  by_cases hlt : k < n
  ·obtain ⟨ad1, u1, rfl, _, hu1, hcell1⟩ := h1.at_ hlt
   obtain ⟨ad2, u2, rfl, _, hu2, hcell2⟩ := h2.at_ hlt
   have hkz : k < zs.length := by have := HL.out; omega
   rw [ic_get zs k hkz] at hu1 hu2
   injection hu1 with hu1
   injection hu2 with hu2
   subst hu1
   subst hu2
   obtain ⟨z, hz⟩ : ∃ z, z = zs[k] := ⟨_, rfl⟩
   rw [← hz] at hcell1 hcell2
   have HZ := h! hz; clear hz
   have hk0 : (0 : Int) ≤ (k : Int) := by omega
   have hkn : (k : Int) < (n : Int) := by omega
   have hbz : (z != z) = false := by simp
   go_wp2_with fail
   go_quiet (fail)
   go_wp2_with fail
   go_roundw
   case rel => exact ⟨k + 1, q + nq, by omega, by go_num, by simp⟩
   case measure => simp [intOf]; omega
  ·go_wp2
   go_ret
   exact ⟨rfl, q, rfl⟩
end Go.Proofs.YtiiobafcgdelmaaGreat
