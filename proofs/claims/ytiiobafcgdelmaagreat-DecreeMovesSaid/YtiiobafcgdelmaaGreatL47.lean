/- Contracts of functions of towncrier, layers 5 to 9, and of the document's own ones, part 47; each as its theorem says. -/
import Derived.Test.YtiiobafcgdelmaaGreatL01
import Derived.Test.YtiiobafcgdelmaaGreatL25
import Derived.Test.YtiiobafcgdelmaaGreatL27
import Derived.Deep.LoopGhost
import Derived.Deep.CutBlock
import Derived.Test.YtiiobafcgdelmaaGreatL45
import Derived.Test.YtiiobafcgdelmaaGreatL46
import Derived.Test.YtiiobafcgdelmaaGreatL02
import Derived.Test.YtiiobafcgdelmaaGreatL05
import Derived.Lib.MinMax
import Derived.Deep.DeepCutAuto
set_option linter.unusedVariables false
set_option linter.unusedSimpArgs false
namespace Go.Proofs.YtiiobafcgdelmaaGreat.PD
open Go.RowKit Go.Shelf
theorem str_eq2 {x y : ByteArray} (h : x.toList = y.toList) : x = y := by
 rw [ByteArray.toList_eq, ByteArray.toList_eq] at h
 obtain ⟨⟨l⟩⟩ := x
 obtain ⟨⟨k⟩⟩ := y
 simp at h
 rw [h]
theorem vt_ways {a b : DC.Vt} (h : a ≠ b) : ((a.p == b.p) = false) ∨ ((a.p == b.p) = true ∧ (a.b == b.b) = false) ∨ ((a.p == b.p) = true ∧ (a.b == b.b) = true ∧ (a.v.toList == b.v.toList) = false) := by
 rcases h0 : a.p == b.p with _ | _
 ·simp [h0]
 rcases h1 : a.b == b.b with _ | _
 ·simp [h0, h1]
 rcases h2 : a.v.toList == b.v.toList with _ | _
 ·simp [h0, h1, h2]
 refine absurd ?_ h
 obtain ⟨x0, x1, x2⟩ := a
 obtain ⟨y0, y1, y2⟩ := b
 simp only [beq_iff_eq] at h0 h1 h2
 have := str_eq2 h2
 subst h0 h1 this
 rfl
theorem ch_ways {a b : DC.Ch} (h : a ≠ b) : ((a.n == b.n) = false) ∨ ((a.n == b.n) = true ∧ (a.v.toList == b.v.toList) = false) := by
 rcases h0 : a.n == b.n with _ | _
 ·simp [h0]
 rcases h1 : a.v.toList == b.v.toList with _ | _
 ·simp [h0, h1]
 refine absurd ?_ h
 obtain ⟨x0, x1⟩ := a
 obtain ⟨y0, y1⟩ := b
 simp only [beq_iff_eq] at h0 h1
 have := str_eq2 h1
 subst h0 this
 rfl
theorem ml_ways {a b : DC.Ml} (h : a ≠ b) : ((a.f == b.f) = false) ∨ ((a.f == b.f) = true ∧ (a.t == b.t) = false) ∨ ((a.f == b.f) = true ∧ (a.t == b.t) = true ∧ (a.k == b.k) = false) ∨ ((a.f == b.f) = true ∧ (a.t == b.t) = true ∧ (a.k == b.k) = true ∧ (a.g == b.g) = false) ∨ ((a.f == b.f) = true ∧ (a.t == b.t) = true ∧ (a.k == b.k) = true ∧ (a.g == b.g) = true ∧ (a.s == b.s) = false) ∨ ((a.f == b.f) = true ∧ (a.t == b.t) = true ∧ (a.k == b.k) = true ∧ (a.g == b.g) = true ∧ (a.s == b.s) = true ∧ (a.b == b.b) = false) ∨ ((a.f == b.f) = true ∧ (a.t == b.t) = true ∧ (a.k == b.k) = true ∧ (a.g == b.g) = true ∧ (a.s == b.s) = true ∧ (a.b == b.b) = true ∧ (a.p == b.p) = false) ∨ ((a.f == b.f) = true ∧ (a.t == b.t) = true ∧ (a.k == b.k) = true ∧ (a.g == b.g) = true ∧ (a.s == b.s) = true ∧ (a.b == b.b) = true ∧ (a.p == b.p) = true ∧ (a.v.toList == b.v.toList) = false) ∨ ((a.f == b.f) = true ∧ (a.t == b.t) = true ∧ (a.k == b.k) = true ∧ (a.g == b.g) = true ∧ (a.s == b.s) = true ∧ (a.b == b.b) = true ∧ (a.p == b.p) = true ∧ (a.v.toList == b.v.toList) = true ∧ (a.i == b.i) = false) ∨ ((a.f == b.f) = true ∧ (a.t == b.t) = true ∧ (a.k == b.k) = true ∧ (a.g == b.g) = true ∧ (a.s == b.s) = true ∧ (a.b == b.b) = true ∧ (a.p == b.p) = true ∧ (a.v.toList == b.v.toList) = true ∧ (a.i == b.i) = true ∧ (a.m == b.m) = false) := by
 rcases h0 : a.f == b.f with _ | _
 ·simp [h0]
 rcases h1 : a.t == b.t with _ | _
 ·simp [h0, h1]
 rcases h2 : a.k == b.k with _ | _
 ·simp [h0, h1, h2]
 rcases h3 : a.g == b.g with _ | _
 ·simp [h0, h1, h2, h3]
 rcases h4 : a.s == b.s with _ | _
 ·simp [h0, h1, h2, h3, h4]
 rcases h5 : a.b == b.b with _ | _
 ·simp [h0, h1, h2, h3, h4, h5]
 rcases h6 : a.p == b.p with _ | _
 ·simp [h0, h1, h2, h3, h4, h5, h6]
 rcases h7 : a.v.toList == b.v.toList with _ | _
 ·simp [h0, h1, h2, h3, h4, h5, h6, h7]
 rcases h8 : a.i == b.i with _ | _
 ·simp [h0, h1, h2, h3, h4, h5, h6, h7, h8]
 rcases h9 : a.m == b.m with _ | _
 ·simp [h0, h1, h2, h3, h4, h5, h6, h7, h8, h9]
 refine absurd ?_ h
 obtain ⟨x0, x1, x2, x3, x4, x5, x6, x7, x8, x9⟩ := a
 obtain ⟨y0, y1, y2, y3, y4, y5, y6, y7, y8, y9⟩ := b
 simp only [beq_iff_eq] at h0 h1 h2 h3 h4 h5 h6 h7 h8 h9
 have := str_eq2 h7
 subst h0 h1 h2 h3 h4 h5 h6 h8 h9 this
 rfl
theorem wd_eq {a b : DC.Wd} : a = b ↔ a.ms = b.ms ∧ a.vs = b.vs ∧ a.ts = b.ts ∧ a.ml = b.ml ∧ a.ch = b.ch := by
 obtain ⟨_, _, _, _, _⟩ := a
 obtain ⟨_, _, _, _, _⟩ := b
 simp
set_option maxRecDepth 100000 in
set_option maxHeartbeats 8000000 in
theorem rwsame_any (v : Value) (a : DC.Wd) (u : Value) (b : DC.Wd) (W : World) (H : WIs W v a) (K : WIs W u b) (F : WFit a) (G : WFit b) :
  Calls Tryz.prog 10 #[v, u] W (BoolIs (decide (a = b)) W) := by
 obtain ⟨r, hr⟩ : ∃ r, r = decide (a = b) := ⟨_, rfl⟩
 rw [← hr]
 have hrf : ¬ a = b → false = r := fun h => by rw [hr]; simpa using h
 have hrt : a.ms = b.ms → a.vs = b.vs → a.ts = b.ts → a.ml = b.ml → a.ch = b.ch → true = r := fun h0 h1 h2 h3 h4 => by rw [hr]; symm; rw [decide_eq_true_iff]; exact wd_eq.2 ⟨h0, h1, h2, h3, h4⟩
 have HRF := h! hrf
 have HRT := h! hrt
 obtain ⟨A0, c0, A1, c1, A2, c2, A3, c3, A4, c4, xs, rfl, R⟩ := H
 obtain ⟨B0, d0, B1, d1, B2, d2, B3, d3, B4, d4, ys, rfl, S⟩ := K
 obtain ⟨W0, hW0⟩ : ∃ W0, W0 = (W.alloc (.cells #[.slice A0 a.ms.length c0, .slice A1 a.vs.length c1, .slice A2 a.ts.length c2, .slice A3 a.ml.length c3, .slice A4 a.ch.length c4] 28)).alloc (.cells #[.slice B0 b.ms.length d0, .slice B1 b.vs.length d1, .slice B2 b.ts.length d2, .slice B3 b.ml.length d3, .slice B4 b.ch.length d4] 28) := ⟨_, rfl⟩
 have HB0 := h! (show Below W.heap.size W W0 by rw [hW0]; exact below2 _ _)
 have HX0 := h! (show Box W0 W.heap.size 28 #[.slice A0 a.ms.length c0, .slice A1 a.vs.length c1, .slice A2 a.ts.length c2, .slice A3 a.ml.length c3, .slice A4 a.ch.length c4] by rw [hW0]; exact (Box.new _ _ _).below ((Below.refl _ _).alloc n! _) (by simp))
 have HY0 := h! (show Box W0 (W.heap.size + 1) 28 #[.slice B0 b.ms.length d0, .slice B1 b.vs.length d1, .slice B2 b.ts.length d2, .slice B3 b.ml.length d3, .slice B4 b.ch.length d4] by rw [hW0]; exact Box.new_at _ (by simp))
 have HSI := h! (fun (U : World) (hU : Below W.heap.size W U) => sameInts_any A0 a.ms.length c0 a.ms B0 b.ms.length d0 b.ms U (R.h0.below hU) (S.h0.below hU) (by have := F.l0; omega) (by have := G.l0; omega))
 have HA := h! R
 have HB := h! S
 have HFA := h! F
 have HFB := h! G
 clear R S F G hr hrf hrt
 generalize hgb : W.heap.size = gb at HX0 HY0
 go_enter Tryz.func10, Tryz.ntmps10
 go_wp2_with fail
 rw [← hW0]
 refine (HSI.out _ HB0.out).mono ?_
 clear hW0 HSI
 rintro e w1 ⟨rfl, q1, rfl⟩
 have HB1 := h! (below_drewN HB0.out q1)
 have HX1 : Hid (∀ wr, Below (W0.drewN q1).heap.size (W0.drewN q1) wr → Box wr gb 28 #[.slice A0 a.ms.length c0, .slice A1 a.vs.length c1, .slice A2 a.ts.length c2, .slice A3 a.ml.length c3, .slice A4 a.ch.length c4]) := h! (fun wr h => (HX0.out.below (below_drewN (Below.refl _ _) q1) HX0.out.lt).below h HX0.out.lt)
 have HY1 : Hid (∀ wr, Below (W0.drewN q1).heap.size (W0.drewN q1) wr → Box wr (gb + 1) 28 #[.slice B0 b.ms.length d0, .slice B1 b.vs.length d1, .slice B2 b.ts.length d2, .slice B3 b.ml.length d3, .slice B4 b.ch.length d4]) := h! (fun wr h => (HY0.out.below (below_drewN (Below.refl _ _) q1) HY0.out.lt).below h HY0.out.lt)
 clear HB0 HX0 HY0
 generalize W0.drewN q1 = w1 at HB1 HX1 HY1 ⊢
 generalize gb + 1 = gc at HY1 ⊢
 have h11 := Below.refl w1.heap.size w1
 obtain ⟨⟨x0, x1, x2, x3, x4⟩, _⟩ := (HX1.out w1 h11).five
 obtain ⟨⟨y0, y1, y2, y3, y4⟩, _⟩ := (HY1.out w1 h11).five
 by_cases hms : a.ms = b.ms
 rotate_left
 ·rw [decide_eq_false hms]
  have HRE := h! (HRF.out (fun h => hms (by rw [h])))
  clear hms
  go_wp2_with fail
  go_ret
  exact bool_ret HRE.out HB1.out
 rw [decide_eq_true hms]
 have HMS := h! hms
 clear hms
 by_cases hvs : a.vs.length = b.vs.length
 rotate_left
 ·have HRE := h! (HRF.out (fun h => hvs (by rw [h])))
  have e1 : ((a.vs.length : Int) != (b.vs.length : Int)) = true := by simp; omega
  clear hvs
  go_wp2_with fail
  go_ret
  exact bool_ret HRE.out HB1.out
 have e1 : ((a.vs.length : Int) != (b.vs.length : Int)) = false := by rw [hvs]; simp
 by_cases hts : a.ts.length = b.ts.length
 rotate_left
 ·have HRE := h! (HRF.out (fun h => hts (by rw [h])))
  have e2 : ((a.ts.length : Int) != (b.ts.length : Int)) = true := by simp; omega
  clear hvs hts
  go_wp2_with fail
  go_ret
  exact bool_ret HRE.out HB1.out
 have e2 : ((a.ts.length : Int) != (b.ts.length : Int)) = false := by rw [hts]; simp
 by_cases hml : a.ml.length = b.ml.length
 rotate_left
 ·have HRE := h! (HRF.out (fun h => hml (by rw [h])))
  have e3 : ((a.ml.length : Int) != (b.ml.length : Int)) = true := by simp; omega
  clear hvs hts hml
  go_wp2_with fail
  go_ret
  exact bool_ret HRE.out HB1.out
 have e3 : ((a.ml.length : Int) != (b.ml.length : Int)) = false := by rw [hml]; simp
 by_cases hch : a.ch.length = b.ch.length
 rotate_left
 ·have HRE := h! (HRF.out (fun h => hch (by rw [h])))
  have e4 : ((a.ch.length : Int) != (b.ch.length : Int)) = true := by simp; omega
  clear hvs hts hml hch
  go_wp2_with fail
  go_ret
  exact bool_ret HRE.out HB1.out
 have e4 : ((a.ch.length : Int) != (b.ch.length : Int)) = false := by rw [hch]; simp
 have HL := h! (And.intro hvs (And.intro hts (And.intro hml hch)))
 clear hvs hts hml hch h11
 go_upto_block 0 with (fail)
 clear x0 x1 x2 x3 x4 y0 y1 y2 y3 y4 e1 e2 e3 e4
 go_cut [] (fun wx => Hid (Below w1.heap.size w1 wx) ∧ Hid (a.vs = b.vs))
 case first =>
  go_wp2_with fail
  go_loopw [5] (fun i wr => ∃ k : Nat, k ≤ a.vs.length ∧ i = .int .i64 k ∧ Hid (Below w1.heap.size w1 wr) ∧ Hid (a.vs.take k = b.vs.take k)) (fun i _ => a.vs.length - (intOf i).toNat)
  case atStart => exact ⟨0, by omega, rfl, h! (Below.refl _ _), h! (by simp)⟩
  case round =>
   obtain ⟨k, hk, rfl, HR, HT⟩ := hrel
   obtain ⟨⟨x0, x1, x2, x3, x4⟩, _⟩ := (HX1.out _ HR.out).five
   obtain ⟨⟨y0, y1, y2, y3, y4⟩, _⟩ := (HY1.out _ HR.out).five
   have hfl := HFA.out.l1
   by_cases hlt : k < a.vs.length
   ·have hlt2 : k < b.vs.length := by have := HL.out.1; omega
    have hM := List.getElem?_eq_getElem hlt
    have hN := List.getElem?_eq_getElem hlt2
    have i0 : (0 : Int) ≤ (k : Int) := by omega
    have i1 : (k : Int) < (a.vs.length : Int) := by omega
    have i2 : (k : Int) < (b.vs.length : Int) := by omega
    obtain ⟨bl1, o1, rfl, hb1, p0, p1, p2⟩ := RdG.vote (RdG.below HA.out.h1 (bmore HB1.out HR.out n!)) hlt hM
    obtain ⟨bl2, o2, rfl, hb2, q0, q1, q2⟩ := RdG.vote (RdG.below HB.out.h1 (bmore HB1.out HR.out n!)) hlt2 hN
    generalize a.vs[k] = m1 at hM p0 p1 p2
    generalize b.vs[k] = m2 at hN q0 q1 q2
    clear hb1 hb2
    by_cases he : m1 = m2
    ·subst he
     have HT2 := h! (take_snoc_eq HT.out hM hN rfl)
     clear hM hN HT
     go_wp2_with fail
     go_quiet (fail)
     go_wp2_with fail
     go_roundw
     case rel => exact ⟨k + 1, by omega, by go_num, h! (below_drewN HR.out _), HT2⟩
     case measure => simp [intOf]; omega
    ·have HRE := h! (HRF.out (fun h => he (by have h2 := hM; rw [h, hN] at h2; injection h2 with h2; exact h2.symm)))
     have hw := vt_ways he
     clear hM hN HT he
     rcases hw with ⟨z0⟩ | ⟨z0, z1⟩ | ⟨z0, z1, z2⟩
     all_goals
      go_wp2_with fail
      go_quiet (fail)
      go_wp2_with fail
      go_ret
      exact bool_ret HRE.out (bmore HB1.out (below_drewN HR.out _) n!)
   ·obtain rfl : a.vs.length = k := by omega
    have HE := h! (show a.vs = b.vs by have := HT.out; rwa [List.take_length, List.take_of_length_le (by have := HL.out.1; omega)] at this)
    clear HT
    go_wp2_with fail
    go_meet
    case rel => exact ⟨HR, HE⟩
 case rest =>
  obtain ⟨HWZ, HEvs⟩ := hcut
  rename World => wz
  obtain ⟨⟨x0, x1, x2, x3, x4⟩, _⟩ := (HX1.out _ HWZ.out).five
  obtain ⟨⟨y0, y1, y2, y3, y4⟩, _⟩ := (HY1.out _ HWZ.out).five
  go_upto_block 2 with (fail)
  clear x0 x1 x2 x3 x4 y0 y1 y2 y3 y4
  go_cut [] (fun wx => Hid (Below w1.heap.size w1 wx) ∧ Hid (a.ts = b.ts))
  case first =>
   go_wp2_with fail
   go_loopw [6] (fun i wr => ∃ k : Nat, k ≤ a.ts.length ∧ i = .int .i64 k ∧ Hid (Below w1.heap.size w1 wr) ∧ Hid (a.ts.take k = b.ts.take k)) (fun i _ => a.ts.length - (intOf i).toNat)
   case atStart => exact ⟨0, by omega, rfl, HWZ, h! (by simp)⟩
   case round =>
    obtain ⟨k, hk, rfl, HR, HT⟩ := hrel
    obtain ⟨⟨x0, x1, x2, x3, x4⟩, _⟩ := (HX1.out _ HR.out).five
    obtain ⟨⟨y0, y1, y2, y3, y4⟩, _⟩ := (HY1.out _ HR.out).five
    have hfl := HFA.out.l2
    by_cases hlt : k < a.ts.length
    ·have hlt2 : k < b.ts.length := by have := HL.out.2.1; omega
     have hM := List.getElem?_eq_getElem hlt
     have hN := List.getElem?_eq_getElem hlt2
     have i0 : (0 : Int) ≤ (k : Int) := by omega
     have i1 : (k : Int) < (a.ts.length : Int) := by omega
     have i2 : (k : Int) < (b.ts.length : Int) := by omega
     obtain ⟨bl1, o1, C1, n1, k1, C2, n2, k2, C3, n3, k3, rfl, hb1, r1, r2, r3, p0, p1, p2, p3, p4, p5, p6⟩ := RdG.try_ (RdG.below HA.out.h2 (bmore HB1.out HR.out n!)) rfl (HA.out.ht.below (bmore HB1.out HR.out n!)) hM
     obtain ⟨bl2, o2, D1, m1, j1, D2, m2, j2, D3, m3, j3, rfl, hb2, s1, s2, s3, q0, q1, q2, q3, q4, q5, q6⟩ := RdG.try_ (RdG.below HB.out.h2 (bmore HB1.out HR.out n!)) rfl (HB.out.ht.below (bmore HB1.out HR.out n!)) hN
     have hf1 := HFA.out.ts _ (List.getElem_mem hlt)
     have hf2 := HFB.out.ts _ (List.getElem_mem hlt2)
     generalize a.ts[k] = t1 at hM hf1 r1 r2 r3 p0 p1 p2 p3 p4 p5 p6
     generalize b.ts[k] = t2 at hN hf2 s1 s2 s3 q0 q1 q2 q3 q4 q5 q6
     have hat1 : AtIs wr (.agg #[.int .u8 t1.ph, .int .i64 t1.ba, .slice C1 n1 k1, .string t1.wi, .string t1.va, .slice C2 n2 k2, .slice C3 n3 k3]) t1 := ⟨C1, n1, k1, C2, n2, k2, C3, n3, k3, rfl, r1, r2, r3⟩
     have hat2 : AtIs wr (.agg #[.int .u8 t2.ph, .int .i64 t2.ba, .slice D1 m1 j1, .string t2.wi, .string t2.va, .slice D2 m2 j2, .slice D3 m3 j3]) t2 := ⟨D1, m1, j1, D2, m2, j2, D3, m3, j3, rfl, s1, s2, s3⟩
     have HSA := h! (fun (U : World) (hU : Below wr.heap.size wr U) => rsame_any _ t1 _ t2 U (hat1.below hU) (hat2.below hU) hf1 hf2)
     have hS : ∀ w', Below wr.heap.size wr w' → w'.cell? ⟨gb, 2, none⟩ = some (.slice (some ⟨bl1, o1, none⟩) a.ts.length c2) ∧ w'.cell? ⟨gc, 2, none⟩ = some (.slice (some ⟨bl2, o2, none⟩) b.ts.length d2) ∧ w'.cell? ⟨bl1, o1 + k * 7, none⟩ = some (.int .u8 t1.ph) ∧ w'.cell? ⟨bl1, o1 + k * 7 + 1, none⟩ = some (.int .i64 t1.ba) ∧ w'.cell? ⟨bl1, o1 + k * 7 + 2, none⟩ = some (.slice C1 n1 k1) ∧ w'.cell? ⟨bl1, o1 + k * 7 + 3, none⟩ = some (.string t1.wi) ∧ w'.cell? ⟨bl1, o1 + k * 7 + 4, none⟩ = some (.string t1.va) ∧ w'.cell? ⟨bl1, o1 + k * 7 + 5, none⟩ = some (.slice C2 n2 k2) ∧ w'.cell? ⟨bl1, o1 + k * 7 + 6, none⟩ = some (.slice C3 n3 k3) ∧ w'.cell? ⟨bl2, o2 + k * 7, none⟩ = some (.int .u8 t2.ph) ∧ w'.cell? ⟨bl2, o2 + k * 7 + 1, none⟩ = some (.int .i64 t2.ba) ∧ w'.cell? ⟨bl2, o2 + k * 7 + 2, none⟩ = some (.slice D1 m1 j1) ∧ w'.cell? ⟨bl2, o2 + k * 7 + 3, none⟩ = some (.string t2.wi) ∧ w'.cell? ⟨bl2, o2 + k * 7 + 4, none⟩ = some (.string t2.va) ∧ w'.cell? ⟨bl2, o2 + k * 7 + 5, none⟩ = some (.slice D2 m2 j2) ∧ w'.cell? ⟨bl2, o2 + k * 7 + 6, none⟩ = some (.slice D3 m3 j3) := fun w' hb => by
      have hx := (HX1.out _ (bmore HR.out hb n!)).five.1.2.2.1
      have hy := (HY1.out _ (bmore HR.out hb n!)).five.1.2.2.1
      exact ⟨hx, hy, (hb.cell hb1).trans p0, (hb.cell hb1).trans p1, (hb.cell hb1).trans p2, (hb.cell hb1).trans p3, (hb.cell hb1).trans p4, (hb.cell hb1).trans p5, (hb.cell hb1).trans p6, (hb.cell hb2).trans q0, (hb.cell hb2).trans q1, (hb.cell hb2).trans q2, (hb.cell hb2).trans q3, (hb.cell hb2).trans q4, (hb.cell hb2).trans q5, (hb.cell hb2).trans q6⟩
     have HSS := h! hS
     have heq : t1 = t2 → a.ts.take (k + 1) = b.ts.take (k + 1) := fun h => take_snoc_eq HT.out hM hN h
     have hne : ¬ t1 = t2 → false = r := fun hn => HRF.out (fun h => hn (by have h2 := hM; rw [h, hN] at h2; injection h2 with h2; exact h2.symm))
     have HEQ := h! heq
     have HNE := h! hne
     have HWR := h! (show Below wr.heap.size wr wr.drew from (Below.refl _ _).drew)
     clear hat1 hat2 hS heq hne hf1 hf2 hM hN r1 r2 r3 s1 s2 s3 p0 p1 p2 p3 p4 p5 p6 q0 q1 q2 q3 q4 q5 q6 x0 x1 x3 x4 y0 y1 y3 y4 HT hb1 hb2
     go_upto_region 11 with (fail)
     clear x2 y2
     refine wp_region_held_drew (S := fun w' => w'.cell? ⟨gb, 2, none⟩ = some (.slice (some ⟨bl1, o1, none⟩) a.ts.length c2) ∧ w'.cell? ⟨gc, 2, none⟩ = some (.slice (some ⟨bl2, o2, none⟩) b.ts.length d2) ∧ w'.cell? ⟨bl1, o1 + k * 7, none⟩ = some (.int .u8 t1.ph) ∧ w'.cell? ⟨bl1, o1 + k * 7 + 1, none⟩ = some (.int .i64 t1.ba) ∧ w'.cell? ⟨bl1, o1 + k * 7 + 2, none⟩ = some (.slice C1 n1 k1) ∧ w'.cell? ⟨bl1, o1 + k * 7 + 3, none⟩ = some (.string t1.wi) ∧ w'.cell? ⟨bl1, o1 + k * 7 + 4, none⟩ = some (.string t1.va) ∧ w'.cell? ⟨bl1, o1 + k * 7 + 5, none⟩ = some (.slice C2 n2 k2) ∧ w'.cell? ⟨bl1, o1 + k * 7 + 6, none⟩ = some (.slice C3 n3 k3) ∧ w'.cell? ⟨bl2, o2 + k * 7, none⟩ = some (.int .u8 t2.ph) ∧ w'.cell? ⟨bl2, o2 + k * 7 + 1, none⟩ = some (.int .i64 t2.ba) ∧ w'.cell? ⟨bl2, o2 + k * 7 + 2, none⟩ = some (.slice D1 m1 j1) ∧ w'.cell? ⟨bl2, o2 + k * 7 + 3, none⟩ = some (.string t2.wi) ∧ w'.cell? ⟨bl2, o2 + k * 7 + 4, none⟩ = some (.string t2.va) ∧ w'.cell? ⟨bl2, o2 + k * 7 + 5, none⟩ = some (.slice D2 m2 j2) ∧ w'.cell? ⟨bl2, o2 + k * 7 + 6, none⟩ = some (.slice D3 m3 j3)) (by kernel_rfl) (HSS.out _ HWR.out) (fun hHeld => ?_)
     refine qT 0 ?_
     try simp only [Act.put, qq]
     refine qT 1 ?_
     try simp only [Act.put, qq]
     refine qT 2 ?_
     try simp only [Act.put, qq]
     refine qT 3 ?_
     try simp only [Act.put, qq]
     refine qT 4 ?_
     try simp only [Act.put, qq]
     refine qT 5 ?_
     try simp only [Act.put, qq]
     refine qT 6 ?_
     try simp only [Act.put, qq]
     refine qT 7 ?_
     try simp only [Act.put, qq]
     refine qT 8 ?_
     try simp only [Act.put, qq]
     refine qT 9 ?_
     try simp only [Act.put, qq]
     refine qR 10 fun K hK => ?_
     go_simp
     refine (HSA.out _ HWR.out).mono ?_
     rintro e w2 ⟨rfl, hb⟩
     have HW2 := h! (bmore HWR.out hb n!)
     refine hK.out _ _ (HSS.out _ HW2.out) (fun hHeld => ?_)
     clear hK hb
     try simp only [Act.put, qq]
     refine qT 11 ?_
     try simp only [Act.put, qq]
     refine wpAnyH_done (by kernel_rfl) ?_ _
     clear hHeld HSA
     by_cases he : t1 = t2
     ·rw [decide_eq_true he]
      have HT2 := h! (HEQ.out he)
      clear he
      go_wp2_with fail
      go_roundw
      case rel => exact ⟨k + 1, by omega, by go_num, h! (bmore HR.out HW2.out n!), HT2⟩
      case measure => simp [intOf]; omega
     ·rw [decide_eq_false he]
      have HRE := h! (HNE.out he)
      clear he
      go_wp2_with fail
      go_ret
      exact bool_ret HRE.out (bmore HB1.out (bmore HR.out HW2.out n!) n!)
    ·obtain rfl : a.ts.length = k := by omega
     have HE := h! (show a.ts = b.ts by have := HT.out; rwa [List.take_length, List.take_of_length_le (by have := HL.out.2.1; omega)] at this)
     clear HT
     go_wp2_with fail
     go_meet
     case rel => exact ⟨HR, HE⟩
  case rest =>
   obtain ⟨HWZ, HEts⟩ := hcut
   rename World => wz
   obtain ⟨⟨x0, x1, x2, x3, x4⟩, _⟩ := (HX1.out _ HWZ.out).five
   obtain ⟨⟨y0, y1, y2, y3, y4⟩, _⟩ := (HY1.out _ HWZ.out).five
   go_upto_block 4 with (fail)
   clear x0 x1 x2 x3 x4 y0 y1 y2 y3 y4
   go_cut [] (fun wx => Hid (Below w1.heap.size w1 wx) ∧ Hid (a.ml = b.ml))
   case first =>
    go_wp2_with fail
    go_loopw [7] (fun i wr => ∃ k : Nat, k ≤ a.ml.length ∧ i = .int .i64 k ∧ Hid (Below w1.heap.size w1 wr) ∧ Hid (a.ml.take k = b.ml.take k)) (fun i _ => a.ml.length - (intOf i).toNat)
    case atStart => exact ⟨0, by omega, rfl, HWZ, h! (by simp)⟩
    case round =>
     obtain ⟨k, hk, rfl, HR, HT⟩ := hrel
     obtain ⟨⟨x0, x1, x2, x3, x4⟩, _⟩ := (HX1.out _ HR.out).five
     obtain ⟨⟨y0, y1, y2, y3, y4⟩, _⟩ := (HY1.out _ HR.out).five
     have hfl := HFA.out.l3
     by_cases hlt : k < a.ml.length
     ·have hlt2 : k < b.ml.length := by have := HL.out.2.2.1; omega
      have hM := List.getElem?_eq_getElem hlt
      have hN := List.getElem?_eq_getElem hlt2
      have i0 : (0 : Int) ≤ (k : Int) := by omega
      have i1 : (k : Int) < (a.ml.length : Int) := by omega
      have i2 : (k : Int) < (b.ml.length : Int) := by omega
      obtain ⟨bl1, o1, rfl, hb1, p0, p1, p2, p3, p4, p5, p6, p7, p8, p9⟩ := RdG.mail (RdG.below HA.out.h3 (bmore HB1.out HR.out n!)) hlt hM
      obtain ⟨bl2, o2, rfl, hb2, q0, q1, q2, q3, q4, q5, q6, q7, q8, q9⟩ := RdG.mail (RdG.below HB.out.h3 (bmore HB1.out HR.out n!)) hlt2 hN
      generalize a.ml[k] = m1 at hM p0 p1 p2 p3 p4 p5 p6 p7 p8 p9
      generalize b.ml[k] = m2 at hN q0 q1 q2 q3 q4 q5 q6 q7 q8 q9
      clear hb1 hb2
      by_cases he : m1 = m2
      ·subst he
       have HT2 := h! (take_snoc_eq HT.out hM hN rfl)
       clear hM hN HT
       go_wp2_with fail
       go_quiet (fail)
       go_wp2_with fail
       go_roundw
       case rel => exact ⟨k + 1, by omega, by go_num, h! (below_drewN HR.out _), HT2⟩
       case measure => simp [intOf]; omega
      ·have HRE := h! (HRF.out (fun h => he (by have h2 := hM; rw [h, hN] at h2; injection h2 with h2; exact h2.symm)))
       have hw := ml_ways he
       clear hM hN HT he
       rcases hw with ⟨z0⟩ | ⟨z0, z1⟩ | ⟨z0, z1, z2⟩ | ⟨z0, z1, z2, z3⟩ | ⟨z0, z1, z2, z3, z4⟩ | ⟨z0, z1, z2, z3, z4, z5⟩ | ⟨z0, z1, z2, z3, z4, z5, z6⟩ | ⟨z0, z1, z2, z3, z4, z5, z6, z7⟩ | ⟨z0, z1, z2, z3, z4, z5, z6, z7, z8⟩ | ⟨z0, z1, z2, z3, z4, z5, z6, z7, z8, z9⟩
       all_goals
        go_wp2_with fail
        go_quiet (fail)
        go_wp2_with fail
        go_ret
        exact bool_ret HRE.out (bmore HB1.out (below_drewN HR.out _) n!)
     ·obtain rfl : a.ml.length = k := by omega
      have HE := h! (show a.ml = b.ml by have := HT.out; rwa [List.take_length, List.take_of_length_le (by have := HL.out.2.2.1; omega)] at this)
      clear HT
      go_wp2_with fail
      go_meet
      case rel => exact ⟨HR, HE⟩
   case rest =>
    obtain ⟨HWZ, HEml⟩ := hcut
    rename World => wz
    obtain ⟨⟨x0, x1, x2, x3, x4⟩, _⟩ := (HX1.out _ HWZ.out).five
    obtain ⟨⟨y0, y1, y2, y3, y4⟩, _⟩ := (HY1.out _ HWZ.out).five
    go_upto_block 6 with (fail)
    clear x0 x1 x2 x3 x4 y0 y1 y2 y3 y4
    go_wp2_with fail
    go_loopw [8] (fun i wr => ∃ k : Nat, k ≤ a.ch.length ∧ i = .int .i64 k ∧ Hid (Below w1.heap.size w1 wr) ∧ Hid (a.ch.take k = b.ch.take k)) (fun i _ => a.ch.length - (intOf i).toNat)
    case atStart => exact ⟨0, by omega, rfl, HWZ, h! (by simp)⟩
    case round =>
     obtain ⟨k, hk, rfl, HR, HT⟩ := hrel
     obtain ⟨⟨x0, x1, x2, x3, x4⟩, _⟩ := (HX1.out _ HR.out).five
     obtain ⟨⟨y0, y1, y2, y3, y4⟩, _⟩ := (HY1.out _ HR.out).five
     have hfl := HFA.out.l4
     by_cases hlt : k < a.ch.length
     ·have hlt2 : k < b.ch.length := by have := HL.out.2.2.2; omega
      have hM := List.getElem?_eq_getElem hlt
      have hN := List.getElem?_eq_getElem hlt2
      have i0 : (0 : Int) ≤ (k : Int) := by omega
      have i1 : (k : Int) < (a.ch.length : Int) := by omega
      have i2 : (k : Int) < (b.ch.length : Int) := by omega
      obtain ⟨bl1, o1, rfl, hb1, p0, p1⟩ := RdG.choice (RdG.below HA.out.h4 (bmore HB1.out HR.out n!)) hlt hM
      obtain ⟨bl2, o2, rfl, hb2, q0, q1⟩ := RdG.choice (RdG.below HB.out.h4 (bmore HB1.out HR.out n!)) hlt2 hN
      generalize a.ch[k] = m1 at hM p0 p1
      generalize b.ch[k] = m2 at hN q0 q1
      clear hb1 hb2
      by_cases he : m1 = m2
      ·subst he
       have HT2 := h! (take_snoc_eq HT.out hM hN rfl)
       clear hM hN HT
       go_wp2_with fail
       go_quiet (fail)
       go_wp2_with fail
       go_roundw
       case rel => exact ⟨k + 1, by omega, by go_num, h! (below_drewN HR.out _), HT2⟩
       case measure => simp [intOf]; omega
      ·have HRE := h! (HRF.out (fun h => he (by have h2 := hM; rw [h, hN] at h2; injection h2 with h2; exact h2.symm)))
       have hw := ch_ways he
       clear hM hN HT he
       rcases hw with ⟨z0⟩ | ⟨z0, z1⟩
       all_goals
        go_wp2_with fail
        go_quiet (fail)
        go_wp2_with fail
        go_ret
        exact bool_ret HRE.out (bmore HB1.out (below_drewN HR.out _) n!)
     ·obtain rfl : a.ch.length = k := by omega
      have HE := h! (show true = r from HRT.out HMS.out HEvs.out HEts.out HEml.out (by have := HT.out; rwa [List.take_length, List.take_of_length_le (by have := HL.out.2.2.2; omega)] at this))
      clear HT
      go_wp2_with fail
      go_ret
      exact bool_ret HE.out (bmore HB1.out HR.out n!)
def XRet (w : DC.Wd) (y : Int) (W : World) (e : Ending) (W' : World) : Prop :=
 ∃ A0 c0 A1 c1 A2 c2 A3 c3 A4 c4, e = .returned (.tuple #[.agg #[.slice A0 w.ms.length c0, .slice A1 w.vs.length c1, .slice A2 w.ts.length c2, .slice A3 w.ml.length c3, .slice A4 w.ch.length c4], .int .i64 y]) ∧ Below W.heap.size W W' ∧ WIk W' (.agg #[.slice A0 w.ms.length c0, .slice A1 w.vs.length c1, .slice A2 w.ts.length c2, .slice A3 w.ml.length c3, .slice A4 w.ch.length c4]) w ∧ WRows W' W.heap.size W'.heap.size A0 A1 A2 A3 w.ms.length w.vs.length w.ts.length w.ml.length
theorem doIs_eq {w : DC.Wd} {m : DC.Mv} {x y : Int} (h : DoIs w m x) (k : DoIs w m y) : x = y := by
 rcases h with ⟨h1, h2⟩ | ⟨h1, h2⟩ <;> rcases k with ⟨k1, k2⟩ | ⟨k1, k2⟩
 ·rw [h2, k2]
 ·exact absurd h1 k1
 ·exact absurd k1 h1
 ·rw [h2, k2]
theorem doIs_ex (w : DC.Wd) (m : DC.Mv) : ∃ y, DoIs w m y := by
 by_cases h : DC.May w
 ·exact ⟨_, .inl ⟨h, rfl⟩⟩
 ·exact ⟨8, .inr ⟨h, rfl⟩⟩
theorem fit_do {w : DC.Wd} {m : DC.Mv} {y : Int} (h : DoIs w m y) (F : WFit w) : WFit (orZero y (DC.aft w m)) := by
 unfold orZero
 split
 ·rename_i e
  subst e
  rcases h with ⟨h1, h2⟩ | ⟨_, h2⟩
  ·exact fit_may (DC.may_step h1 h2.symm) (DC.pm_step (fun m hm => (F.ml m hm).2.2.2.2.1) h1 h2.symm)
  ·exact absurd h2 (by decide)
 ·exact fit_zeroW
theorem DoRet.xret {w : DC.Wd} {m : DC.Mv} {y : Int} {W W' : World} {e : Ending} (h : DoRet w m W e W') (hy : DoIs w m y) (F : WFit w) : XRet (orZero y (DC.aft w m)) y W e W' := by
 have hf := fit_do hy F
 obtain ⟨v, y', rfl, hd, hb, h⟩ := h
 obtain rfl := doIs_eq hy hd
 unfold orZero at hf ⊢
 rcases h with ⟨h, rfl⟩ | ⟨h, k⟩
 ·rw [if_neg h]
  exact ⟨none, 0, none, 0, none, 0, none, 0, none, 0, rfl, hb, wik_zero W', wrows_zero _ _ _⟩
 ·rw [if_pos h] at hf ⊢
  obtain ⟨A0, c0, A1, c1, A2, c2, A3, c3, A4, c4, rfl⟩ := k.form
  exact ⟨A0, c0, A1, c1, A2, c2, A3, c3, A4, c4, rfl, hb, k.wik, k.rows hf.ts⟩
theorem RDoRet.vret {w : DC.Wd} {m : DC.Mv} {y : Int} {W W' : World} {e : Ending} (h : RDoRet w m W e W') (hy : DoIs w m y) : VRet (orZero y (DC.aft w m)) y W e W' := by
 obtain ⟨v, y', rfl, hd, hb, h⟩ := h
 obtain rfl := doIs_eq hy hd
 exact vret_mk hb (h.imp id (fun h => ⟨h.1, h.2.1⟩))
def TRet (w : DC.Wd) (W : World) (e : Ending) (W' : World) : Prop :=
 ∃ A0 c0 A1 c1 A2 c2 A3 c3 A4 c4, e = .returned (.agg #[.slice A0 w.ms.length c0, .slice A1 w.vs.length c1, .slice A2 w.ts.length c2, .slice A3 w.ml.length c3, .slice A4 w.ch.length c4]) ∧ Below W.heap.size W W' ∧ WIk W' (.agg #[.slice A0 w.ms.length c0, .slice A1 w.vs.length c1, .slice A2 w.ts.length c2, .slice A3 w.ml.length c3, .slice A4 w.ch.length c4]) w ∧ WRows W' W.heap.size W'.heap.size A0 A1 A2 A3 w.ms.length w.vs.length w.ts.length w.ml.length
theorem WRet.tret {w : DC.Wd} {W W' : World} {e : Ending} (h : WRet w W e W') (F : WFit w) : TRet w W e W' := by
 obtain ⟨v, rfl, k, hb⟩ := h
 obtain ⟨A0, c0, A1, c1, A2, c2, A3, c3, A4, c4, rfl⟩ := k.form
 exact ⟨A0, c0, A1, c1, A2, c2, A3, c3, A4, c4, rfl, hb, k.wik, k.rows F.ts⟩
theorem rwsame_self (v : Value) (a : DC.Wd) (u : Value) (W : World) (H : WIs W v a) (K : WIs W u a) (F : WFit a) : Calls Tryz.prog 10 #[v, u] W (BoolIs true W) := by
 have := rwsame_any v a u a W H K F F
 rwa [decide_eq_true rfl] at this
end Go.Proofs.YtiiobafcgdelmaaGreat.PD
namespace Go.Proofs.YtiiobafcgdelmaaGreat
open Go.RowKit
structure FitL (a : AM.At) : Prop where
 p1 : 0 ≤ a.ph
 p2 : a.ph ≤ 255
 b1 : -9223372036854775808 ≤ a.ba
 b2 : a.ba ≤ 9223372036854775807
 wi : a.wi.size ≤ maxLen
 va : a.va.size ≤ maxLen
 all : ∀ p ∈ a.ps, FitP p
 ms : a.ms.length ≤ maxLen
 ps : a.ps.length ≤ maxLen
 ac : a.ac.length ≤ maxLen
theorem FitL.fit {a : AM.At} (h : FitL a) (h1 : a.ms.length ≤ 100) (h2 : a.ps.length ≤ 50) (h3 : a.ac.length ≤ 100) : Fit a := ⟨h.p1, h.p2, h.b1, h.b2, h.wi, by omega, by omega, by omega, h.all⟩
def GreatIs (a : AM.At) (w : World) (e : Ending) (w' : World) : Prop := ∃ b, e = .returned (.bool b) ∧ (b = false → a.ms.length ≤ 100 ∧ a.ps.length ≤ 50 ∧ a.ac.length ≤ 100) ∧ Below w.heap.size w w'
theorem GreatIs.mk {a : AM.At} {b : Bool} {w w' : World} (h : b = false → a.ms.length ≤ 100 ∧ a.ps.length ≤ 50 ∧ a.ac.length ≤ 100) (hb : Below w.heap.size w w') : GreatIs a w (.returned (.bool b)) w' := ⟨b, rfl, h, hb⟩
set_option maxRecDepth 100000 in
set_option maxHeartbeats 4000000 in
theorem great_any (v : Value) (a : AM.At) (w : World) (H : AtIs w v a) (F : FitL a) :
  Calls Tryz.prog 21 #[v] w (GreatIs a w) := by
 obtain ⟨A, n, c, B, m, d, C, k, f, rfl, h1, h2, h3⟩ := H
 have l1 : a.ms.length = n := by have := h1.1; rwa [ic_length] at this
 have l2 : a.ps.length = m := h2.1
 have l3 : a.ac.length = k := by have := h3.1; rwa [ic_length] at this
 have hn : n ≤ 9223372036854775807 := by have := F.ms; unfold maxLen at this; omega
 have hm : m ≤ 9223372036854775807 := by have := F.ps; unfold maxLen at this; omega
 have hk : k ≤ 9223372036854775807 := by have := F.ac; unfold maxLen at this; omega
 have hwi : a.wi.size ≤ 9223372036854775807 := by have := F.wi; unfold maxLen at this; omega
 have hva : a.va.size ≤ 9223372036854775807 := by have := F.va; unfold maxLen at this; omega
 have HF := h! F.all
 have hret : ∀ (b : Bool), (b = false → n ≤ 100 ∧ m ≤ 50 ∧ k ≤ 100) → ∀ w', Below w.heap.size w w' → GreatIs a w (.returned (.bool b)) w' := fun b hb w' hw => GreatIs.mk (by rw [l1, l2, l3]; exact hb) hw
 have HRET := h! hret
 obtain ⟨W0, hW0⟩ : ∃ W0, W0 = w.alloc (.cells #[.int .u8 a.ph, .int .i64 a.ba, .slice A n c, .string a.wi, .string a.va, .slice B m d, .slice C k f] 57) := ⟨_, rfl⟩
 have hb0 : Below w.heap.size w W0 := by rw [hW0]; exact (Below.refl _ _).alloc n! _
 have hx0 : Box W0 w.heap.size 57 #[.int .u8 a.ph, .int .i64 a.ba, .slice A n c, .string a.wi, .string a.va, .slice B m d, .slice C k f] := by rw [hW0]; exact Box.new _ _ _
 have HB0 := h! hb0
 have X0 := h! hx0
 have H2 := h! (h2.below hb0)
 clear hret hb0 hx0 h1 h2 h3 l1 l2 l3 F
 go_enter Tryz.func21, Tryz.ntmps21
 go_upto_region 2 with (fail)
 rw [← hW0]
 clear hW0
 obtain ⟨⟨x0, x1, x2, x3, x4, x5, x6⟩, _⟩ := X0.out.seven
 go_wp2_with fail
 go_loop [3, 4] (fun s i => ∃ (j : Nat) (z : Int), j ≤ m ∧ i = .int .i64 j ∧ s = .int .i64 z) (fun _ i => m - (intOf i).toNat)
 case atStart => exact ⟨0, _, by omega, rfl, rfl⟩
 case round =>
  obtain ⟨j, z, hj, rfl, rfl⟩ := hrel
  by_cases hlt : j < m ∧ j < 100
  ·obtain ⟨hl1, hl2⟩ := hlt
   obtain ⟨bl, o, p, rfl, hbl, hp, c0, c1, c2⟩ := H2.out.at_ hl1
   have hpv : p.v.size ≤ 9223372036854775807 := by
    have := (HF.out p (List.mem_of_getElem? hp)).v
    unfold maxLen at this; omega
   have t1 : decide ((j : Int) < (m : Int)) = true := by simp; omega
   have t2 : decide ((j : Int) < 100) = true := by simp; omega
   have t3 : decide (j < m) = true := by simp; omega
   have t4 : decide (j < 100) = true := by simp; omega
   clear hp
   go_wp2_with fail
   go_round
   case rel => exact ⟨j + 1, _, by omega, by go_num, rfl⟩
   case measure => simp [intOf]; omega
  ·rcases (show (¬ j < m) ∨ (j < m ∧ ¬ j < 100) by omega) with h0 | ⟨h0, h0'⟩
   all_goals
    clear hlt
    by_cases e1 : n ≤ 100
    ·by_cases e2 : m ≤ 50
     ·by_cases e3 : k ≤ 100
      ·first
        | (exfalso; omega)
        | (go_wp2_with fail
           go_ret
           exact HRET.out _ (fun _ => ⟨e1, e2, e3⟩) _ HB0.out)
      ·first
        | (exfalso; omega)
        | (go_wp2_with fail
           go_ret
           exact HRET.out true (fun h => by cases h) _ HB0.out)
     ·go_wp2_with fail
      go_ret
      exact HRET.out true (fun h => by cases h) _ HB0.out
    ·go_wp2_with fail
     go_ret
     exact HRET.out true (fun h => by cases h) _ HB0.out
end Go.Proofs.YtiiobafcgdelmaaGreat
