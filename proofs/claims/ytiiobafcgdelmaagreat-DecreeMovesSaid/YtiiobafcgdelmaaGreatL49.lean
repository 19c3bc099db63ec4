/- Contracts of functions of towncrier, layers 5 to 9, and of the document's own ones, part 49; each as its theorem says. -/
import Derived.Test.YtiiobafcgdelmaaGreatL48
import Derived.Test.YtiiobafcgdelmaaGreatL25
import Derived.Test.YtiiobafcgdelmaaGreatL01
import Derived.Test.YtiiobafcgdelmaaGreatL47
set_option linter.unusedVariables false
set_option linter.unusedSimpArgs false
namespace Go.Proofs.YtiiobafcgdelmaaGreat.PD
open Go.RowKit Go.Joins Go.ChangeShapes Go.WideShapes Go.Deep
def MvArg (v : Value) (m : DC.Mv) : Prop := v = .agg #[.int .u8 m.k, .int .i64 m.n, .int .i64 m.at_, .string m.v] ∧ MvFit m
instance : Inhabited DC.Mv := ⟨⟨0, 0, 0, .empty⟩⟩
section
variable {H : Type} {enc : TypeId × Value → H} {w : World} {spare : Nat → Bool} {held : Bool} {base : Nat}
theorem mv_cells {fuel : Nat} {cs : List Value} {x : DataW H × List MemPlace} (h : DataW.trod enc Tryz.prog w base spare held fuel 30 cs = some x) : ∃ m : DC.Mv, cs = vmove m ∧ MvFit m := by
 obtain ⟨hlen, n, hf⟩ := cells_read Tryz.underlying30 (by kernel_rfl) h
 have hl : cs.length = 4 := hlen.trans (by kernel_rfl)
 match cs, hl with
 | [c0, c1, c2, c3], _ =>
  obtain ⟨y0, t0⟩ := hf 0 _ c0 rfl rfl
  obtain ⟨y1, t1⟩ := hf 1 _ c1 rfl rfl
  obtain ⟨y2, t2⟩ := hf 2 _ c2 rfl rfl
  obtain ⟨y3, t3⟩ := hf 3 _ c3 rfl rfl
  obtain ⟨k, e0, _, w0⟩ := DataW.trod_int Tryz.underlying5 t0
  obtain ⟨a, e1, _, w1⟩ := DataW.trod_int Tryz.underlying3 t1
  obtain ⟨b, e2, _, w2⟩ := DataW.trod_int Tryz.underlying3 t2
  obtain ⟨s, e3, _, w3⟩ := DataW.trod_string Tryz.underlying9 t3
  simp at e0 e1 e2 e3
  subst e0 e1 e2 e3
  exact ⟨⟨k, a, b, s⟩, rfl, (range_u8 w0).1, (range_u8 w0).2, w3⟩
set_option maxRecDepth 100000 in
theorem open_mv {r : Reach} {b0 : Nat} {v : Value} {d : DataW H} {p : List MemPlace} (hv : Value.okWide Tryz.prog w r b0 30 v) (h : DataW.Trod enc Tryz.prog w base spare held 30 v d p) : ∃ q, MvArg v q := by
 obtain ⟨cs, rfl, hsz⟩ := okWide_struct Tryz.underlying30 hv
 obtain ⟨l⟩ := cs
 obtain ⟨fuel, hf⟩ := h
 obtain ⟨q, e, F⟩ := mv_cells hf
 simp [Value.cells, vmove] at e
 subst e
 exact ⟨q, rfl, F⟩
end
end Go.Proofs.YtiiobafcgdelmaaGreat.PD
namespace Go.Proofs.YtiiobafcgdelmaaGreat.PD
open Go.RowKit Go.Shelf
set_option maxRecDepth 100000 in
set_option maxHeartbeats 4000000 in
theorem equalV_any (A : Option Addr) (n c : Nat) (xs : List DC.Vt) (B : Option Addr) (m d : Nat) (ys : List DC.Vt) (w : World) (h1 : RdG w 3 A n (flat vcell xs)) (l1 : xs.length = n) (h2 : RdG w 3 B m (flat vcell ys)) (l2 : ys.length = m) (hm : n ≤ 2000) (hm2 : m ≤ 2000) :
  Calls Tryz.prog 45 #[.slice A n c, .slice B m d] w (BoolQ (decide (xs = ys)) w) := by
 obtain ⟨r, hr⟩ : ∃ r, r = decide (xs = ys) := ⟨_, rfl⟩
 rw [← hr]
 have HR := h! hr; clear hr
 by_cases hnm : n = m
 ·subst hnm
  have HL1 := h! l1
  have HL2 := h! l2
  have H1 := h! h1
  have H2 := h! h2
  clear l1 l2 h1 h2
  have hne : ((n : Int) != (n : Int)) = false := by simp
  have HS := h! (show xs.take 0 = ys.take 0 by simp)
  go_enter Tryz.func45, Tryz.ntmps45
  go_wp2
  go_loopw [13] (fun i wr => ∃ k q : Nat, k ≤ n ∧ i = .int .i64 k ∧ wr = w.drewN q ∧ Hid (xs.take k = ys.take k)) (fun i _ => n - (intOf i).toNat)
  case atStart => exact ⟨0, 0, by omega, rfl, rfl, HS⟩
  case round =>
   clear HS
   obtain ⟨k, q, hk, rfl, rfl, HT⟩ := hrel
   by_cases hlt : k < n
   ·have e1 := List.getElem?_eq_getElem (show k < xs.length by have := HL1.out; omega)
    have e2 := List.getElem?_eq_getElem (show k < ys.length by have := HL2.out; omega)
    generalize xs[k]'_ = p1 at e1
    generalize ys[k]'_ = p2 at e2
    obtain ⟨bl1, o1, rfl, _, c0, c1, c2⟩ := RdG.vote H1.out hlt e1
    obtain ⟨bl2, o2, rfl, _, d0, d1, d2⟩ := RdG.vote H2.out hlt e2
    have hk0 : (0 : Int) ≤ (k : Int) := by omega
    have hkn : (k : Int) < (n : Int) := by omega
    by_cases he : p1 = p2
    ·subst he
     have HT2 := h! (take_snoc_eq HT.out e1 e2 rfl)
     clear e1 e2 HT
     obtain ⟨pp, pb, pv⟩ := p1
     simp only at c0 c1 c2 d0 d1 d2
     go_wp2_with fail
     go_quiet (fail)
     go_wp2_with fail
     go_roundw
     case rel => exact ⟨k + 1, q + nq, by omega, by go_num, by simp, HT2⟩
     case measure => simp [intOf]; omega
    ·have HN := h! (ne_of_at e1 e2 he)
     have hw := vt_ways he
     clear e1 e2 HT he
     obtain ⟨pp, pb, pv⟩ := p1
     obtain ⟨qp, qb, qv⟩ := p2
     simp only at c0 c1 c2 d0 d1 d2 hw
     rcases hw with z1 | ⟨z1, z2⟩ | ⟨z1, z2, z3⟩
     all_goals
      go_wp2_with fail
      go_quiet (fail)
      go_wp2_with fail
      go_ret
      exact ⟨by rw [HR.out]; simp [HN.out], q + nq, by simp⟩
   ·obtain rfl : n = k := by omega
    have ht : xs = ys := by
     have := HT.out
     rwa [List.take_of_length_le (by have := HL1.out; omega), List.take_of_length_le (by have := HL2.out; omega)] at this
    have HE := h! ht; clear ht HT
    go_wp2
    go_ret
    exact ⟨by rw [HR.out]; simp [HE.out], q, rfl⟩
 ·have hne : ((n : Int) != (m : Int)) = true := by simp; omega
  have hn : ¬ xs = ys := fun e => hnm (by rw [← l1, ← l2, e])
  have hf : r = false := by rw [HR.out]; simpa using hn
  have HF := h! hf
  clear hn hf
  clear l1 l2 h1 h2
  go_enter Tryz.func45, Tryz.ntmps45
  go_wp2
  go_ret
  exact ⟨by rw [HF.out]; rfl, 0, rfl⟩
set_option maxRecDepth 100000 in
set_option maxHeartbeats 4000000 in
theorem equalC_any (A : Option Addr) (n c : Nat) (xs : List DC.Ch) (B : Option Addr) (m d : Nat) (ys : List DC.Ch) (w : World) (h1 : RdG w 2 A n (flat ccell xs)) (l1 : xs.length = n) (h2 : RdG w 2 B m (flat ccell ys)) (l2 : ys.length = m) (hm : n ≤ 2000) (hm2 : m ≤ 2000) :
  Calls Tryz.prog 49 #[.slice A n c, .slice B m d] w (BoolQ (decide (xs = ys)) w) := by
 obtain ⟨r, hr⟩ : ∃ r, r = decide (xs = ys) := ⟨_, rfl⟩
 rw [← hr]
 have HR := h! hr; clear hr
 by_cases hnm : n = m
 ·subst hnm
  have HL1 := h! l1
  have HL2 := h! l2
  have H1 := h! h1
  have H2 := h! h2
  clear l1 l2 h1 h2
  have hne : ((n : Int) != (n : Int)) = false := by simp
  have HS := h! (show xs.take 0 = ys.take 0 by simp)
  go_enter Tryz.func49, Tryz.ntmps49
  go_wp2
  go_loopw [13] (fun i wr => ∃ k q : Nat, k ≤ n ∧ i = .int .i64 k ∧ wr = w.drewN q ∧ Hid (xs.take k = ys.take k)) (fun i _ => n - (intOf i).toNat)
  case atStart => exact ⟨0, 0, by omega, rfl, rfl, HS⟩
  case round =>
   clear HS
   obtain ⟨k, q, hk, rfl, rfl, HT⟩ := hrel
   by_cases hlt : k < n
   ·have e1 := List.getElem?_eq_getElem (show k < xs.length by have := HL1.out; omega)
    have e2 := List.getElem?_eq_getElem (show k < ys.length by have := HL2.out; omega)
    generalize xs[k]'_ = p1 at e1
    generalize ys[k]'_ = p2 at e2
    obtain ⟨bl1, o1, rfl, _, c0, c1⟩ := RdG.choice H1.out hlt e1
    obtain ⟨bl2, o2, rfl, _, d0, d1⟩ := RdG.choice H2.out hlt e2
    have hk0 : (0 : Int) ≤ (k : Int) := by omega
    have hkn : (k : Int) < (n : Int) := by omega
    by_cases he : p1 = p2
    ·subst he
     have HT2 := h! (take_snoc_eq HT.out e1 e2 rfl)
     clear e1 e2 HT
     obtain ⟨pn, pv⟩ := p1
     simp only at c0 c1 d0 d1
     go_wp2_with fail
     go_quiet (fail)
     go_wp2_with fail
     go_roundw
     case rel => exact ⟨k + 1, q + nq, by omega, by go_num, by simp, HT2⟩
     case measure => simp [intOf]; omega
    ·have HN := h! (ne_of_at e1 e2 he)
     have hw := ch_ways he
     clear e1 e2 HT he
     obtain ⟨pn, pv⟩ := p1
     obtain ⟨qn, qv⟩ := p2
     simp only at c0 c1 d0 d1 hw
     rcases hw with z1 | ⟨z1, z2⟩
     all_goals
      go_wp2_with fail
      go_quiet (fail)
      go_wp2_with fail
      go_ret
      exact ⟨by rw [HR.out]; simp [HN.out], q + nq, by simp⟩
   ·obtain rfl : n = k := by omega
    have ht : xs = ys := by
     have := HT.out
     rwa [List.take_of_length_le (by have := HL1.out; omega), List.take_of_length_le (by have := HL2.out; omega)] at this
    have HE := h! ht; clear ht HT
    go_wp2
    go_ret
    exact ⟨by rw [HR.out]; simp [HE.out], q, rfl⟩
 ·have hne : ((n : Int) != (m : Int)) = true := by simp; omega
  have hn : ¬ xs = ys := fun e => hnm (by rw [← l1, ← l2, e])
  have hf : r = false := by rw [HR.out]; simpa using hn
  have HF := h! hf
  clear hn hf
  clear l1 l2 h1 h2
  go_enter Tryz.func49, Tryz.ntmps49
  go_wp2
  go_ret
  exact ⟨by rw [HF.out]; rfl, 0, rfl⟩
set_option maxRecDepth 100000 in
set_option maxHeartbeats 4000000 in
theorem equalM_any (A : Option Addr) (n c : Nat) (xs : List DC.Ml) (B : Option Addr) (m d : Nat) (ys : List DC.Ml) (w : World) (h1 : RdG w 10 A n (flat mcell xs)) (l1 : xs.length = n) (h2 : RdG w 10 B m (flat mcell ys)) (l2 : ys.length = m) (hm : n ≤ 2000) (hm2 : m ≤ 2000) :
  Calls Tryz.prog 48 #[.slice A n c, .slice B m d] w (BoolQ (decide (xs = ys)) w) := by
 obtain ⟨r, hr⟩ : ∃ r, r = decide (xs = ys) := ⟨_, rfl⟩
 rw [← hr]
 have HR := h! hr; clear hr
 by_cases hnm : n = m
 ·subst hnm
  have HL1 := h! l1
  have HL2 := h! l2
  have H1 := h! h1
  have H2 := h! h2
  clear l1 l2 h1 h2
  have hne : ((n : Int) != (n : Int)) = false := by simp
  have HS := h! (show xs.take 0 = ys.take 0 by simp)
  go_enter Tryz.func48, Tryz.ntmps48
  go_wp2
  go_loopw [13] (fun i wr => ∃ k q : Nat, k ≤ n ∧ i = .int .i64 k ∧ wr = w.drewN q ∧ Hid (xs.take k = ys.take k)) (fun i _ => n - (intOf i).toNat)
  case atStart => exact ⟨0, 0, by omega, rfl, rfl, HS⟩
  case round =>
   clear HS
   obtain ⟨k, q, hk, rfl, rfl, HT⟩ := hrel
   by_cases hlt : k < n
   ·have e1 := List.getElem?_eq_getElem (show k < xs.length by have := HL1.out; omega)
    have e2 := List.getElem?_eq_getElem (show k < ys.length by have := HL2.out; omega)
    generalize xs[k]'_ = p1 at e1
    generalize ys[k]'_ = p2 at e2
    obtain ⟨bl1, o1, rfl, _, c0, c1, c2, c3, c4, c5, c6, c7, c8, c9⟩ := RdG.mail H1.out hlt e1
    obtain ⟨bl2, o2, rfl, _, d0, d1, d2, d3, d4, d5, d6, d7, d8, d9⟩ := RdG.mail H2.out hlt e2
    have hk0 : (0 : Int) ≤ (k : Int) := by omega
    have hkn : (k : Int) < (n : Int) := by omega
    by_cases he : p1 = p2
    ·subst he
     have HT2 := h! (take_snoc_eq HT.out e1 e2 rfl)
     clear e1 e2 HT
     obtain ⟨pf, pt, pk, pg, ps, pb, pp, pv, pi, pm⟩ := p1
     simp only at c0 c1 c2 c3 c4 c5 c6 c7 c8 c9 d0 d1 d2 d3 d4 d5 d6 d7 d8 d9
     go_wp2_with fail
     go_quiet (fail)
     go_wp2_with fail
     go_roundw
     case rel => exact ⟨k + 1, q + nq, by omega, by go_num, by simp, HT2⟩
     case measure => simp [intOf]; omega
    ·have HN := h! (ne_of_at e1 e2 he)
     have hw := ml_ways he
     clear e1 e2 HT he
     obtain ⟨pf, pt, pk, pg, ps, pb, pp, pv, pi, pm⟩ := p1
     obtain ⟨qf, qt, qk, qg, qs, qb, qp, qv, qi, qm⟩ := p2
     simp only at c0 c1 c2 c3 c4 c5 c6 c7 c8 c9 d0 d1 d2 d3 d4 d5 d6 d7 d8 d9 hw
     rcases hw with z1 | ⟨z1, z2⟩ | ⟨z1, z2, z3⟩ | ⟨z1, z2, z3, z4⟩ | ⟨z1, z2, z3, z4, z5⟩ | ⟨z1, z2, z3, z4, z5, z6⟩ | ⟨z1, z2, z3, z4, z5, z6, z7⟩ | ⟨z1, z2, z3, z4, z5, z6, z7, z8⟩ | ⟨z1, z2, z3, z4, z5, z6, z7, z8, z9⟩ | ⟨z1, z2, z3, z4, z5, z6, z7, z8, z9, z10⟩
     all_goals
      go_wp2_with fail
      go_quiet (fail)
      go_wp2_with fail
      go_ret
      exact ⟨by rw [HR.out]; simp [HN.out], q + nq, by simp⟩
   ·obtain rfl : n = k := by omega
    have ht : xs = ys := by
     have := HT.out
     rwa [List.take_of_length_le (by have := HL1.out; omega), List.take_of_length_le (by have := HL2.out; omega)] at this
    have HE := h! ht; clear ht HT
    go_wp2
    go_ret
    exact ⟨by rw [HR.out]; simp [HE.out], q, rfl⟩
 ·have hne : ((n : Int) != (m : Int)) = true := by simp; omega
  have hn : ¬ xs = ys := fun e => hnm (by rw [← l1, ← l2, e])
  have hf : r = false := by rw [HR.out]; simpa using hn
  have HF := h! hf
  clear hn hf
  clear l1 l2 h1 h2
  go_enter Tryz.func48, Tryz.ntmps48
  go_wp2
  go_ret
  exact ⟨by rw [HF.out]; rfl, 0, rfl⟩
set_option maxRecDepth 100000 in
set_option maxHeartbeats 4000000 in
theorem equalT_any (A : Option Addr) (n c : Nat) (xs : List AM.At) (X : List Value) (B : Option Addr) (m d : Nat) (ys : List AM.At) (Y : List Value) (w : World) (h1 : RdG w 7 A n X) (t1 : TsIs w X xs) (l1 : xs.length = n) (h2 : RdG w 7 B m Y) (t2 : TsIs w Y ys) (l2 : ys.length = m) (hm : n ≤ 2000) (hm2 : m ≤ 2000) (F : ∀ t ∈ xs, Fit t) (G : ∀ t ∈ ys, Fit t) :
  Calls Tryz.prog 46 #[.slice A n c, .slice B m d, .func (.func 47) #[] #[]] w (BoolIs (decide (xs = ys)) w) := by
 obtain ⟨r, hr⟩ : ∃ r, r = decide (xs = ys) := ⟨_, rfl⟩
 rw [← hr]
 have HR := h! hr; clear hr
 by_cases hnm : n = m
 ·subst hnm
  have HL1 := h! l1
  have HL2 := h! l2
  have H1 := h! h1
  have H2 := h! h2
  have T1 := h! t1
  have T2 := h! t2
  have FF := h! F
  have GG := h! G
  clear l1 l2 h1 h2 t1 t2 F G
  have hne : ((n : Int) != (n : Int)) = false := by simp
  have HS := h! (And.intro (Below.refl w.heap.size w) (show xs.take 0 = ys.take 0 by simp))
  go_enter Tryz.func46, Tryz.ntmps46
  go_wp2_with fail
  go_loopw [17] (fun i wr => ∃ k : Nat, k ≤ n ∧ i = .int .i64 k ∧ Hid (Below w.heap.size w wr ∧ xs.take k = ys.take k)) (fun i _ => n - (intOf i).toNat)
  case atStart => exact ⟨0, by omega, rfl, HS⟩
  case round =>
   clear HS
   obtain ⟨k, hk, rfl, HT⟩ := hrel
   by_cases hlt : k < n
   ·have e1 := List.getElem?_eq_getElem (show k < xs.length by have := HL1.out; omega)
    have e2 := List.getElem?_eq_getElem (show k < ys.length by have := HL2.out; omega)
    generalize xs[k]'_ = p1 at e1
    generalize ys[k]'_ = p2 at e2
    obtain ⟨bl1, o1, A1, n1, c1, B1, m1, d1, C1, k1, f1, rfl, hb1, r1, r2, r3, x0, x1, x2, x3, x4, x5, x6⟩ := RdG.try_ (H1.out.below HT.out.1) HL1.out.symm (T1.out.below HT.out.1) e1
    obtain ⟨bl2, o2, A2, n2, c2, B2, m2, d2, C2, k2, f2, rfl, hb2, s1, s2, s3, y0, y1, y2, y3, y4, y5, y6⟩ := RdG.try_ (H2.out.below HT.out.1) HL2.out.symm (T2.out.below HT.out.1) e2
    have hk0 : (0 : Int) ≤ (k : Int) := by omega
    have hkn : (k : Int) < (n : Int) := by omega
    have HSA := h! (fun (U : World) (hU : Below wr.heap.size wr U) => same_any _ p1 _ p2 U (show AtIs U (.agg #[.int .u8 p1.ph, .int .i64 p1.ba, .slice A1 n1 c1, .string p1.wi, .string p1.va, .slice B1 m1 d1, .slice C1 k1 f1]) p1 from ⟨A1, n1, c1, B1, m1, d1, C1, k1, f1, rfl, r1.below hU, r2.below hU, r3.below hU⟩) (show AtIs U (.agg #[.int .u8 p2.ph, .int .i64 p2.ba, .slice A2 n2 c2, .string p2.wi, .string p2.va, .slice B2 m2 d2, .slice C2 k2 f2]) p2 from ⟨A2, n2, c2, B2, m2, d2, C2, k2, f2, rfl, s1.below hU, s2.below hU, s3.below hU⟩) (FF.out _ (List.mem_of_getElem? e1)) (GG.out _ (List.mem_of_getElem? e2)))
    have E1 := h! e1
    have E2 := h! e2
    have hal := (below2 (W := wr) (.cells #[.int .u8 p1.ph, .int .i64 p1.ba, .slice A1 n1 c1, .string p1.wi, .string p1.va, .slice B1 m1 d1, .slice C1 k1 f1] 57) (.cells #[.int .u8 p2.ph, .int .i64 p2.ba, .slice A2 n2 c2, .string p2.wi, .string p2.va, .slice B2 m2 d2, .slice C2 k2 f2] 57))
    have HB := h! hal
    have HX := h! ((Box.new wr 57 #[.int .u8 p1.ph, .int .i64 p1.ba, .slice A1 n1 c1, .string p1.wi, .string p1.va, .slice B1 m1 d1, .slice C1 k1 f1]).below ((Below.refl _ _).alloc n! (.cells #[.int .u8 p2.ph, .int .i64 p2.ba, .slice A2 n2 c2, .string p2.wi, .string p2.va, .slice B2 m2 d2, .slice C2 k2 f2] 57)) (by simp))
    have HY := h! (show Box _ (wr.heap.size + 1) 57 #[.int .u8 p2.ph, .int .i64 p2.ba, .slice A2 n2 c2, .string p2.wi, .string p2.va, .slice B2 m2 d2, .slice C2 k2 f2] from Box.new_at (w := wr.alloc (.cells #[.int .u8 p1.ph, .int .i64 p1.ba, .slice A1 n1 c1, .string p1.wi, .string p1.va, .slice B1 m1 d1, .slice C1 k1 f1] 57)) _ (by simp))
    rw [← (Below.refl wr.heap.size wr).alloc n! (.cells #[.int .u8 p1.ph, .int .i64 p1.ba, .slice A1 n1 c1, .string p1.wi, .string p1.va, .slice B1 m1 d1, .slice C1 k1 f1] 57) |>.cell (p := ⟨bl2, o2 + k * 7, none⟩) hb2] at y0
    rw [← (Below.refl wr.heap.size wr).alloc n! (.cells #[.int .u8 p1.ph, .int .i64 p1.ba, .slice A1 n1 c1, .string p1.wi, .string p1.va, .slice B1 m1 d1, .slice C1 k1 f1] 57) |>.cell (p := ⟨bl2, o2 + k * 7 + 1, none⟩) hb2] at y1
    rw [← (Below.refl wr.heap.size wr).alloc n! (.cells #[.int .u8 p1.ph, .int .i64 p1.ba, .slice A1 n1 c1, .string p1.wi, .string p1.va, .slice B1 m1 d1, .slice C1 k1 f1] 57) |>.cell (p := ⟨bl2, o2 + k * 7 + 2, none⟩) hb2] at y2
    rw [← (Below.refl wr.heap.size wr).alloc n! (.cells #[.int .u8 p1.ph, .int .i64 p1.ba, .slice A1 n1 c1, .string p1.wi, .string p1.va, .slice B1 m1 d1, .slice C1 k1 f1] 57) |>.cell (p := ⟨bl2, o2 + k * 7 + 3, none⟩) hb2] at y3
    rw [← (Below.refl wr.heap.size wr).alloc n! (.cells #[.int .u8 p1.ph, .int .i64 p1.ba, .slice A1 n1 c1, .string p1.wi, .string p1.va, .slice B1 m1 d1, .slice C1 k1 f1] 57) |>.cell (p := ⟨bl2, o2 + k * 7 + 4, none⟩) hb2] at y4
    rw [← (Below.refl wr.heap.size wr).alloc n! (.cells #[.int .u8 p1.ph, .int .i64 p1.ba, .slice A1 n1 c1, .string p1.wi, .string p1.va, .slice B1 m1 d1, .slice C1 k1 f1] 57) |>.cell (p := ⟨bl2, o2 + k * 7 + 5, none⟩) hb2] at y5
    rw [← (Below.refl wr.heap.size wr).alloc n! (.cells #[.int .u8 p1.ph, .int .i64 p1.ba, .slice A1 n1 c1, .string p1.wi, .string p1.va, .slice B1 m1 d1, .slice C1 k1 f1] 57) |>.cell (p := ⟨bl2, o2 + k * 7 + 6, none⟩) hb2] at y6
    clear e1 e2 r1 r2 r3 s1 s2 s3 hb1 hb2 hal
    go_upto_region 7 with (fail)
    clear x0 x1 x2 x3 x4 x5 x6 y0 y1 y2 y3 y4 y5 y6
    generalize (wr.alloc (.cells #[.int .u8 p1.ph, .int .i64 p1.ba, .slice A1 n1 c1, .string p1.wi, .string p1.va, .slice B1 m1 d1, .slice C1 k1 f1] 57)).alloc (.cells #[.int .u8 p2.ph, .int .i64 p2.ba, .slice A2 n2 c2, .string p2.wi, .string p2.va, .slice B2 m2 d2, .slice C2 k2 f2] 57) = u at HB HX HY ⊢
    generalize wr.heap.size + 1 = gy at HY ⊢
    generalize hgx : wr.heap.size = gx at HX ⊢
    obtain ⟨⟨x0, x1, x2, x3, x4, x5, x6⟩, _⟩ := HX.out.seven
    obtain ⟨⟨y0, y1, y2, y3, y4, y5, y6⟩, _⟩ := HY.out.seven
    clear hgx
    go_wp2_with fail
    refine (HSA.out _ HB.out).mono ?_
    rintro e v1 ⟨rfl, hb⟩
    have HB2 := h! (bmore HT.out.1 (bmore HB.out hb n!) n!)
    clear hb HSA x0 x1 x2 x3 x4 x5 x6 y0 y1 y2 y3 y4 y5 y6 HX HY HB
    by_cases he : p1 = p2
    ·rw [decide_eq_true he]
     have HT2 := h! (And.intro HB2.out (take_snoc_eq HT.out.2 E1.out E2.out he))
     clear HT he
     go_wp2_with fail
     go_roundw
     case rel => exact ⟨k + 1, by omega, by go_num, HT2⟩
     case measure => simp [intOf]; omega
    ·rw [decide_eq_false he]
     have HN := h! (ne_of_at E1.out E2.out he)
     clear HT he
     go_wp2_with fail
     go_ret
     exact ⟨by rw [HR.out]; simp [HN.out], HB2.out⟩
   ·obtain rfl : n = k := by omega
    have ht : xs = ys := by
     have := HT.out.2
     rwa [List.take_of_length_le (by have := HL1.out; omega), List.take_of_length_le (by have := HL2.out; omega)] at this
    have HE := h! ht
    have HB2 := h! HT.out.1
    clear ht HT
    go_wp2_with fail
    go_ret
    exact ⟨by rw [HR.out]; simp [HE.out], HB2.out⟩
 ·have hne : ((n : Int) != (m : Int)) = true := by simp; omega
  have hn : ¬ xs = ys := fun e => hnm (by rw [← l1, ← l2, e])
  have hf : r = false := by rw [HR.out]; simpa using hn
  have HF := h! hf
  clear hn hf
  clear l1 l2 h1 h2 t1 t2
  go_enter Tryz.func46, Tryz.ntmps46
  go_wp2_with fail
  go_ret
  exact ⟨by rw [HF.out]; rfl, Below.refl _ _⟩
set_option maxRecDepth 100000 in
set_option maxHeartbeats 8000000 in
theorem wsame_any (v : Value) (a : DC.Wd) (u : Value) (b : DC.Wd) (W : World) (H : WIs W v a) (K : WIs W u b) (F : WFit a) (G : WFit b) :
  Calls Tryz.prog 13 #[v, u] W (BoolIs (decide (a = b)) W) := by
 obtain ⟨r, hr⟩ : ∃ r, r = decide (a = b) := ⟨_, rfl⟩
 rw [← hr]
 have HRF : Hid (¬ a = b → r = false) := h! (fun h => by rw [hr]; simpa using h)
 have HRT : Hid (a.ms = b.ms → a.vs = b.vs → a.ts = b.ts → a.ml = b.ml → a.ch = b.ch → r = true) := h! (fun h0 h1 h2 h3 h4 => by rw [hr, decide_eq_true_iff]; exact wd_eq.2 ⟨h0, h1, h2, h3, h4⟩)
 obtain ⟨A0, c0, A1, c1, A2, c2, A3, c3, A4, c4, xs, rfl, R⟩ := H
 obtain ⟨B0, d0, B1, d1, B2, d2, B3, d3, B4, d4, ys, rfl, S⟩ := K
 obtain ⟨W0, hW0⟩ : ∃ W0, W0 = (W.alloc (.cells #[.slice A0 a.ms.length c0, .slice A1 a.vs.length c1, .slice A2 a.ts.length c2, .slice A3 a.ml.length c3, .slice A4 a.ch.length c4] 28)).alloc (.cells #[.slice B0 b.ms.length d0, .slice B1 b.vs.length d1, .slice B2 b.ts.length d2, .slice B3 b.ml.length d3, .slice B4 b.ch.length d4] 28) := ⟨_, rfl⟩
 have hB0 : Below W.heap.size W W0 := by rw [hW0]; exact below2 _ _
 have HX0 := h! (show Box W0 W.heap.size 28 #[.slice A0 a.ms.length c0, .slice A1 a.vs.length c1, .slice A2 a.ts.length c2, .slice A3 a.ml.length c3, .slice A4 a.ch.length c4] by rw [hW0]; exact (Box.new _ _ _).below ((Below.refl _ _).alloc n! _) (by simp))
 have HY0 := h! (show Box W0 (W.heap.size + 1) 28 #[.slice B0 b.ms.length d0, .slice B1 b.vs.length d1, .slice B2 b.ts.length d2, .slice B3 b.ml.length d3, .slice B4 b.ch.length d4] by rw [hW0]; exact Box.new_at _ (by simp))
 have H0 := h! (fun (U : World) (hU : Below W.heap.size W U) => equalI_any A0 a.ms.length c0 a.ms B0 b.ms.length d0 b.ms U (R.h0.below hU) (S.h0.below hU) (by have := F.l0; omega) (by have := G.l0; omega))
 have H1 := h! (fun (U : World) (hU : Below W.heap.size W U) => equalV_any A1 a.vs.length c1 a.vs B1 b.vs.length d1 b.vs U (RdG.below R.h1 hU) rfl (RdG.below S.h1 hU) rfl F.l1 G.l1)
 have H2 := h! (fun (U : World) (hU : Below W.heap.size W U) => equalT_any A2 a.ts.length c2 a.ts xs B2 b.ts.length d2 b.ts ys U (RdG.below R.h2 hU) (R.ht.below hU) rfl (RdG.below S.h2 hU) (S.ht.below hU) rfl F.l2 G.l2 F.ts G.ts)
 have H3 := h! (fun (U : World) (hU : Below W.heap.size W U) => equalM_any A3 a.ml.length c3 a.ml B3 b.ml.length d3 b.ml U (RdG.below R.h3 hU) rfl (RdG.below S.h3 hU) rfl F.l3 G.l3)
 have H4 := h! (fun (U : World) (hU : Below W.heap.size W U) => equalC_any A4 a.ch.length c4 a.ch B4 b.ch.length d4 b.ch U (RdG.below R.h4 hU) rfl (RdG.below S.h4 hU) rfl F.l4 G.l4)
 have HB := h! hB0
 clear R S F G hr hB0
 go_enter Tryz.func13, Tryz.ntmps13
 go_upto_region 1 with (fail)
 rw [← hW0]
 clear hW0
 generalize W.heap.size + 1 = gc at HY0 ⊢
 obtain ⟨u, hu⟩ : ∃ u, u = W0 := ⟨_, rfl⟩
 have HD := h! (show Below W0.heap.size W0 u by rw [hu]; exact Below.refl _ _)
 have HB := h! (show Below W.heap.size W u by rw [hu]; exact HB.out)
 rw [← hu]
 clear hu
 obtain ⟨⟨x0, x1, x2, x3, x4⟩, _⟩ := (HX0.out.below HD.out HX0.out.lt).five
 obtain ⟨⟨y0, y1, y2, y3, y4⟩, _⟩ := (HY0.out.below HD.out HY0.out.lt).five
 go_wp2_with fail
 refine (H0.out _ HB.out).mono ?_
 rintro e w1 ⟨rfl, q, hq⟩
 have hb : Below u.heap.size u w1 := by rw [hq]; exact below_drewN (Below.refl _ _) _
 clear hq
 have HB := h! (bmore HB.out hb n!)
 have HD := h! (bmore HD.out hb n!)
 clear hb H0 x0 x1 x2 x3 x4 y0 y1 y2 y3 y4
 by_cases h0 : a.ms = b.ms
 rotate_left
 ·rw [decide_eq_false h0]
  have HF := h! (HRF.out (fun h => h0 (by rw [h])))
  clear h0
  go_wp2_with fail
  go_ret
  exact bool_ret HF.out.symm HB.out
 rw [decide_eq_true h0]
 obtain ⟨u1, rfl⟩ : ∃ u1, u1 = w1 := ⟨_, rfl⟩
 obtain ⟨⟨x0, x1, x2, x3, x4⟩, _⟩ := (HX0.out.below HD.out HX0.out.lt).five
 obtain ⟨⟨y0, y1, y2, y3, y4⟩, _⟩ := (HY0.out.below HD.out HY0.out.lt).five
 go_wp2_with fail
 refine (H1.out _ HB.out).mono ?_
 rintro e w2 ⟨rfl, q, hq⟩
 have hb : Below u1.heap.size u1 w2 := by rw [hq]; exact below_drewN (Below.refl _ _) _
 clear hq
 have HB := h! (bmore HB.out hb n!)
 have HD := h! (bmore HD.out hb n!)
 clear hb H1 x0 x1 x2 x3 x4 y0 y1 y2 y3 y4
 by_cases h1 : a.vs = b.vs
 rotate_left
 ·rw [decide_eq_false h1]
  have HF := h! (HRF.out (fun h => h1 (by rw [h])))
  clear h1
  go_wp2_with fail
  go_ret
  exact bool_ret HF.out.symm HB.out
 rw [decide_eq_true h1]
 obtain ⟨u2, rfl⟩ : ∃ u2, u2 = w2 := ⟨_, rfl⟩
 obtain ⟨⟨x0, x1, x2, x3, x4⟩, _⟩ := (HX0.out.below HD.out HX0.out.lt).five
 obtain ⟨⟨y0, y1, y2, y3, y4⟩, _⟩ := (HY0.out.below HD.out HY0.out.lt).five
 go_wp2_with fail
 refine (H2.out _ HB.out).mono ?_
 rintro e w3 ⟨rfl, hb⟩
 have HB := h! (bmore HB.out hb n!)
 have HD := h! (bmore HD.out hb n!)
 clear hb H2 x0 x1 x2 x3 x4 y0 y1 y2 y3 y4
 by_cases h2 : a.ts = b.ts
 rotate_left
 ·rw [decide_eq_false h2]
  have HF := h! (HRF.out (fun h => h2 (by rw [h])))
  clear h2
  go_wp2_with fail
  go_ret
  exact bool_ret HF.out.symm HB.out
 rw [decide_eq_true h2]
 obtain ⟨u3, rfl⟩ : ∃ u3, u3 = w3 := ⟨_, rfl⟩
 obtain ⟨⟨x0, x1, x2, x3, x4⟩, _⟩ := (HX0.out.below HD.out HX0.out.lt).five
 obtain ⟨⟨y0, y1, y2, y3, y4⟩, _⟩ := (HY0.out.below HD.out HY0.out.lt).five
 go_wp2_with fail
 refine (H3.out _ HB.out).mono ?_
 rintro e w4 ⟨rfl, q, hq⟩
 have hb : Below u3.heap.size u3 w4 := by rw [hq]; exact below_drewN (Below.refl _ _) _
 clear hq
 have HB := h! (bmore HB.out hb n!)
 have HD := h! (bmore HD.out hb n!)
 clear hb H3 x0 x1 x2 x3 x4 y0 y1 y2 y3 y4
 by_cases h3 : a.ml = b.ml
 rotate_left
 ·rw [decide_eq_false h3]
  have HF := h! (HRF.out (fun h => h3 (by rw [h])))
  clear h3
  go_wp2_with fail
  go_ret
  exact bool_ret HF.out.symm HB.out
 rw [decide_eq_true h3]
 obtain ⟨u4, rfl⟩ : ∃ u4, u4 = w4 := ⟨_, rfl⟩
 obtain ⟨⟨x0, x1, x2, x3, x4⟩, _⟩ := (HX0.out.below HD.out HX0.out.lt).five
 obtain ⟨⟨y0, y1, y2, y3, y4⟩, _⟩ := (HY0.out.below HD.out HY0.out.lt).five
 go_wp2_with fail
 refine (H4.out _ HB.out).mono ?_
 rintro e w5 ⟨rfl, q, hq⟩
 have hb : Below u4.heap.size u4 w5 := by rw [hq]; exact below_drewN (Below.refl _ _) _
 clear hq
 have HB := h! (bmore HB.out hb n!)
 have HD := h! (bmore HD.out hb n!)
 clear hb H4 x0 x1 x2 x3 x4 y0 y1 y2 y3 y4
 by_cases h4 : a.ch = b.ch
 rotate_left
 ·rw [decide_eq_false h4]
  have HF := h! (HRF.out (fun h => h4 (by rw [h])))
  clear h4
  go_wp2_with fail
  go_ret
  exact bool_ret HF.out.symm HB.out
 rw [decide_eq_true h4]
 obtain ⟨u5, rfl⟩ : ∃ u5, u5 = w5 := ⟨_, rfl⟩
 have HF := h! (HRT.out h0 h1 h2 h3 h4)
 clear h0 h1 h2 h3 h4
 go_wp2_with fail
 go_ret
 exact bool_ret HF.out.symm HB.out
end Go.Proofs.YtiiobafcgdelmaaGreat.PD
