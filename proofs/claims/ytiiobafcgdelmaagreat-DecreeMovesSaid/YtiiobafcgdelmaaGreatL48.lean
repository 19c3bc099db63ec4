/- Contracts of functions of towncrier, layers 5 to 9, and of the document's own ones, part 48; each as its theorem says. -/
import Derived.Test.YtiiobafcgdelmaaGreatProg
import Derived.Test.YtiiobafcgdelmaaGreatL03
import Derived.Test.YtiiobafcgdelmaaGreatRows
import Derived.Lib.SmallJoins
import Derived.OpenShut
import Derived.Deep.Slices
import Derived.Deep.Fields
import Derived.ChangeSame
import Derived.Test.YtiiobafcgdelmaaGreatL47
import Derived.Test.YtiiobafcgdelmaaGreatL01
import Derived.Test.YtiiobafcgdelmaaGreatL20
import Derived.Deep.LoopGhost
import Derived.Deep.CutBlock
import Derived.Test.YtiiobafcgdelmaaGreatL31
set_option linter.unusedVariables false
set_option linter.unusedSimpArgs false
namespace Go.Proofs.YtiiobafcgdelmaaGreat
open Go.RowKit Go.Joins Go.ChangeShapes Go.WideShapes Go.Deep
theorem range_i64 {z : Int} (h : (Lit.int .i64 z).wf = true) : -9223372036854775808 ≤ z ∧ z ≤ 9223372036854775807 := by simpa [Lit.wf, IntKind.min, IntKind.max, IntKind.signed, IntKind.bits] using h
theorem range_u8 {z : Int} (h : (Lit.int .u8 z).wf = true) : 0 ≤ z ∧ z ≤ 255 := by simpa [Lit.wf, IntKind.min, IntKind.max, IntKind.signed, IntKind.bits] using h
section
variable {H : Type} {enc : TypeId × Value → H} {P : Program} {w : World} {base : Nat} {spare : Nat → Bool} {held : Bool}
theorem cells_read {t : TypeId} {fs : Array Field} {fuel : Nat} {cs : List Value} {x : DataW H × List MemPlace} (hs : P.underlying t = some (.struct fs)) (hone : oneCellFields P fs = true) (h : DataW.trod enc P w base spare held fuel t cs = some x) :
  cs.length = P.cellsOf t ∧ ∃ n, ∀ (j : Nat) (f : Field) (c : Value), fs[j]? = some f → cs[j]? = some c → ∃ y, DataW.trod enc P w base spare held n f.type [c] = some y := by
 obtain ⟨xs, n, _, _, hlen, hxl, hf⟩ := DataW.trod_struct hs h
 refine ⟨hlen, n, fun j f c hj hc => ?_⟩
 obtain ⟨ho, hk⟩ := hone_of hone j f hj
 have e := hf j f hj
 rw [ho, hk] at e
 have hjl : j < xs.length := by rw [hxl]; exact (Array.getElem?_eq_some_iff.1 hj).1
 have hcl := (List.getElem?_eq_some_iff.1 hc).1
 have ht : (cs.drop j).take 1 = [c] := by
  rw [List.drop_eq_getElem_cons hcl, List.take_succ_cons, List.take_zero, (List.getElem?_eq_some_iff.1 hc).2]
 rw [ht, List.getElem?_eq_getElem hjl] at e
 exact ⟨_, e⟩
end
section
variable {H : Type} {enc : TypeId × Value → H} {w : World} {spare : Nat → Bool} {held : Bool} {base : Nat}
theorem rows_cells {α : Type} [Inhabited α] {f : α → List Value} {s : Nat} {T E : TypeId} {Fa : α → Prop} (hT : Tryz.prog.underlying T = some (.slice E)) (hC : Tryz.prog.cellsOf E = s) (hs0 : 0 < s)
  (hr : ∀ {fuel : Nat} {cs : List Value} {x : DataW H × List MemPlace}, DataW.trod enc Tryz.prog w base spare held fuel E cs = some x → ∃ a, cs = f a ∧ Fa a)
  {fuel : Nat} {v : Value} {x : DataW H × List MemPlace} (h : DataW.trod enc Tryz.prog w base spare held fuel T [v] = some x) :
  ∃ A n c l, v = .slice A n c ∧ n ≤ c ∧ c ≤ maxLen ∧ RdG w s A n (flat f l) ∧ l.length = n ∧ ∀ a ∈ l, Fa a := by
 rcases open_slice hT h with ⟨hcs, _⟩ | ⟨a, len, cap, m, n, D, Pl, hcs, hbl, hl, hm, hmm, _, hi⟩
 ·simp at hcs
  exact ⟨none, 0, 0, [], hcs, Nat.le_refl _, Nat.zero_le _, ⟨by simp [flat], fun h => absurd h (by omega)⟩, rfl, fun p hp => by cases hp⟩
 ·simp at hcs
  have hlm : len ≤ m := by rw [hmm]; split <;> omega
  have hex : ∀ i, ∃ p : α, i < len → (f p).length = s ∧ (∀ j, j < s → w.cell? (a.add (i * s + j)) = (f p)[j]?) ∧ Fa p := by
   intro i
   by_cases hil : i < len
   ·obtain ⟨cs, hc, ht⟩ := hi i (by omega)
    obtain ⟨p, rfl, F⟩ := hr ht
    rw [hC] at hc
    obtain ⟨_, hlen, hat⟩ := World.cells?_some hc
    refine ⟨p, fun _ => ⟨hlen, fun j hj => ?_, F⟩⟩
    have := hat j (by omega)
    rw [add_of_add] at this
    exact this
   ·exact ⟨default, fun h => absurd h hil⟩
  obtain ⟨Q, hQ⟩ := Classical.axiomOfChoice hex
  have hps : ∀ (k : Nat) (p : α), ((List.range len).map Q)[k]? = some p → k < len ∧ p = Q k := by
   intro k p hk
   have hkl := (List.getElem?_eq_some_iff.1 hk).1
   simp at hkl
   rw [List.getElem?_map, List.getElem?_range hkl] at hk
   simp at hk
   exact ⟨hkl, hk.symm⟩
  have hfl : ∀ p ∈ (List.range len).map Q, (f p).length = s := fun p hp => by
   obtain ⟨k, hk, rfl⟩ := List.getElem_of_mem hp
   obtain ⟨h1, e⟩ := hps k _ (List.getElem?_eq_getElem hk)
   rw [e]
   exact (hQ k h1).1
  refine ⟨some a, len, cap, (List.range len).map Q, hcs, hl, hm, ⟨by rw [flat_length hfl]; simp, fun h0 => ⟨a, rfl, ?_, fun j u hu => ?_⟩⟩, by simp, fun p hp => ?_⟩
  ·have h1 := (hQ 0 h0).2.1 0 hs0
   have h2 : 0 < (f (Q 0)).length := by rw [(hQ 0 h0).1]; exact hs0
   rw [List.getElem?_eq_getElem h2] at h1
   have hb := cell_block h1
   rwa [block_of_add] at hb
  ·have hj := (List.getElem?_eq_some_iff.1 hu).1
   rw [flat_length hfl] at hj
   simp at hj
   have hk : j / s < len := Nat.div_lt_of_lt_mul (by rw [Nat.mul_comm]; exact hj)
   have hgk : ((List.range len).map Q)[j / s]? = some (Q (j / s)) := by simp [hk]
   have hmod := Nat.mod_lt j hs0
   have e1 := flat_get hfl hgk (j % s) hmod
   have e2 : j / s * s + j % s = j := by rw [Nat.mul_comm]; exact Nat.div_add_mod j s
   rw [e2] at e1
   have e3 := (hQ (j / s) hk).2.1 (j % s) hmod
   rw [e2] at e3
   rw [e3, ← e1, hu]
  ·obtain ⟨k, hk, rfl⟩ := List.getElem_of_mem hp
   obtain ⟨h1, e⟩ := hps k _ (List.getElem?_eq_getElem hk)
   rw [e]
   exact (hQ k h1).2.2
end
def PrsArg (w : World) (B : Option Addr) (m d : Nat) (ps : List AM.Pr) : Prop := RdP w B m ps ∧ m ≤ maxLen ∧ ∀ p ∈ ps, FitP p
section
variable {H : Type} {enc : TypeId × Value → H} {w : World} {spare : Nat → Bool} {held : Bool} {base : Nat}
theorem pr_cells {fuel : Nat} {cs : List Value} {x : DataW H × List MemPlace} (h : DataW.trod enc Tryz.prog w base spare held fuel 86 cs = some x) :
  ∃ p : AM.Pr, cs = [.int .i64 p.n, .int .i64 p.b, .string p.v] ∧ FitP p := by
 obtain ⟨hlen, n, hf⟩ := cells_read Tryz.underlying86 (by kernel_rfl) h
 have hl : cs.length = 3 := hlen.trans (by kernel_rfl)
 match cs, hl with
 | [c0, c1, c2], _ =>
  obtain ⟨y0, t0⟩ := hf 0 _ c0 rfl rfl
  obtain ⟨y1, t1⟩ := hf 1 _ c1 rfl rfl
  obtain ⟨y2, t2⟩ := hf 2 _ c2 rfl rfl
  obtain ⟨x, e0, _, w0⟩ := DataW.trod_int Tryz.underlying3 t0
  obtain ⟨y, e1, _, w1⟩ := DataW.trod_int Tryz.underlying3 t1
  obtain ⟨s, e2, _, w2⟩ := DataW.trod_string Tryz.underlying9 t2
  simp at e0 e1 e2
  subst e0 e1 e2
  exact ⟨⟨x, y, s⟩, rfl, (range_i64 w1).1, (range_i64 w1).2, w2⟩
theorem rdP_of {ad : Addr} {m : Nat} {ps : List AM.Pr} (hl : ps.length = m) (hb : 0 < m → ad.block < w.heap.size)
  (hc : ∀ k p, ps[k]? = some p → w.cell? (ad.add (k * 3)) = some (.int .i64 p.n) ∧ w.cell? (ad.add (k * 3 + 1)) = some (.int .i64 p.b) ∧ w.cell? (ad.add (k * 3 + 2)) = some (.string p.v)) : RdP w (some ad) m ps := by
 refine ⟨hl, fun hm => ⟨ad, rfl, hb hm, fun j u hu => ?_⟩⟩
 have hj := (List.getElem?_eq_some_iff.1 hu).1
 rw [pp_length] at hj
 have hk : j / 3 < ps.length := by omega
 obtain ⟨g0, g1, g2⟩ := pp_get ps (j / 3) _ (List.getElem?_eq_getElem hk)
 obtain ⟨c0, c1, c2⟩ := hc (j / 3) _ (List.getElem?_eq_getElem hk)
 rcases (show j % 3 = 0 ∨ j % 3 = 1 ∨ j % 3 = 2 by omega) with h | h | h
 ·rw [show j / 3 * 3 = j by omega] at g0 c0
  rw [g0] at hu
  rw [c0, ← hu]
 ·rw [show j / 3 * 3 + 1 = j by omega] at g1 c1
  rw [g1] at hu
  rw [c1, ← hu]
 ·rw [show j / 3 * 3 + 2 = j by omega] at g2 c2
  rw [g2] at hu
  rw [c2, ← hu]
theorem prs_cells {fuel : Nat} {v : Value} {x : DataW H × List MemPlace} (h : DataW.trod enc Tryz.prog w base spare held fuel 55 [v] = some x) :
  ∃ B m d ps, v = .slice B m d ∧ PrsArg w B m d ps := by
 rcases open_slice Tryz.underlying55 h with ⟨hcs, _⟩ | ⟨a, len, cap, m, n, D, Pl, hcs, hbl, hl, hm, hmm, _, hi⟩
 ·simp at hcs
  exact ⟨none, 0, 0, [], hcs, RdP.nil, Nat.zero_le _, fun p hp => by cases hp⟩
 ·simp at hcs
  have hC : Tryz.prog.cellsOf 86 = 3 := by kernel_rfl
  have hlm : len ≤ m := by rw [hmm]; split <;> omega
  have hex : ∀ i, ∃ p : AM.Pr, i < len → w.cell? (a.add (i * 3)) = some (.int .i64 p.n) ∧ w.cell? (a.add (i * 3 + 1)) = some (.int .i64 p.b) ∧ w.cell? (a.add (i * 3 + 2)) = some (.string p.v) ∧ FitP p := by
   intro i
   by_cases hil : i < len
   ·obtain ⟨cs, hc, ht⟩ := hi i (by omega)
    obtain ⟨p, rfl, F⟩ := pr_cells ht
    rw [hC] at hc
    obtain ⟨_, _, hat⟩ := World.cells?_some hc
    refine ⟨p, fun _ => ⟨?_, ?_, ?_, F⟩⟩
    ·have := hat 0 (by omega)
     rw [add_of_add, Nat.add_zero] at this
     exact this
    ·have := hat 1 (by omega)
     rw [add_of_add] at this
     exact this
    ·have := hat 2 (by omega)
     rw [add_of_add] at this
     exact this
   ·exact ⟨⟨0, 0, .empty⟩, fun h => absurd h hil⟩
  obtain ⟨Q, hQ⟩ := Classical.axiomOfChoice hex
  have hps : ∀ (k : Nat) (p : AM.Pr), ((List.range len).map Q)[k]? = some p → k < len ∧ p = Q k := by
   intro k p hk
   have hkl := (List.getElem?_eq_some_iff.1 hk).1
   simp at hkl
   rw [List.getElem?_map, List.getElem?_range hkl] at hk
   simp at hk
   exact ⟨hkl, hk.symm⟩
  refine ⟨some a, len, cap, (List.range len).map Q, hcs, rdP_of (by simp) (fun h0 => ?_) (fun k p hk => ?_), by omega, fun p hp => ?_⟩
  ·have := (hQ 0 h0).1
   have hb := cell_block this
   rwa [block_of_add] at hb
  ·obtain ⟨h1, rfl⟩ := hps k p hk
   exact ⟨(hQ k h1).1, (hQ k h1).2.1, (hQ k h1).2.2.1⟩
  ·obtain ⟨k, hk, rfl⟩ := List.getElem_of_mem hp
   obtain ⟨h1, e⟩ := hps k _ (List.getElem?_eq_getElem hk)
   rw [e]
   exact (hQ k h1).2.2.2
theorem isl_cells {fuel : Nat} {v : Value} {x : DataW H × List MemPlace} (h : DataW.trod enc Tryz.prog w base spare held fuel 22 [v] = some x) :
  ∃ A n c zs, v = .slice A n c ∧ n ≤ maxLen ∧ Rd w A n (ic zs) := by
 rcases open_ints Tryz.underlying22 Tryz.underlying3 (by kernel_rfl) h with ⟨hcs, _⟩ | ⟨a, len, cap, zs, hcs, hbl, hl, hm, hz, hx, hcell, hwz⟩
 ·simp at hcs
  exact ⟨none, 0, 0, [], hcs, Nat.zero_le _, Rd.nil⟩
 ·simp at hcs
  have hlz : len ≤ zs.length := by rw [hz]; split <;> omega
  refine ⟨some a, len, cap, zs.take len, hcs, by omega, by rw [ic_length, List.length_take]; omega, fun hn => ⟨a, rfl, ?_, fun j u hu => ?_⟩⟩
  ·have := cell_block (hcell 0 (by omega)); rwa [block_of_add] at this
  ·unfold ic at hu
   rw [List.getElem?_map, List.getElem?_take] at hu
   split at hu
   ·rename_i hj
    have hjz : j < zs.length := by omega
    rw [hcell j hjz]
    rw [List.getElem?_eq_getElem hjz] at hu
    simp at hu
    rw [← hu]
    simp [hjz]
   ·simp at hu
end
end Go.Proofs.YtiiobafcgdelmaaGreat
namespace Go.Proofs.YtiiobafcgdelmaaGreat.PD
open Go.RowKit
structure WFitL (w : DC.Wd) : Prop where
 l0 : w.ms.length ≤ maxLen
 l1 : w.vs.length ≤ maxLen
 l2 : w.ts.length ≤ maxLen
 l3 : w.ml.length ≤ maxLen
 l4 : w.ch.length ≤ maxLen
 vs : ∀ v ∈ w.vs, VFit v
 ts : ∀ t ∈ w.ts, FitL t
 ml : ∀ m ∈ w.ml, MFit m
 ch : ∀ c ∈ w.ch, c.v.size ≤ maxLen
structure Small (w : DC.Wd) : Prop where
 l0 : w.ms.length ≤ 100
 l1 : w.vs.length ≤ 10
 l2 : w.ts.length ≤ 10
 l3 : w.ml.length ≤ 1100
 l4 : w.ch.length ≤ 1100
 ts : ∀ t ∈ w.ts, t.ms.length ≤ 100 ∧ t.ps.length ≤ 50 ∧ t.ac.length ≤ 100
theorem Small.fit {w : DC.Wd} (h : Small w) (F : WFitL w) : WFit w :=
 ⟨by have := h.l0; omega, by have := h.l1; omega, by have := h.l2; omega, by have := h.l3; omega, by have := h.l4; omega, F.vs, fun t ht => (F.ts t ht).fit (h.ts t ht).1 (h.ts t ht).2.1 (h.ts t ht).2.2, F.ml, F.ch⟩
def GrIs (w : DC.Wd) (W : World) (e : Ending) (W' : World) : Prop := ∃ b, e = .returned (.bool b) ∧ (b = false → Small w) ∧ Below W.heap.size W W'
theorem GrIs.mk {w : DC.Wd} {W W' : World} {b : Bool} (h : b = false → Small w) (hb : Below W.heap.size W W') : GrIs w W (.returned (.bool b)) W' := ⟨b, rfl, h, hb⟩
def TsOk (w : DC.Wd) (k : Nat) : Prop := ∀ i t, w.ts[i]? = some t → i < k → t.ms.length ≤ 100 ∧ t.ps.length ≤ 50 ∧ t.ac.length ≤ 100
theorem TsOk.next {w : DC.Wd} {k : Nat} {t : AM.At} (h : TsOk w k) (ht : w.ts[k]? = some t) (h1 : t.ms.length ≤ 100 ∧ t.ps.length ≤ 50 ∧ t.ac.length ≤ 100) : TsOk w (k + 1) := by
 intro i x hx hi
 by_cases e : i = k
 ·subst e; rw [ht] at hx; injection hx with hx; subst hx; exact h1
 ·exact h i x hx (by omega)
theorem TsOk.all {w : DC.Wd} {k : Nat} (h : TsOk w k) (hk : w.ts.length ≤ k) : ∀ t ∈ w.ts, t.ms.length ≤ 100 ∧ t.ps.length ≤ 50 ∧ t.ac.length ≤ 100 := by
 intro t ht
 obtain ⟨i, hi⟩ := List.getElem?_of_mem ht
 exact h i t hi (by have := (List.getElem?_eq_some_iff.1 hi).1; omega)
set_option maxRecDepth 100000 in
set_option maxHeartbeats 8000000 in
theorem wgreat_any (v : Value) (w : DC.Wd) (W : World) (H : WIs W v w) (F : WFitL w) :
  Calls Tryz.prog 5 #[v] W (GrIs w W) := by
 obtain ⟨A0, c0, A1, c1, A2, c2, A3, c3, A4, c4, xs, rfl, R⟩ := H
 have b0 : w.ms.length ≤ 9223372036854775807 := by have := F.l0; unfold maxLen at this; omega
 have b1 : w.vs.length ≤ 9223372036854775807 := by have := F.l1; unfold maxLen at this; omega
 have b2 : w.ts.length ≤ 9223372036854775807 := by have := F.l2; unfold maxLen at this; omega
 have b3 : w.ml.length ≤ 9223372036854775807 := by have := F.l3; unfold maxLen at this; omega
 have b4 : w.ch.length ≤ 9223372036854775807 := by have := F.l4; unfold maxLen at this; omega
 obtain ⟨W0, hW0⟩ : ∃ W0, W0 = W.alloc (.cells #[.slice A0 w.ms.length c0, .slice A1 w.vs.length c1, .slice A2 w.ts.length c2, .slice A3 w.ml.length c3, .slice A4 w.ch.length c4] 28) := ⟨_, rfl⟩
 have hb0 : Below W.heap.size W W0 := by rw [hW0]; exact (Below.refl _ _).alloc n! _
 have hx0 : Box W0 W.heap.size 28 #[.slice A0 w.ms.length c0, .slice A1 w.vs.length c1, .slice A2 w.ts.length c2, .slice A3 w.ml.length c3, .slice A4 w.ch.length c4] := by rw [hW0]; exact Box.new _ _ _
 have HB0 := h! hb0
 have X0 := h! hx0
 have HR := h! (R.below hb0)
 have HF := h! F
 clear hb0 hx0 R F
 go_enter Tryz.func5, Tryz.ntmps5
 go_upto_region 2 with (fail)
 rw [← hW0]
 clear hW0
 generalize hgb : W.heap.size = gb at X0 ⊢
 obtain ⟨⟨x0, x1, x2, x3, x4⟩, _⟩ := X0.out.five
 go_upto_block 0 with (fail)
 go_cut [3] (fun x wx => (∃ z : Int, x = .int .i64 z) ∧ W0 = wx)
 case first =>
  go_wp2_with fail
  go_loop [3, 4] (fun s i => ∃ (j : Nat) (z : Int), j ≤ w.ml.length ∧ i = .int .i64 j ∧ s = .int .i64 z) (fun _ i => w.ml.length - (intOf i).toNat)
  case atStart => exact ⟨0, _, by omega, rfl, rfl⟩
  case round =>
   obtain ⟨j, z, hj, rfl, rfl⟩ := hrel
   by_cases hlt : j < w.ml.length ∧ j < 2000
   ·obtain ⟨hl1, hl2⟩ := hlt
    obtain ⟨bl, o, rfl, hbl, c0, c1, c2, c3, c4, c5, c6, c7, c8, c9⟩ := RdG.mail HR.out.h3 hl1 (List.getElem?_eq_getElem hl1)
    have hpv : (w.ml[j]).v.size ≤ 9223372036854775807 := by have := (HF.out.ml _ (List.getElem_mem hl1)).2.2.2.2.2; unfold maxLen at this; omega
    clear c0 c1 c2 c3 c4 c5 c6 c8 c9
    generalize w.ml[j].v = vv at c7 hpv
    have t1 : decide ((j : Int) < (w.ml.length : Int)) = true := by simp; omega
    have t2 : decide ((j : Int) < 2000) = true := by simp; omega
    have t3 : decide (j < w.ml.length) = true := by simp; omega
    have t4 : decide (j < 2000) = true := by simp; omega
    go_wp2_with fail
    go_round
    case rel => exact ⟨j + 1, _, by omega, by go_num, rfl⟩
    case measure => simp [intOf]; omega
   ·rcases (show (¬ j < w.ml.length) ∨ (j < w.ml.length ∧ ¬ j < 2000) by omega) with h0 | ⟨h0, h0'⟩
    ·have t1 : decide ((j : Int) < (w.ml.length : Int)) = false := by simp; omega
     have t3 : decide (j < w.ml.length) = false := by simp; omega
     clear hlt
     go_wp2_with fail
     go_meet
     case rel => exact ⟨⟨_, rfl⟩, rfl⟩
    ·have t1 : decide ((j : Int) < (w.ml.length : Int)) = true := by simp; omega
     have t2 : decide ((j : Int) < 2000) = false := by simp; omega
     have t3 : decide (j < w.ml.length) = true := by simp; omega
     have t4 : decide (j < 2000) = false := by simp; omega
     clear hlt
     go_wp2_with fail
     go_meet
     case rel => exact ⟨⟨_, rfl⟩, rfl⟩
 case rest =>
  obtain ⟨⟨z, rfl⟩, rfl⟩ := hcut
  go_upto_block 2 with (fail)
  go_cut [3] (fun x wx => (∃ z : Int, x = .int .i64 z) ∧ W0 = wx)
  case first =>
   go_wp2_with fail
   go_loop [3, 5] (fun s i => ∃ (j : Nat) (z : Int), j ≤ w.ch.length ∧ i = .int .i64 j ∧ s = .int .i64 z) (fun _ i => w.ch.length - (intOf i).toNat)
   case atStart => exact ⟨0, _, by omega, rfl, rfl⟩
   case round =>
    obtain ⟨j, z, hj, rfl, rfl⟩ := hrel
    by_cases hlt : j < w.ch.length ∧ j < 2000
    ·obtain ⟨hl1, hl2⟩ := hlt
     obtain ⟨bl, o, rfl, hbl, c0, c7⟩ := RdG.choice HR.out.h4 hl1 (List.getElem?_eq_getElem hl1)
     have hpv : (w.ch[j]).v.size ≤ 9223372036854775807 := by have := HF.out.ch _ (List.getElem_mem hl1); unfold maxLen at this; omega
     clear c0
     generalize w.ch[j].v = vv at c7 hpv
     have t1 : decide ((j : Int) < (w.ch.length : Int)) = true := by simp; omega
     have t2 : decide ((j : Int) < 2000) = true := by simp; omega
     have t3 : decide (j < w.ch.length) = true := by simp; omega
     have t4 : decide (j < 2000) = true := by simp; omega
     go_wp2_with fail
     go_round
     case rel => exact ⟨j + 1, _, by omega, by go_num, rfl⟩
     case measure => simp [intOf]; omega
    ·rcases (show (¬ j < w.ch.length) ∨ (j < w.ch.length ∧ ¬ j < 2000) by omega) with h0 | ⟨h0, h0'⟩
     ·have t1 : decide ((j : Int) < (w.ch.length : Int)) = false := by simp; omega
      have t3 : decide (j < w.ch.length) = false := by simp; omega
      clear hlt
      go_wp2_with fail
      go_meet
      case rel => exact ⟨⟨_, rfl⟩, rfl⟩
     ·have t1 : decide ((j : Int) < (w.ch.length : Int)) = true := by simp; omega
      have t2 : decide ((j : Int) < 2000) = false := by simp; omega
      have t3 : decide (j < w.ch.length) = true := by simp; omega
      have t4 : decide (j < 2000) = false := by simp; omega
      clear hlt
      go_wp2_with fail
      go_meet
      case rel => exact ⟨⟨_, rfl⟩, rfl⟩
  case rest =>
   obtain ⟨⟨z, rfl⟩, rfl⟩ := hcut
   go_upto_block 4 with (fail)
   clear x0 x1 x2 x3 x4
   go_cut [3] (fun x wx => (x = .int .i64 z) ∧ Below W0.heap.size W0 wx ∧ TsOk w 20)
   case first =>
    go_wp2_with fail
    go_loopw [6] (fun i wr => ∃ j : Nat, j ≤ w.ts.length ∧ i = .int .i64 j ∧ Hid (Below W0.heap.size W0 wr ∧ TsOk w j)) (fun i _ => w.ts.length - (intOf i).toNat)
    case atStart => exact ⟨0, by omega, rfl, h! ⟨Below.refl _ _, fun i t _ h => absurd h (by omega)⟩⟩
    case round =>
     obtain ⟨j, hj, rfl, HK⟩ := hrel
     obtain ⟨⟨x0, x1, x2, x3, x4⟩, _⟩ := (X0.out.below HK.out.1 X0.out.lt).five
     by_cases hlt : j < w.ts.length ∧ j < 20
     ·obtain ⟨hl1, hl2⟩ := hlt
      have ht := List.getElem?_eq_getElem hl1
      obtain ⟨bl, o, B, n, c, C, m, d, D, q, f, rfl, hbl, r1, r2, r3, t0, t1, t2, t3, t4, t5, t6⟩ := RdG.try_ (RdG.below HR.out.h2 HK.out.1) rfl (HR.out.ht.below HK.out.1) ht
      have hf := HF.out.ts _ (List.getElem_mem hl1)
      generalize w.ts[j] = t at ht r1 r2 r3 t0 t1 t2 t3 t4 t5 t6 hf
      have HG := h! (great_any (.agg #[.int .u8 t.ph, .int .i64 t.ba, .slice B n c, .string t.wi, .string t.va, .slice C m d, .slice D q f]) t wr ⟨B, n, c, C, m, d, D, q, f, rfl, r1, r2, r3⟩ hf)
      have HT := h! ht
      have e1 : decide ((j : Int) < (w.ts.length : Int)) = true := by simp; omega
      have e2 : decide ((j : Int) < 20) = true := by simp; omega
      have e3 : decide (j < w.ts.length) = true := by simp; omega
      have e4 : decide (j < 20) = true := by simp; omega
      have i0 : (0 : Int) ≤ (j : Int) := by omega
      have i1 : (j : Int) < (w.ts.length : Int) := by omega
      clear r1 r2 r3 hf ht
      go_wp2_with fail
      refine HG.out.mono ?_
      rintro e w1 ⟨b, rfl, hbf, hb⟩
      have HB1 := h! (bmore HK.out.1 hb n!)
      have HBF := h! hbf
      clear HG hbf hb t0 t1 t2 t3 t4 t5 t6 x0 x1 x2 x3 x4
      rcases b with _ | _
      ·have HN := h! (HK.out.2.next HT.out (HBF.out rfl))
       go_wp2_with fail
       go_roundw
       case rel => exact ⟨j + 1, by omega, by go_num, h! ⟨HB1.out, HN.out⟩⟩
       case measure => simp [intOf]; omega
      ·go_wp2_with fail
       go_ret
       exact GrIs.mk (fun h => by cases h) (bmore HB0.out HB1.out n!)
     ·have HN : Hid (TsOk w 20) := h! (fun i t ht hi => by
       have hil := (List.getElem?_eq_some_iff.1 ht).1
       exact HK.out.2 i t ht (by omega))
      rcases (show (¬ j < w.ts.length) ∨ (j < w.ts.length ∧ ¬ j < 20) by omega) with h0 | ⟨h0, h0'⟩
      ·have e1 : decide ((j : Int) < (w.ts.length : Int)) = false := by simp; omega
       have e3 : decide (j < w.ts.length) = false := by simp; omega
       clear hlt
       go_wp2_with fail
       go_meet
       case rel => exact ⟨rfl, HK.out.1, HN.out⟩
      ·have e1 : decide ((j : Int) < (w.ts.length : Int)) = true := by simp; omega
       have e2 : decide ((j : Int) < 20) = false := by simp; omega
       have e3 : decide (j < w.ts.length) = true := by simp; omega
       have e4 : decide (j < 20) = false := by simp; omega
       clear hlt
       go_wp2_with fail
       go_meet
       case rel => exact ⟨rfl, HK.out.1, HN.out⟩
   case rest =>
    obtain ⟨rfl, hb5, hok⟩ := hcut
    have HB5 := h! hb5
    have HOK := h! hok
    obtain ⟨⟨x0, x1, x2, x3, x4⟩, _⟩ := (X0.out.below hb5 X0.out.lt).five
    have HBF := h! (bmore HB0.out hb5 n!)
    clear hb5 hok X0
    generalize wc = w5 at HB5 x0 x1 x2 x3 x4 HBF ⊢
    clear hgb
    go_upto_block 6 with (fail)
    go_cut [3] (fun x wx => (∃ z : Int, x = .int .i64 z) ∧ w5 = wx)
    case first =>
     go_wp2_with fail
     go_loop [3, 7] (fun s i => ∃ (j : Nat) (z : Int), j ≤ w.vs.length ∧ i = .int .i64 j ∧ s = .int .i64 z) (fun _ i => w.vs.length - (intOf i).toNat)
     case atStart => exact ⟨0, _, by omega, rfl, rfl⟩
     case round =>
      obtain ⟨j, z, hj, rfl, rfl⟩ := hrel
      by_cases hlt : j < w.vs.length ∧ j < 20
      ·obtain ⟨hl1, hl2⟩ := hlt
       obtain ⟨bl, o, rfl, hbl, c0, c1, c7⟩ := RdG.vote (RdG.below HR.out.h1 HB5.out) hl1 (List.getElem?_eq_getElem hl1)
       have hpv : (w.vs[j]).v.size ≤ 9223372036854775807 := by have := (HF.out.vs _ (List.getElem_mem hl1)).2.2.2.2; unfold maxLen at this; omega
       clear c0 c1
       generalize w.vs[j].v = vv at c7 hpv
       have t1 : decide ((j : Int) < (w.vs.length : Int)) = true := by simp; omega
       have t2 : decide ((j : Int) < 20) = true := by simp; omega
       have t3 : decide (j < w.vs.length) = true := by simp; omega
       have t4 : decide (j < 20) = true := by simp; omega
       go_wp2_with fail
       go_round
       case rel => exact ⟨j + 1, _, by omega, by go_num, rfl⟩
       case measure => simp [intOf]; omega
      ·rcases (show (¬ j < w.vs.length) ∨ (j < w.vs.length ∧ ¬ j < 20) by omega) with h0 | ⟨h0, h0'⟩
       ·have t1 : decide ((j : Int) < (w.vs.length : Int)) = false := by simp; omega
        have t3 : decide (j < w.vs.length) = false := by simp; omega
        clear hlt
        go_wp2_with fail
        go_meet
        case rel => exact ⟨⟨_, rfl⟩, rfl⟩
       ·have t1 : decide ((j : Int) < (w.vs.length : Int)) = true := by simp; omega
        have t2 : decide ((j : Int) < 20) = false := by simp; omega
        have t3 : decide (j < w.vs.length) = true := by simp; omega
        have t4 : decide (j < 20) = false := by simp; omega
        clear hlt
        go_wp2_with fail
        go_meet
        case rel => exact ⟨⟨_, rfl⟩, rfl⟩
    case rest =>
     obtain ⟨⟨z, rfl⟩, rfl⟩ := hcut
     rcases hz1 : decide (100000 < z) with _ | _
     rotate_left
     ·go_wp2_with fail
      go_ret
      exact GrIs.mk (fun h => by simp_all) HBF.out
     by_cases hl3 : 1100 < w.ml.length
     ·have e1 : decide ((1100 : Int) < (w.ml.length : Int)) = true := by simp; omega
      have e2 : decide (1100 < w.ml.length) = true := by simp; omega
      go_wp2_with fail
      go_ret
      exact GrIs.mk (fun h => by simp_all) HBF.out
     have el3 : decide ((1100 : Int) < (w.ml.length : Int)) = false := by simp; omega
     have fl3 : decide (1100 < w.ml.length) = false := by simp; omega
     by_cases hl4 : 1100 < w.ch.length
     ·have e1 : decide ((1100 : Int) < (w.ch.length : Int)) = true := by simp; omega
      have e2 : decide (1100 < w.ch.length) = true := by simp; omega
      go_wp2_with fail
      go_ret
      exact GrIs.mk (fun h => by simp_all) HBF.out
     have el4 : decide ((1100 : Int) < (w.ch.length : Int)) = false := by simp; omega
     have fl4 : decide (1100 < w.ch.length) = false := by simp; omega
     by_cases hl2 : 10 < w.ts.length
     ·have e1 : decide ((10 : Int) < (w.ts.length : Int)) = true := by simp; omega
      have e2 : decide (10 < w.ts.length) = true := by simp; omega
      go_wp2_with fail
      go_ret
      exact GrIs.mk (fun h => by simp_all) HBF.out
     have el2 : decide ((10 : Int) < (w.ts.length : Int)) = false := by simp; omega
     have fl2 : decide (10 < w.ts.length) = false := by simp; omega
     by_cases hl1 : 10 < w.vs.length
     ·have e1 : decide ((10 : Int) < (w.vs.length : Int)) = true := by simp; omega
      have e2 : decide (10 < w.vs.length) = true := by simp; omega
      go_wp2_with fail
      go_ret
      exact GrIs.mk (fun h => by simp_all) HBF.out
     have el1 : decide ((10 : Int) < (w.vs.length : Int)) = false := by simp; omega
     have fl1 : decide (10 < w.vs.length) = false := by simp; omega
     by_cases hl0 : 100 < w.ms.length
     ·have e1 : decide ((100 : Int) < (w.ms.length : Int)) = true := by simp; omega
      have e2 : decide (100 < w.ms.length) = true := by simp; omega
      go_wp2_with fail
      go_ret
      exact GrIs.mk (fun h => by simp_all) HBF.out
     have el0 : decide ((100 : Int) < (w.ms.length : Int)) = false := by simp; omega
     have fl0 : decide (100 < w.ms.length) = false := by simp; omega
     have HSM := h! (show Small w from ⟨by omega, by omega, by omega, by omega, by omega, HOK.out.all (by omega)⟩)
     go_wp2_with fail
     go_ret
     exact GrIs.mk (fun _ => HSM.out) HBF.out
end Go.Proofs.YtiiobafcgdelmaaGreat.PD
namespace Go.Proofs.YtiiobafcgdelmaaGreat.PD
open Go.RowKit Go.Joins Go.ChangeShapes Go.WideShapes Go.Deep
def WArg (w : World) (v : Value) (d : DC.Wd) : Prop := WIs w v d ∧ WFitL d
instance : Inhabited DC.Vt := ⟨DC.vt0⟩
instance : Inhabited DC.Ml := ⟨DC.mk 0 0 0 0 0 .empty⟩
instance : Inhabited DC.Ch := ⟨⟨0, .empty⟩⟩
instance : Inhabited (Value × AM.At) := ⟨⟨undef, AM.zero⟩⟩
def AtRow (w : World) (p : Value × AM.At) : Prop :=
 (∃ A n c B m d C k f, p.1 = .agg #[.int .u8 p.2.ph, .int .i64 p.2.ba, .slice A n c, .string p.2.wi, .string p.2.va, .slice B m d, .slice C k f] ∧ Rd w A n (ic p.2.ms) ∧ RdP w B m p.2.ps ∧ Rd w C k (ic p.2.ac)) ∧ FitL p.2
section
variable {H : Type} {enc : TypeId × Value → H} {w : World} {spare : Nat → Bool} {held : Bool} {base : Nat}
theorem vt_cells {fuel : Nat} {cs : List Value} {x : DataW H × List MemPlace} (h : DataW.trod enc Tryz.prog w base spare held fuel 59 cs = some x) : ∃ m : DC.Vt, cs = vcell m ∧ VFit m := by
 obtain ⟨hlen, n, hf⟩ := cells_read Tryz.underlying59 (by kernel_rfl) h
 have hl : cs.length = 3 := hlen.trans (by kernel_rfl)
 match cs, hl with
 | [c0, c1, c2], _ =>
  obtain ⟨y0, t0⟩ := hf 0 _ c0 rfl rfl
  obtain ⟨y1, t1⟩ := hf 1 _ c1 rfl rfl
  obtain ⟨y2, t2⟩ := hf 2 _ c2 rfl rfl
  obtain ⟨a, e0, _, w0⟩ := DataW.trod_int Tryz.underlying3 t0
  obtain ⟨b, e1, _, w1⟩ := DataW.trod_int Tryz.underlying3 t1
  obtain ⟨s, e2, _, w2⟩ := DataW.trod_string Tryz.underlying9 t2
  simp at e0 e1 e2
  subst e0 e1 e2
  exact ⟨⟨a, b, s⟩, rfl, (range_i64 w0).1, (range_i64 w0).2, (range_i64 w1).1, (range_i64 w1).2, w2⟩
theorem ch_cells {fuel : Nat} {cs : List Value} {x : DataW H × List MemPlace} (h : DataW.trod enc Tryz.prog w base spare held fuel 53 cs = some x) : ∃ m : DC.Ch, cs = ccell m ∧ m.v.size ≤ maxLen := by
 obtain ⟨hlen, n, hf⟩ := cells_read Tryz.underlying53 (by kernel_rfl) h
 have hl : cs.length = 2 := hlen.trans (by kernel_rfl)
 match cs, hl with
 | [c0, c1], _ =>
  obtain ⟨y0, t0⟩ := hf 0 _ c0 rfl rfl
  obtain ⟨y1, t1⟩ := hf 1 _ c1 rfl rfl
  obtain ⟨a, e0, _, w0⟩ := DataW.trod_int Tryz.underlying3 t0
  obtain ⟨s, e2, _, w2⟩ := DataW.trod_string Tryz.underlying9 t1
  simp at e0 e2
  subst e0 e2
  exact ⟨⟨a, s⟩, rfl, w2⟩
theorem ml_cells {fuel : Nat} {cs : List Value} {x : DataW H × List MemPlace} (h : DataW.trod enc Tryz.prog w base spare held fuel 51 cs = some x) : ∃ m : DC.Ml, cs = mcell m ∧ MFit m := by
 obtain ⟨hlen, n, hf⟩ := cells_read Tryz.underlying51 (by kernel_rfl) h
 have hl : cs.length = 10 := hlen.trans (by kernel_rfl)
 match cs, hl with
 | [c0, c1, c2, c3, c4, c5, c6, c7, c8, c9], _ =>
  obtain ⟨y0, t0⟩ := hf 0 _ c0 rfl rfl
  obtain ⟨y1, t1⟩ := hf 1 _ c1 rfl rfl
  obtain ⟨y2, t2⟩ := hf 2 _ c2 rfl rfl
  obtain ⟨y3, t3⟩ := hf 3 _ c3 rfl rfl
  obtain ⟨y4, t4⟩ := hf 4 _ c4 rfl rfl
  obtain ⟨y5, t5⟩ := hf 5 _ c5 rfl rfl
  obtain ⟨y6, t6⟩ := hf 6 _ c6 rfl rfl
  obtain ⟨y7, t7⟩ := hf 7 _ c7 rfl rfl
  obtain ⟨y8, t8⟩ := hf 8 _ c8 rfl rfl
  obtain ⟨y9, t9⟩ := hf 9 _ c9 rfl rfl
  obtain ⟨a0, e0, _, w0⟩ := DataW.trod_int Tryz.underlying3 t0
  obtain ⟨a1, e1, _, w1⟩ := DataW.trod_int Tryz.underlying3 t1
  obtain ⟨a2, e2, _, w2⟩ := DataW.trod_int Tryz.underlying5 t2
  obtain ⟨a3, e3, _, w3⟩ := DataW.trod_int Tryz.underlying3 t3
  obtain ⟨a4, e4, _, w4⟩ := DataW.trod_int Tryz.underlying3 t4
  obtain ⟨a5, e5, _, w5⟩ := DataW.trod_int Tryz.underlying3 t5
  obtain ⟨a6, e6, _, w6⟩ := DataW.trod_int Tryz.underlying3 t6
  obtain ⟨a7, e7, _, w7⟩ := DataW.trod_string Tryz.underlying9 t7
  obtain ⟨a8, e8, _, w8⟩ := DataW.trod_int Tryz.underlying3 t8
  obtain ⟨a9, e9, _, w9⟩ := DataW.trod_int Tryz.underlying3 t9
  simp at e0 e1 e2 e3 e4 e5 e6 e7 e8 e9
  subst e0 e1 e2 e3 e4 e5 e6 e7 e8 e9
  exact ⟨⟨a0, a1, a2, a3, a4, a5, a6, a7, a8, a9⟩, rfl, (range_u8 w2).1, (range_u8 w2).2, (range_i64 w5).1, (range_i64 w5).2, (range_i64 w6).2, w7⟩
theorem at_cells {fuel : Nat} {cs : List Value} {x : DataW H × List MemPlace} (h : DataW.trod enc Tryz.prog w base spare held fuel 57 cs = some x) : ∃ p : Value × AM.At, cs = tcell p.1 ∧ AtRow w p := by
 obtain ⟨hlen, n, hg⟩ := cells_read Tryz.underlying57 (by kernel_rfl) h
 have hl : cs.length = 7 := hlen.trans (by kernel_rfl)
 match cs, hl with
 | [c0, c1, c2, c3, c4, c5, c6], _ =>
  obtain ⟨y0, t0⟩ := hg 0 _ c0 rfl rfl
  obtain ⟨y1, t1⟩ := hg 1 _ c1 rfl rfl
  obtain ⟨y2, t2⟩ := hg 2 _ c2 rfl rfl
  obtain ⟨y3, t3⟩ := hg 3 _ c3 rfl rfl
  obtain ⟨y4, t4⟩ := hg 4 _ c4 rfl rfl
  obtain ⟨y5, t5⟩ := hg 5 _ c5 rfl rfl
  obtain ⟨y6, t6⟩ := hg 6 _ c6 rfl rfl
  obtain ⟨ph, e0, _, w0⟩ := DataW.trod_int Tryz.underlying5 t0
  obtain ⟨ba, e1, _, w1⟩ := DataW.trod_int Tryz.underlying3 t1
  obtain ⟨A, an, ac, ms, e2, g2, h2⟩ := isl_cells t2
  obtain ⟨wi, e3, _, w3⟩ := DataW.trod_string Tryz.underlying9 t3
  obtain ⟨va, e4, _, w4⟩ := DataW.trod_string Tryz.underlying9 t4
  obtain ⟨B, bm, bd, ps, e5, h5, g5, F5⟩ := prs_cells t5
  obtain ⟨C, ck, cf, acc, e6, g6, h6⟩ := isl_cells t6
  simp at e0 e1 e3 e4
  subst e0 e1 e2 e3 e4 e5 e6
  refine ⟨⟨.agg #[.int .u8 ph, .int .i64 ba, .slice A an ac, .string wi, .string va, .slice B bm bd, .slice C ck cf], ⟨ph, ba, ms, wi, va, ps, acc⟩⟩, rfl, ⟨A, an, ac, B, bm, bd, C, ck, cf, rfl, h2, h5, h6⟩, ⟨(range_u8 w0).1, (range_u8 w0).2, (range_i64 w1).1, (range_i64 w1).2, w3, w4, F5, ?_, ?_, ?_⟩⟩
  ·have := h2.1; rw [ic_length] at this; simp only; omega
  ·have := h5.1; simp only; omega
  ·have := h6.1; rw [ic_length] at this; simp only; omega
set_option maxRecDepth 100000 in
theorem open_world {r : Reach} {b0 : Nat} {v : Value} {d : DataW H} {p : List MemPlace} (hv : Value.okWide Tryz.prog w r b0 28 v) (h : DataW.Trod enc Tryz.prog w base spare held 28 v d p) : ∃ q, WArg w v q := by
 obtain ⟨cs, rfl, hsz⟩ := okWide_struct Tryz.underlying28 hv
 obtain ⟨l⟩ := cs
 obtain ⟨fuel, hf⟩ := h
 obtain ⟨hlen, n, hg⟩ := cells_read Tryz.underlying28 (by kernel_rfl) hf
 have hl : l.length = 5 := by
  have := hlen.trans (show Tryz.prog.cellsOf 28 = 5 by kernel_rfl)
  simpa [Value.cells] using this
 match l, hl with
 | [c0, c1, c2, c3, c4], _ =>
  obtain ⟨y0, t0⟩ := hg 0 _ c0 rfl (by simp [Value.cells])
  obtain ⟨y1, t1⟩ := hg 1 _ c1 rfl (by simp [Value.cells])
  obtain ⟨y2, t2⟩ := hg 2 _ c2 rfl (by simp [Value.cells])
  obtain ⟨y3, t3⟩ := hg 3 _ c3 rfl (by simp [Value.cells])
  obtain ⟨y4, t4⟩ := hg 4 _ c4 rfl (by simp [Value.cells])
  obtain ⟨A0, n0, k0, ms, rfl, g0, r0⟩ := isl_cells t0
  obtain ⟨A1, n1, k1, vs, rfl, g1, g1', r1, l1, F1⟩ := rows_cells (s := 3) Tryz.underlying23 (by kernel_rfl) (by omega) (fun h => vt_cells h) t1
  obtain ⟨A2, n2, k2, ts, rfl, g2, g2', r2, l2, F2⟩ := rows_cells (f := fun p : Value × AM.At => tcell p.1) (s := 7) Tryz.underlying24 (by kernel_rfl) (by omega) (fun h => at_cells h) t2
  obtain ⟨A3, n3, k3, ml, rfl, g3, g3', r3, l3, F3⟩ := rows_cells (s := 10) Tryz.underlying25 (by kernel_rfl) (by omega) (fun h => ml_cells h) t3
  obtain ⟨A4, n4, k4, ch, rfl, g4, g4', r4, l4, F4⟩ := rows_cells (s := 2) Tryz.underlying26 (by kernel_rfl) (by omega) (fun h => ch_cells h) t4
  have l0 : ms.length = n0 := by have := r0.1; rwa [ic_length] at this
  subst l0 l1 l2 l3 l4
  refine ⟨⟨ms, vs, ts.map (·.2), ml, ch⟩, ⟨A0, k0, A1, k1, A2, k2, A3, k3, A4, k4, flat (fun p : Value × AM.At => tcell p.1) ts, by simp, ⟨r0, r1, by simpa using r2, ⟨ts.map (·.1), by simp, by simp [flat, List.flatMap_map], fun i t ht => ?_⟩, r3, r4⟩⟩, ⟨g0, by show vs.length ≤ _; omega, by simp; omega, by show ml.length ≤ _; omega, by show ch.length ≤ _; omega, F1, fun t ht => ?_, F3, F4⟩⟩
  ·simp only [List.getElem?_map] at ht ⊢
   obtain ⟨q, hq, rfl⟩ := Option.map_eq_some_iff.1 ht
   obtain ⟨⟨A, n, c, B, m, d, C, k, f, e, h1, h2, h3⟩, _⟩ := F2 q (List.mem_of_getElem? hq)
   exact ⟨A, n, c, B, m, d, C, k, f, by rw [hq]; simp [e], h1, h2, h3⟩
  ·obtain ⟨q, hq, rfl⟩ := List.mem_map.1 ht
   exact (F2 q hq).2
end
set_option maxRecDepth 100000 in
theorem world_cap {H : Type} {enc : TypeId × Value → H} {w : World} {spare : Nat → Bool} {held : Bool} {base : Nat} {r : Reach} {b0 : Nat} {v : Value} {d : DataW H} {p : List MemPlace} (hv : Value.okWide Tryz.prog w r b0 28 v) (h : DataW.Trod enc Tryz.prog w base spare held 28 v d p) : WCap v := by
 intro c0 c1 c2 A m c c4 e
 subst e
 obtain ⟨fuel, hf⟩ := h
 obtain ⟨hlen, n, hg⟩ := cells_read Tryz.underlying28 (by kernel_rfl) hf
 obtain ⟨y3, t3⟩ := hg 3 _ (.slice A m c) rfl (by simp [Value.cells])
 rcases open_slice Tryz.underlying25 t3 with ⟨hcs, _⟩ | ⟨a, len, cap, _, _, _, _, hcs, _, h1, h2, _⟩
 ·simp at hcs
  obtain ⟨_, rfl, rfl⟩ := hcs
  exact Nat.le_refl _
 ·simp at hcs
  obtain ⟨_, rfl, rfl⟩ := hcs
  exact h1
end Go.Proofs.YtiiobafcgdelmaaGreat.PD
