/- Contracts of functions of towncrier, layers 5 to 9, and of the document's own ones, part 20; each as its theorem says. -/
import Derived.Test.YtiiobafcgdelmaaGreatL01
import Derived.Test.YtiiobafcgdelmaaGreatL17
import Derived.Test.YtiiobafcgdelmaaGreatL19
import Derived.Test.YtiiobafcgdelmaaGreatL13
import Derived.Test.YtiiobafcgdelmaaGreatL18
set_option linter.unusedVariables false
set_option linter.unusedSimpArgs false
namespace Go.Proofs.YtiiobafcgdelmaaGreat.PD
open Go.RowKit Go.Shelf
theorem below_setCells {B g : Nat} : ∀ (l : List Value) (o : Nat) {a w : World}, Below B a w → B ≤ g → Below B a (w.setCells g o l)
 | [], _, _, _, h, _ => h
 | v :: r, o, _, _, h, hg => below_setCells r (o + 1) (h.setCell (p := ⟨g, o, none⟩) hg v) hg
theorem far_setCells {g g' : Nat} {t : TypeId} {cs : Array Value} (hg : g ≠ g') : ∀ (l : List Value) (o : Nat) {w : World}, Box w g t cs → Box (w.setCells g' o l) g t cs
 | [], _, _, h => h
 | v :: r, o, _, h => far_setCells hg r (o + 1) (h.far (p := ⟨g', o, none⟩) hg v)
theorem kept_setCells {S : TypeId → Prop} {g : Nat} {e : TypeId} (he : S e) : ∀ (l : List Value) (o : Nat) {w : World} {cs : Array Value}, Box w g e cs → Kept S w (w.setCells g o l)
 | [], _, w, _, _ => Kept.refl S w
 | v :: r, o, w, cs, h => (Kept.set h he v).trans (kept_setCells he r (o + 1) (h.stored o v))
theorem box_setAll {w : World} {g : Nat} {t : TypeId} {cs : Array Value} (h : Box w g t cs) (l : List Value) (hl : cs.size = l.length) : Box (w.setCells g 0 l) g t l.toArray := by
 obtain ⟨cs', h1, h2⟩ := box_setCells l 0 w cs h (by omega)
 have e : cs' = l.toArray := by
  rw [List.take_zero, List.nil_append, List.drop_eq_nil_of_le (by rw [Array.length_toList]; omega), List.append_nil] at h2
  rw [← h2]
 rw [← e]; exact h1
def LiftPost (base g : Nat) (w : DC.Wd) (m : DC.Ml) (j : Nat) (W : World) (e : Ending) (W' : World) : Prop :=
 e = .returned (.agg #[.int .i64 m.f, .int .i64 m.t, .int .u8 m.k, .int .i64 m.g, .int .i64 m.s, .int .i64 m.b, .int .i64 m.p, .string m.v, .int .i64 m.i, .int .i64 m.m]) ∧ WdAt W' base g (DC.gone w j) ∧ Kept isTk W W' ∧ Below base W W'
theorem lift_mid {W U w9 : World} {base g q j c3 : Nat} {w : DC.Wd} {A0 A1 A2 A4 : Option Addr} {c0 c1 c2 c4 : Nat} {xs : List Value} (hbase : base ≤ W.heap.size) (hgb : base ≤ g) (hj : j < w.ml.length)
  (hx : Box W g 62 #[.slice A0 w.ms.length c0, .slice A1 w.vs.length c1, .slice A2 w.ts.length c2, .slice (some ⟨q, 0, none⟩) w.ml.length c3, .slice A4 w.ch.length c4])
  (o0 : W.ownsRow base 3 1 (.slice A0 w.ms.length c0) w.ms.length (ic w.ms)) (o1 : W.ownsRow base 59 3 (.slice A1 w.vs.length c1) w.vs.length (flat vcell w.vs))
  (o2 : W.ownsRow base 57 7 (.slice A2 w.ts.length c2) w.ts.length xs) (ht : TsRow W base xs w.ts) (o3 : W.ownsRow base 51 10 (.slice (some ⟨q, 0, none⟩) w.ml.length c3) w.ml.length (flat mcell w.ml)) (o4 : W.ownsRow base 53 2 (.slice A4 w.ch.length c4) w.ch.length (flat ccell w.ch))
  (hU : Below W.heap.size W U) (hown : w9.ownsRow base 51 10 (.slice (some ⟨q, 0, none⟩) (w.ml.length - 1) c3) (w.ml.length - 1) (flat mcell (w.ml.eraseIdx j))) (hg9 : U.grownBy w9 (some q)) :
  Box w9 g 62 #[.slice A0 w.ms.length c0, .slice A1 w.vs.length c1, .slice A2 w.ts.length c2, .slice (some ⟨q, 0, none⟩) w.ml.length c3, .slice A4 w.ch.length c4] ∧
  WdAt (w9.setCell ⟨g, 3, none⟩ (.slice (some ⟨q, 0, none⟩) (w.ml.length - 1) c3)) base g (DC.gone w j) ∧ (w9.setCell ⟨g, 3, none⟩ (.slice (some ⟨q, 0, none⟩) (w.ml.length - 1) c3)).cell? ⟨g, 3, none⟩ = some (.slice (some ⟨q, 0, none⟩) (w.ml.length - 1) c3) ∧
  Kept isWM W (w9.setCell ⟨g, 3, none⟩ (.slice (some ⟨q, 0, none⟩) (w.ml.length - 1) c3)) ∧ Below base W (w9.setCell ⟨g, 3, none⟩ (.slice (some ⟨q, 0, none⟩) (w.ml.length - 1) c3)) := by
 have q3 := own_below3 o3 hU
 have k1 : Kept isWM W U := Kept.of_below hU
 have k2 : Kept isWM U w9 := Kept.grown q3 (.inr rfl) hg9
 have hx9 : Box w9 g 62 _ := (hx.below hU hx.lt).grown hg9 (fun e => by
  obtain ⟨_, cur, hc⟩ := own_block q3 e.symm
  have := hx.below hU hx.lt
  rw [Box] at this hc
  rw [hc] at this
  injection this with this
  injection this with _ this
  exact absurd this (by decide))
 have k3 : Kept isWM w9 (w9.setCell ⟨g, 3, none⟩ (.slice (some ⟨q, 0, none⟩) (w.ml.length - 1) c3)) := Kept.set hx9 (.inl rfl) _
 have kk := (k1.trans k2).trans k3
 have nI : ¬ isWM 3 := by unfold isWM; decide
 have nP : ¬ isWM 86 := by unfold isWM; decide
 have hlen : (w.ml.eraseIdx j).length = w.ml.length - 1 := erase_len hj
 have hqb : base ≤ q := (own_block o3 (show (Value.slice (some ⟨q, 0, none⟩) w.ml.length c3).ownBlock = some q from rfl)).1
 refine ⟨hx9, ⟨A0, c0, A1, c1, A2, c2, some ⟨q, 0, none⟩, c3, A4, c4, xs, hgb, ?_, kk.own o0 nI, kk.own o1 (by unfold isWM; decide), kk.own o2 (by unfold isWM; decide), ht.kept kk nI nP, ?_, kk.own o4 (by unfold isWM; decide)⟩, ?_, kk, ?_⟩
 ·show Box _ g 62 #[_, _, _, .slice (some ⟨q, 0, none⟩) (w.ml.eraseIdx j).length c3, _]
  rw [hlen]
  have := hx9.stored 3 (.slice (some ⟨q, 0, none⟩) (w.ml.length - 1) c3)
  simp at this
  exact this
 ·show World.ownsRow _ base _ 10 (.slice (some ⟨q, 0, none⟩) (w.ml.eraseIdx j).length c3) (w.ml.eraseIdx j).length (flat mcell (w.ml.eraseIdx j))
  rw [hlen]
  exact own_setother hown hx9 (by decide) _
 ·have := (hx9.stored 3 (.slice (some ⟨q, 0, none⟩) (w.ml.length - 1) c3)).cell 3
  simpa using this
 ·have h1 : Below base W w9 := (hU.mono hbase).grown hg9 (Nat.le_trans hbase hU.size) (fun r hr => by injection hr with hr; omega)
  exact h1.setCell (p := ⟨g, 3, none⟩) hgb _
theorem below2 {W : World} (a b : Obj) : Below W.heap.size W ((W.alloc a).alloc b) := ((Below.refl _ _).alloc n! _).alloc (by simp) _
set_option maxRecDepth 100000 in
set_option maxHeartbeats 4000000 in
theorem lift_any (base g j : Nat) (w : DC.Wd) (m : DC.Ml) (W : World) (H : WdAt W base g w) (hm : w.ml[j]? = some m) (hl : w.ml.length ≤ 1900) (hbase : base ≤ W.heap.size) :
  Calls Tryz.prog 54 #[.pointer (some ⟨g, 0, none⟩), .int .i64 (j : Nat)] W (LiftPost base g w m j W) := by
 have hlt := H.lt
 obtain ⟨A0, c0, A1, c1, A2, c2, A3, c3, A4, c4, xs, hgb, hx, o0, o1, o2, ht, o3, o4⟩ := H
 have hj : j < w.ml.length := (List.getElem?_eq_some_iff.1 hm).1
 obtain ⟨q, rfl, hqb, hc⟩ := own_some o3 (by omega)
 have hqlt : q < W.heap.size := by obtain ⟨_, cur, hq⟩ := own_block o3 (show (Value.slice (some ⟨q, 0, none⟩) w.ml.length c3).ownBlock = some q from rfl); exact hq.lt
 have hf := flat_get (f := mcell) (s := 10) (fun _ _ => rfl) hm
 have m0 := hc _ _ (hf 0 (by omega))
 have m1 := hc _ _ (hf 1 (by omega))
 have m2 := hc _ _ (hf 2 (by omega))
 have m3 := hc _ _ (hf 3 (by omega))
 have m4 := hc _ _ (hf 4 (by omega))
 have m5 := hc _ _ (hf 5 (by omega))
 have m6 := hc _ _ (hf 6 (by omega))
 have m7 := hc _ _ (hf 7 (by omega))
 have m8 := hc _ _ (hf 8 (by omega))
 have m9 := hc _ _ (hf 9 (by omega))
 simp only [Nat.add_zero] at m0
 have g3 := hx.five.1.2.2.2.1
 have HD := h! (fun (U : World) (hU : Below W.heap.size W U) => delete_any base q c3 w.ml.length j w.ml U (own_below3 o3 hU) (by omega) hj)
 have HM := h! (fun (U w9 : World) (hU : Below W.heap.size W U) hown hg9 => lift_mid (U := U) (w9 := w9) hbase hgb hj hx o0 o1 o2 ht o3 o4 hU hown hg9)
 have HG := h! hlt
 have HQ := h! hqlt
 have HB := h! hbase
 have e0 : IntKind.i64.wrap ((j : Int) + 1) = (j : Int) + 1 := by rw [IntKind.wrap_i64]; omega
 have e1 : (j : Int) < (w.ml.length : Int) := by omega
 have hgw : g < W.heap.size := hlt.2
 clear hx o0 o1 o2 ht o3 o4 hc hf hm hlt hbase hgb hqb
 go_enter Tryz.func54, Tryz.ntmps54
 go_wp2_with fail
 obtain ⟨U, hU⟩ : ∃ U, U = (W.alloc (.cells #[.int .i64 0, .int .i64 0, .int .u8 0, .int .i64 0, .int .i64 0, .int .i64 0, .int .i64 0, .string ⟨#[]⟩, .int .i64 0, .int .i64 0] 51)).alloc (.cells #[.int .i64 m.f, .int .i64 m.t, .int .u8 m.k, .int .i64 m.g, .int .i64 m.s, .int .i64 m.b, .int .i64 m.p, .string m.v, .int .i64 m.i, .int .i64 m.m] 51) := ⟨_, rfl⟩
 have hUb : Below W.heap.size W U := by rw [hU]; exact below2 _ _
 have hUr : Box U W.heap.size 51 #[.int .i64 0, .int .i64 0, .int .u8 0, .int .i64 0, .int .i64 0, .int .i64 0, .int .i64 0, .string ⟨#[]⟩, .int .i64 0, .int .i64 0] := by
  rw [hU]; exact (Box.new _ _ _).below ((Below.refl _ _).alloc n! _) (by simp)
 have hUm : Box U (W.heap.size + 1) 51 (mcell m).toArray := by
  rw [hU]
  have := Box.new (W.alloc (.cells #[.int .i64 0, .int .i64 0, .int .u8 0, .int .i64 0, .int .i64 0, .int .i64 0, .int .i64 0, .string ⟨#[]⟩, .int .i64 0, .int .i64 0] 51)) 51 (mcell m).toArray
  rwa [show (W.alloc (.cells #[.int .i64 0, .int .i64 0, .int .u8 0, .int .i64 0, .int .i64 0, .int .i64 0, .int .i64 0, .string ⟨#[]⟩, .int .i64 0, .int .i64 0] 51)).heap.size = W.heap.size + 1 by simp] at this
 rw [← hU]
 clear hU
 refine (HD.out _ hUb).mono ?_
 rintro e w9 ⟨rfl, hown, hg9⟩
 have hM := HM.out U w9 hUb hown hg9
 have hr9 : Box w9 W.heap.size 51 _ := hUr.grown hg9 (by simp; omega)
 have hm9 : Box w9 (W.heap.size + 1) 51 _ := hUm.grown hg9 (by simp; omega)
 obtain ⟨⟨_, _, _, x3, _⟩, _, _, _, z3, _⟩ := hM.1.five
 have hgr : g ≠ W.heap.size := by omega
 have hgm : g ≠ W.heap.size + 1 := by omega
 have hrm : W.heap.size ≠ W.heap.size + 1 := by omega
 have hqr : (Value.slice (some ⟨q, 0, none⟩) (w.ml.length - 1) c3).ownBlock ≠ some W.heap.size := by simp [Value.ownBlock]; omega
 have hbr : base ≤ W.heap.size := HB.out
 clear HG HQ hgw hqlt m0 m1 m2 m3 m4 m5 m6 m7 m8 m9 g3 hUr hUm hUb HD HM hown hg9
 generalize W.heap.size + 1 = gm at hm9 hgm hrm ⊢
 generalize hRR : W.heap.size = gr at hr9 hgr hrm hqr hbr ⊢
 have hr10 := hr9.far (p := ⟨g, 3, none⟩) (fun e => hgr e.symm) (.slice (some ⟨q, 0, none⟩) (w.ml.length - 1) c3)
 have hm10 := hm9.far (p := ⟨g, 3, none⟩) (fun e => hgm e.symm) (.slice (some ⟨q, 0, none⟩) (w.ml.length - 1) c3)
 have HM2 := h! hM.2
 have HQR := h! hqr
 have HBR := h! hbr
 have HR := h! hr10
 have HMM := h! hm10
 clear hM hr9 hm9 hqr hbr HB hr10 hm10 hgr hgm e0 e1
 go_upto_region 3 with (fail)
 generalize w9.setCell ⟨g, 3, none⟩ (.slice (some ⟨q, 0, none⟩) (w.ml.length - 1) c3) = U9 at HM2 HR HMM ⊢
 have hS : MlS W base g (DC.gone w j) gr ⟨0, 0, 0, 0, 0, 0, 0, ⟨#[]⟩, 0, 0⟩ U9 := ⟨HM2.out.1, HR.out, fun v hv => by rw [HM2.out.2.1] at hv; injection hv with hv; subst hv; exact HQR.out, HBR.out, HM2.out.2.2.1.mono (fun e h => tk_of_wm h), HM2.out.2.2.2⟩
 have hS2 := hS.store (m' := m) (U9.setCells gr 0 (mcell m)) (below_setCells _ _ (Below.refl _ _) n!) (fun S hs => kept_setCells hs _ _ hS.2.1) (fun q' e' cs hq hb => far_setCells hq _ _ hb) (box_setAll hS.2.1 _ rfl)
 have HS2 := h! hS2
 obtain ⟨r0, r1, r2, r3, r4, r5, r6, r7, r8, r9⟩ := HR.out.ten
 obtain ⟨m0, m1, m2, m3, m4, m5, m6, m7, m8, m9⟩ := (show Box U9 gm 51 #[.int .i64 m.f, .int .i64 m.t, .int .u8 m.k, .int .i64 m.g, .int .i64 m.s, .int .i64 m.b, .int .i64 m.p, .string m.v, .int .i64 m.i, .int .i64 m.m] from HMM.out).ten
 have f0 := HR.out.frozen 0
 have f1 := HR.out.frozen 1
 have f2 := HR.out.frozen 2
 have f3 := HR.out.frozen 3
 have f4 := HR.out.frozen 4
 have f5 := HR.out.frozen 5
 have f6 := HR.out.frozen 6
 have f7 := HR.out.frozen 7
 have f8 := HR.out.frozen 8
 have f9 := HR.out.frozen 9
 clear x3 z3 hS hS2 HM2 HQR HBR HMM HR
 go_wp2_with fail
 obtain ⟨hS2, hx2, _, _, hk2, hb2⟩ := HS2.out
 obtain ⟨d0, d1, d2, d3, d4, d5, d6, d7, d8, d9⟩ := (show Box _ gr 51 #[.int .i64 m.f, .int .i64 m.t, .int .u8 m.k, .int .i64 m.g, .int .i64 m.s, .int .i64 m.b, .int .i64 m.p, .string m.v, .int .i64 m.i, .int .i64 m.m] from hx2).ten
 simp only [World.setCells, mcell, Nat.zero_add, Nat.reduceAdd] at d0 d1 d2 d3 d4 d5 d6 d7 d8 d9 hS2 hk2 hb2
 exact bodyPost_ret (v := .agg #[.int .i64 m.f, .int .i64 m.t, .int .u8 m.k, .int .i64 m.g, .int .i64 m.s, .int .i64 m.b, .int .i64 m.p, .string m.v, .int .i64 m.i, .int .i64 m.m]) (by simp [results, Tryz.results54, go_sem, d0, d1, d2, d3, d4, d5, d6, d7, d8, d9]) rfl ⟨rfl, hS2, hk2, hb2⟩
end Go.Proofs.YtiiobafcgdelmaaGreat.PD
namespace Go.Proofs.YtiiobafcgdelmaaGreat.PD
open Go.RowKit
def TsIs (W : World) (xs : List Value) (ts : List AM.At) : Prop :=
 ∃ vs : List Value, vs.length = ts.length ∧ xs = flat tcell vs ∧ ∀ (i : Nat) t, ts[i]? = some t → ∃ A n c B m d C k f, vs[i]? = some (.agg #[.int .u8 t.ph, .int .i64 t.ba, .slice A n c, .string t.wi, .string t.va, .slice B m d, .slice C k f]) ∧ Rd W A n (ic t.ms) ∧ RdP W B m t.ps ∧ Rd W C k (ic t.ac)
theorem TsIs.below {W W' : World} {xs : List Value} {ts : List AM.At} (h : TsIs W xs ts) (hb : Below W.heap.size W W') : TsIs W' xs ts := by
 obtain ⟨vs, hl, e, hall⟩ := h
 refine ⟨vs, hl, e, fun i t ht => ?_⟩
 obtain ⟨A, n, c, B, m, d, C, k, f, hv, h1, h2, h3⟩ := hall i t ht
 exact ⟨A, n, c, B, m, d, C, k, f, hv, h1.below hb, h2.below hb, h3.below hb⟩
structure WRd (W : World) (A0 A1 A2 A3 A4 : Option Addr) (xs : List Value) (w : DC.Wd) : Prop where
 h0 : Rd W A0 w.ms.length (ic w.ms)
 h1 : RdG W 3 A1 w.vs.length (flat vcell w.vs)
 h2 : RdG W 7 A2 w.ts.length xs
 ht : TsIs W xs w.ts
 h3 : RdG W 10 A3 w.ml.length (flat mcell w.ml)
 h4 : RdG W 2 A4 w.ch.length (flat ccell w.ch)
theorem WRd.below {W W' : World} {A0 A1 A2 A3 A4 : Option Addr} {xs : List Value} {w : DC.Wd} (h : WRd W A0 A1 A2 A3 A4 xs w) (hb : Below W.heap.size W W') : WRd W' A0 A1 A2 A3 A4 xs w :=
 ⟨h.h0.below hb, h.h1.below hb, h.h2.below hb, h.ht.below hb, h.h3.below hb, h.h4.below hb⟩
def WIs (W : World) (v : Value) (w : DC.Wd) : Prop :=
 ∃ A0 c0 A1 c1 A2 c2 A3 c3 A4 c4 xs, v = .agg #[.slice A0 w.ms.length c0, .slice A1 w.vs.length c1, .slice A2 w.ts.length c2, .slice A3 w.ml.length c3, .slice A4 w.ch.length c4] ∧ WRd W A0 A1 A2 A3 A4 xs w
theorem WIs.below {W W' : World} {v : Value} {w : DC.Wd} (h : WIs W v w) (hb : Below W.heap.size W W') : WIs W' v w := by
 obtain ⟨A0, c0, A1, c1, A2, c2, A3, c3, A4, c4, xs, e, h⟩ := h
 exact ⟨A0, c0, A1, c1, A2, c2, A3, c3, A4, c4, xs, e, h.below hb⟩
def WOwn (W : World) (base : Nat) (v : Value) (w : DC.Wd) : Prop :=
 ∃ A0 c0 A1 c1 A2 c2 A3 c3 A4 c4 xs, v = .agg #[.slice A0 w.ms.length c0, .slice A1 w.vs.length c1, .slice A2 w.ts.length c2, .slice A3 w.ml.length c3, .slice A4 w.ch.length c4] ∧
  W.ownsRow base 3 1 (.slice A0 w.ms.length c0) w.ms.length (ic w.ms) ∧
  W.ownsRow base 59 3 (.slice A1 w.vs.length c1) w.vs.length (flat vcell w.vs) ∧
  W.ownsRow base 57 7 (.slice A2 w.ts.length c2) w.ts.length xs ∧ TsRow W base xs w.ts ∧
  W.ownsRow base 51 10 (.slice A3 w.ml.length c3) w.ml.length (flat mcell w.ml) ∧
  W.ownsRow base 53 2 (.slice A4 w.ch.length c4) w.ch.length (flat ccell w.ch)
theorem WOwn.below {W W' : World} {base : Nat} {v : Value} {w : DC.Wd} (h : WOwn W base v w) (hb : Below W.heap.size W W') : WOwn W' base v w := by
 obtain ⟨A0, c0, A1, c1, A2, c2, A3, c3, A4, c4, xs, e, o0, o1, o2, ht, o3, o4⟩ := h
 exact ⟨A0, c0, A1, c1, A2, c2, A3, c3, A4, c4, xs, e, own_below3 o0 hb, own_below3 o1 hb, own_below3 o2 hb, ht.kept (S := fun _ => False) (Kept.of_below hb) id id, own_below3 o3 hb, own_below3 o4 hb⟩
theorem TsRow.mono {W : World} {base base' : Nat} {xs : List Value} {ts : List AM.At} (h : TsRow W base xs ts) (hb : base' ≤ base) : TsRow W base' xs ts := by
 obtain ⟨vs, hl, e, hall⟩ := h
 exact ⟨vs, hl, e, fun i t ht => by obtain ⟨v, hv, ho⟩ := hall i t ht; exact ⟨v, hv, ho.mono hb⟩⟩
theorem WOwn.mono {W : World} {base base' : Nat} {v : Value} {w : DC.Wd} (h : WOwn W base v w) (hb : base' ≤ base) : WOwn W base' v w := by
 obtain ⟨A0, c0, A1, c1, A2, c2, A3, c3, A4, c4, xs, e, o0, o1, o2, ht, o3, o4⟩ := h
 exact ⟨A0, c0, A1, c1, A2, c2, A3, c3, A4, c4, xs, e, own_base o0 hb, own_base o1 hb, own_base o2 hb, TsRow.mono ht hb, own_base o3 hb, own_base o4 hb⟩
theorem rdG_own {w : World} {base s n c : Nat} {e : TypeId} {A : Option Addr} {xs : List Value} (h : w.ownsRow base e s (.slice A n c) n xs) : RdG w s A n xs := by
 refine ⟨h.1, fun hn => ?_⟩
 obtain ⟨g, cap, hv, _, hlt⟩ := h.form hn
 have hA : A = some ⟨g, 0, none⟩ := by injection hv
 subst hA
 exact ⟨_, rfl, hlt, h.cells (g := g) rfl⟩
theorem TsRow.is {W : World} {base : Nat} {xs : List Value} {ts : List AM.At} (h : TsRow W base xs ts) : TsIs W xs ts := by
 obtain ⟨vs, hl, e, hall⟩ := h
 refine ⟨vs, hl, e, fun i t ht => ?_⟩
 obtain ⟨v, hv, ho⟩ := hall i t ht
 obtain ⟨A, n, c, B, m, d, C, k, f, rfl, h1, h2, h3⟩ := ho.is
 exact ⟨A, n, c, B, m, d, C, k, f, hv, h1, h2, h3⟩
theorem WOwn.is {W : World} {base : Nat} {v : Value} {w : DC.Wd} (h : WOwn W base v w) : WIs W v w := by
 obtain ⟨A0, c0, A1, c1, A2, c2, A3, c3, A4, c4, xs, e, o0, o1, o2, ht, o3, o4⟩ := h
 exact ⟨A0, c0, A1, c1, A2, c2, A3, c3, A4, c4, xs, e, Rd.of_own o0, rdG_own o1, rdG_own o2, TsRow.is ht, rdG_own o3, rdG_own o4⟩
def VFit (v : DC.Vt) : Prop := -9223372036854775808 ≤ v.p ∧ v.p ≤ 9223372036854775807 ∧ -9223372036854775808 ≤ v.b ∧ v.b ≤ 9223372036854775807 ∧ v.v.size ≤ maxLen
def MFit (m : DC.Ml) : Prop := 0 ≤ m.k ∧ m.k ≤ 255 ∧ -9223372036854775808 ≤ m.b ∧ m.b ≤ 9223372036854775807 ∧ m.p ≤ 9223372036854775807 ∧ m.v.size ≤ maxLen
structure WFit (w : DC.Wd) : Prop where
 l0 : w.ms.length ≤ 2000
 l1 : w.vs.length ≤ 2000
 l2 : w.ts.length ≤ 2000
 l3 : w.ml.length ≤ 2000
 l4 : w.ch.length ≤ 2000
 vs : ∀ v ∈ w.vs, VFit v
 ts : ∀ t ∈ w.ts, Fit t
 ml : ∀ m ∈ w.ml, MFit m
 ch : ∀ c ∈ w.ch, c.v.size ≤ maxLen
theorem RdG.elem {w : World} {s n k : Nat} {A : Option Addr} {xs cs : List Value} (h : RdG w s A n xs) (hk : k < n) (hc : ∀ j, j < s → xs[k * s + j]? = cs[j]?) (hl : cs.length = s) (hs : 0 < s) :
  ∃ bl o, A = some ⟨bl, o, none⟩ ∧ bl < w.heap.size ∧ ∀ j u, cs[j]? = some u → w.cell? ⟨bl, o + k * s + j, none⟩ = some u := by
 obtain ⟨ad, e, hb, hcell⟩ := h.2 (by omega)
 obtain ⟨bl, o, sp⟩ := ad
 have h0 : ∀ j u, cs[j]? = some u → w.cell? ((⟨bl, o, sp⟩ : Addr).add (k * s + j)) = some u := fun j u hu => hcell _ u (by rw [hc j (by have := (List.getElem?_eq_some_iff.1 hu).1; omega)]; exact hu)
 have hsp : sp = none := by
  have hx : 0 < xs.length := by
   have := hc 0 hs
   rw [List.getElem?_eq_getElem (l := cs) (i := 0) (by rw [hl]; exact hs)] at this
   have := (List.getElem?_eq_some_iff.1 this).1
   omega
  have := World.cell?_spot (hcell 0 _ (List.getElem?_eq_getElem hx))
  simpa [Addr.add] using this
 subst hsp
 refine ⟨bl, o, e, hb, fun j u hu => ?_⟩
 have := h0 j u hu
 rw [Addr.add_lit] at this
 rwa [show o + (k * s + j) = o + k * s + j by omega] at this
theorem RdG.mail {w : World} {n k : Nat} {A : Option Addr} {ml : List DC.Ml} {m : DC.Ml} (h : RdG w 10 A n (flat mcell ml)) (hk : k < n) (hm : ml[k]? = some m) :
  ∃ bl o, A = some ⟨bl, o, none⟩ ∧ bl < w.heap.size ∧ w.cell? ⟨bl, o + k * 10, none⟩ = some (.int .i64 m.f) ∧ w.cell? ⟨bl, o + k * 10 + 1, none⟩ = some (.int .i64 m.t) ∧ w.cell? ⟨bl, o + k * 10 + 2, none⟩ = some (.int .u8 m.k) ∧ w.cell? ⟨bl, o + k * 10 + 3, none⟩ = some (.int .i64 m.g) ∧ w.cell? ⟨bl, o + k * 10 + 4, none⟩ = some (.int .i64 m.s) ∧
   w.cell? ⟨bl, o + k * 10 + 5, none⟩ = some (.int .i64 m.b) ∧ w.cell? ⟨bl, o + k * 10 + 6, none⟩ = some (.int .i64 m.p) ∧ w.cell? ⟨bl, o + k * 10 + 7, none⟩ = some (.string m.v) ∧ w.cell? ⟨bl, o + k * 10 + 8, none⟩ = some (.int .i64 m.i) ∧ w.cell? ⟨bl, o + k * 10 + 9, none⟩ = some (.int .i64 m.m) := by
 obtain ⟨bl, o, e, hb, hc⟩ := RdG.elem (cs := mcell m) h hk (flat_get (f := mcell) (s := 10) (fun _ _ => rfl) hm) rfl (by omega)
 exact ⟨bl, o, e, hb, hc 0 _ rfl, hc 1 _ rfl, hc 2 _ rfl, hc 3 _ rfl, hc 4 _ rfl, hc 5 _ rfl, hc 6 _ rfl, hc 7 _ rfl, hc 8 _ rfl, hc 9 _ rfl⟩
theorem RdG.choice {w : World} {n k : Nat} {A : Option Addr} {ml : List DC.Ch} {m : DC.Ch} (h : RdG w 2 A n (flat ccell ml)) (hk : k < n) (hm : ml[k]? = some m) :
  ∃ bl o, A = some ⟨bl, o, none⟩ ∧ bl < w.heap.size ∧ w.cell? ⟨bl, o + k * 2, none⟩ = some (.int .i64 m.n) ∧ w.cell? ⟨bl, o + k * 2 + 1, none⟩ = some (.string m.v) := by
 obtain ⟨bl, o, e, hb, hc⟩ := RdG.elem (cs := ccell m) h hk (flat_get (f := ccell) (s := 2) (fun _ _ => rfl) hm) rfl (by omega)
 exact ⟨bl, o, e, hb, hc 0 _ rfl, hc 1 _ rfl⟩
theorem RdG.vote {w : World} {n k : Nat} {A : Option Addr} {ml : List DC.Vt} {m : DC.Vt} (h : RdG w 3 A n (flat vcell ml)) (hk : k < n) (hm : ml[k]? = some m) :
  ∃ bl o, A = some ⟨bl, o, none⟩ ∧ bl < w.heap.size ∧ w.cell? ⟨bl, o + k * 3, none⟩ = some (.int .i64 m.p) ∧ w.cell? ⟨bl, o + k * 3 + 1, none⟩ = some (.int .i64 m.b) ∧ w.cell? ⟨bl, o + k * 3 + 2, none⟩ = some (.string m.v) := by
 obtain ⟨bl, o, e, hb, hc⟩ := RdG.elem (cs := vcell m) h hk (flat_get (f := vcell) (s := 3) (fun _ _ => rfl) hm) rfl (by omega)
 exact ⟨bl, o, e, hb, hc 0 _ rfl, hc 1 _ rfl, hc 2 _ rfl⟩
theorem RdG.try_ {w : World} {k : Nat} {A : Option Addr} {xs : List Value} {ts : List AM.At} {t : AM.At} {N : Nat} (h : RdG w 7 A N xs) (hN : N = ts.length) (ht : TsIs w xs ts) (hm : ts[k]? = some t) :
  ∃ bl o B n c C m d D q f, A = some ⟨bl, o, none⟩ ∧ bl < w.heap.size ∧ Rd w B n (ic t.ms) ∧ RdP w C m t.ps ∧ Rd w D q (ic t.ac) ∧ w.cell? ⟨bl, o + k * 7, none⟩ = some (.int .u8 t.ph) ∧ w.cell? ⟨bl, o + k * 7 + 1, none⟩ = some (.int .i64 t.ba) ∧ w.cell? ⟨bl, o + k * 7 + 2, none⟩ = some (.slice B n c) ∧ w.cell? ⟨bl, o + k * 7 + 3, none⟩ = some (.string t.wi) ∧
   w.cell? ⟨bl, o + k * 7 + 4, none⟩ = some (.string t.va) ∧ w.cell? ⟨bl, o + k * 7 + 5, none⟩ = some (.slice C m d) ∧ w.cell? ⟨bl, o + k * 7 + 6, none⟩ = some (.slice D q f) := by
 have hk : k < ts.length := (List.getElem?_eq_some_iff.1 hm).1
 obtain ⟨vs, hl, rfl, hall⟩ := ht
 obtain ⟨B, n, c, C, m, d, D, q, f, hv, r1, r2, r3⟩ := hall k t hm
 have hlen : ∀ v ∈ vs, (tcell v).length = 7 := by
  intro v hv
  obtain ⟨i, hi⟩ := List.getElem?_of_mem hv
  have hi' : i < ts.length := by rw [← hl]; exact (List.getElem?_eq_some_iff.1 hi).1
  obtain ⟨_, _, _, _, _, _, _, _, _, h1, _⟩ := hall i _ (List.getElem?_eq_getElem hi')
  rw [hi] at h1
  injection h1 with h1
  subst h1
  rfl
 obtain ⟨bl, o, e, hb, hc⟩ := RdG.elem (cs := tcell (.agg #[.int .u8 t.ph, .int .i64 t.ba, .slice B n c, .string t.wi, .string t.va, .slice C m d, .slice D q f])) h (by omega) (flat_get hlen hv) rfl (by omega)
 exact ⟨bl, o, B, n, c, C, m, d, D, q, f, e, hb, r1, r2, r3, hc 0 _ rfl, hc 1 _ rfl, hc 2 _ rfl, hc 3 _ rfl, hc 4 _ rfl, hc 5 _ rfl, hc 6 _ rfl⟩
end Go.Proofs.YtiiobafcgdelmaaGreat.PD
namespace Go.Proofs.YtiiobafcgdelmaaGreat.PD
open Go.RowKit Go.Shelf
def MovPost (base g : Nat) (w' : DC.Wd) (y : Int) (W : World) (e : Ending) (W' : World) : Prop :=
 e = .returned (.int .i64 y) ∧ WdAt W' base g w' ∧ Kept isTk W W' ∧ Below base W W'
theorem mov_up {base g : Nat} {w' : DC.Wd} {W U W' : World} (hU : Below W.heap.size W U) (hbase : base ≤ W.heap.size) (h : WdAt W' base g w' ∧ Kept isTk U W' ∧ Below base U W') : WdAt W' base g w' ∧ Kept isTk W W' ∧ Below base W W' :=
 ⟨h.1, (Kept.of_below hU).trans h.2.1, (hU.mono hbase).trans h.2.2⟩
set_option maxRecDepth 100000 in
set_option maxHeartbeats 4000000 in
theorem move_1 (base g i : Nat) (w : DC.Wd) (at_ : Int) (v : ByteArray) (W : World) (H : WdAt W base g w) (h0 : DC.May w) (hi : i < 6) (hv : v.size ≤ 1024) (hbase : base ≤ W.heap.size) :
  Calls Tryz.prog 24 #[.pointer (some ⟨g, 0, none⟩), .agg #[.int .u8 1, .int .i64 (i : Int), .int .i64 at_, .string v]] W fun e W' =>
   (1048576 < BM.rnd (DC.getV w (i : Int)).p (i : Int) ∧ MovPost base g w 9 W e W') ∨ (BM.rnd (DC.getV w (i : Int)).p (i : Int) ≤ 1048576 ∧ MovPost base g (DC.begins w (i : Int) v) 0 W e W') := by
 have hal : Below W.heap.size W (W.alloc (.cells #[.int .u8 1, .int .i64 (i : Int), .int .i64 at_, .string v] 30)) := b!
 have HAL := h! hal
 have HBS := h! hbase
 have HC := h! (wbegin_any base g i w v _ (H.below hal) h0.zero hi hv (Nat.le_trans hbase hal.size) h0.ml h0.cl)
 clear H h0 hal
 go_enter Tryz.func24, Tryz.ntmps24
 go_wp2_with fail
 refine HC.out.mono ?_
 rintro e w1 (⟨h1, rfl, h2⟩ | ⟨h1, rfl, h2⟩)
 ·have HF := h! (mov_up HAL.out HBS.out h2)
  have H1 := h! h1
  clear h1 h2 HC HAL HBS hbase
  go_wp2_with fail
  go_ret
  exact .inl ⟨H1.out, rfl, HF.out⟩
 ·have HF := h! (mov_up HAL.out HBS.out h2)
  have H1 := h! h1
  clear h1 h2 HC HAL HBS hbase
  go_wp2_with fail
  go_ret
  exact .inr ⟨H1.out, rfl, HF.out⟩
set_option maxRecDepth 100000 in
set_option maxHeartbeats 4000000 in
theorem move_2 (base g j : Nat) (w : DC.Wd) (n : Int) (v : ByteArray) (m : DC.Ml) (W : World) (H : WdAt W base g w) (h0 : DC.May w) (hm : w.ml[j]? = some m) (hpm : m.p ≤ 9223372036854775807) (hbase : base ≤ W.heap.size) :
  Calls Tryz.prog 24 #[.pointer (some ⟨g, 0, none⟩), .agg #[.int .u8 2, .int .i64 n, .int .i64 (j : Int), .string v]] W (MovPost base g (DC.comes (DC.gone w j) m) 0 W) := by
 have hal : Below W.heap.size W (W.alloc (.cells #[.int .u8 2, .int .i64 n, .int .i64 (j : Int), .string v] 30)) := b!
 have HAL := h! hal
 have HBS := h! hbase
 have HC := h! (lift_any base g j w m _ (H.below hal) hm (by have := h0.ml; omega) (Nat.le_trans hbase hal.size))
 have HT := h! (fun (U : World) (hU : WdAt U base g (DC.gone w j)) (hb : base ≤ U.heap.size) => take_any base g (DC.gone w j) m U hU (h0.zero.cutM j) (h0.mm _ (List.mem_of_getElem? hm)) hpm hb (Nat.le_trans (List.length_eraseIdx_le ..) h0.ml) h0.cl)
 clear H h0 hal
 go_enter Tryz.func24, Tryz.ntmps24
 go_wp2_with fail
 refine HC.out.mono ?_
 rintro e w1 ⟨rfl, h2, hk2, hb2⟩
 have hb2' : base ≤ w1.heap.size := Nat.le_trans (Nat.le_trans HBS.out HAL.out.size) hb2.size
 have HK2 := h! hk2
 have HB2 := h! hb2
 have HT2 := h! (HT.out w1 h2 hb2')
 clear HC HT h2 hk2 hb2 hb2'
 go_wp2_with fail
 refine HT2.out.mono ?_
 rintro e w2 ⟨rfl, h3, hk3, hb3⟩
 have HF := h! (mov_up HAL.out HBS.out ⟨h3, HK2.out.trans hk3, HB2.out.trans hb3⟩)
 clear HT2 h3 hk3 hb3 HAL HBS hbase
 go_wp2_with fail
 go_ret
 exact ⟨rfl, HF.out⟩
set_option maxRecDepth 100000 in
set_option maxHeartbeats 4000000 in
theorem move_4 (base g j : Nat) (w : DC.Wd) (n : Int) (v : ByteArray) (m : DC.Ml) (W : World) (H : WdAt W base g w) (h0 : DC.May w) (hm : w.ml[j]? = some m) (hbase : base ≤ W.heap.size) :
  Calls Tryz.prog 24 #[.pointer (some ⟨g, 0, none⟩), .agg #[.int .u8 4, .int .i64 n, .int .i64 (j : Int), .string v]] W (MovPost base g (DC.gone w j) 0 W) := by
 have hal : Below W.heap.size W (W.alloc (.cells #[.int .u8 4, .int .i64 n, .int .i64 (j : Int), .string v] 30)) := b!
 have HAL := h! hal
 have HBS := h! hbase
 have HC := h! (lift_any base g j w m _ (H.below hal) hm (by have := h0.ml; omega) (Nat.le_trans hbase hal.size))
 clear H h0 hal
 go_enter Tryz.func24, Tryz.ntmps24
 go_wp2_with fail
 refine HC.out.mono ?_
 rintro e w1 ⟨rfl, h2⟩
 have HF := h! (mov_up HAL.out HBS.out h2)
 clear HC h2 HAL HBS hbase
 go_wp2_with fail
 go_ret
 exact ⟨rfl, HF.out⟩
set_option maxRecDepth 100000 in
set_option maxHeartbeats 4000000 in
theorem move_3 (base g j : Nat) (w : DC.Wd) (n : Int) (v : ByteArray) (m : DC.Ml) (W : World) (H : WdAt W base g w) (h0 : DC.May w) (hm : w.ml[j]? = some m) (hpm : m.p ≤ 9223372036854775807) (hbase : base ≤ W.heap.size) :
  Calls Tryz.prog 24 #[.pointer (some ⟨g, 0, none⟩), .agg #[.int .u8 3, .int .i64 n, .int .i64 (j : Int), .string v]] W (MovPost base g (DC.comes w m) 0 W) := by
 have hal : Below W.heap.size W (W.alloc (.cells #[.int .u8 3, .int .i64 n, .int .i64 (j : Int), .string v] 30)) := b!
 have HAL := h! hal
 have HBS := h! hbase
 have HT := h! (fun (U : World) (hU : WdAt U base g w) (hb : base ≤ U.heap.size) => take_any base g w m U hU h0.zero (h0.mm _ (List.mem_of_getElem? hm)) hpm hb h0.ml h0.cl)
 have hj : j < w.ml.length := (List.getElem?_eq_some_iff.1 hm).1
 have hw1 := H.below hal
 have hx1 : Box (W.alloc (.cells #[.int .u8 3, .int .i64 n, .int .i64 (j : Int), .string v] 30)) W.heap.size 30 #[.int .u8 3, .int .i64 n, .int .i64 (j : Int), .string v] := Box.new _ _ _
 have HW1 := h! hw1
 have z2 : (W.alloc (.cells #[.int .u8 3, .int .i64 n, .int .i64 (j : Int), .string v] 30)).cell? ⟨W.heap.size, 2, none⟩ = some (.int .i64 (j : Int)) := hx1.cell 2
 obtain ⟨A0, c0, A1, c1, A2, c2, A3, c3, A4, c4, xs, hgb, hx, o0, o1, o2, ht, o3, o4⟩ := hw1
 obtain ⟨q, rfl, hqb, hc⟩ := own_some o3 (by omega)
 have hf := flat_get (f := mcell) (s := 10) (fun _ _ => rfl) hm
 have HX := h! hx
 have HX1 := h! hx1
 have HQ := h! (fun k (hk : k < 10) v (e : (mcell m)[k]? = some v) => hc (j * 10 + k) v ((hf k hk).trans e))
 have mixed : Tryz.prog.follows Departure.mixedOrders = true := by kernel_rfl
 have i0 : (0 : Int) ≤ (j : Int) := by omega
 have i1 : (j : Int) < (w.ml.length : Int) := by omega
 clear H h0 hal hx o0 o1 o2 ht o3 o4 hc hf hx1 hm hj
 go_enter Tryz.func24, Tryz.ntmps24
 go_upto_region 7 with (fail)
 generalize (W.alloc (.cells #[.int .u8 3, .int .i64 n, .int .i64 (j : Int), .string v] 30)) = u at HAL HW1 HX HX1 HQ z2 ⊢
 have m0 := HQ.out 0 (by omega) _ rfl
 simp only [Nat.add_zero] at m0
 have x3 := HX.out.cell 3
 simp at x3
 have m1 := HQ.out 1 (by omega) _ rfl
 have m2 := HQ.out 2 (by omega) _ rfl
 have m3 := HQ.out 3 (by omega) _ rfl
 have m4 := HQ.out 4 (by omega) _ rfl
 have m5 := HQ.out 5 (by omega) _ rfl
 have m6 := HQ.out 6 (by omega) _ rfl
 have m7 := HQ.out 7 (by omega) _ rfl
 have m8 := HQ.out 8 (by omega) _ rfl
 have m9 := HQ.out 9 (by omega) _ rfl
 have HT2 := h! (HT.out u.drew HW1.out (by have := HAL.out.size; have := HBS.out; show base ≤ u.heap.size; omega))
 clear HX HX1 HQ HT HW1
 go_region_with (refine HT2.out.mono ?_; rintro e wa ⟨rfl, h3, hk3, hb3⟩)
 all_goals
  have HF := h! (mov_up (U := u.drew) (bmore HAL.out ((Below.refl _ _).drew) n!) HBS.out ⟨h3, hk3, hb3⟩)
  clear h3 hk3 hb3 HT2 x3 m0 m1 m2 m3 m4 m5 m6 m7 m8 m9 z2 HAL HBS hbase
  go_wp2_with fail
  go_ret
  exact ⟨rfl, HF.out⟩
set_option maxRecDepth 100000 in
set_option maxHeartbeats 4000000 in
theorem move_5 (base g i : Nat) (w : DC.Wd) (at_ : Int) (v : ByteArray) (W : World) (H : WdAt W base g w) (h0 : DC.May w) (hi : i < 6) (hbase : base ≤ W.heap.size) :
  Calls Tryz.prog 24 #[.pointer (some ⟨g, 0, none⟩), .agg #[.int .u8 5, .int .i64 (i : Int), .int .i64 at_, .string v]] W (MovPost base g ⟨w.ms, w.vs, w.ts.set i AM.zero, w.ml, w.ch⟩ 0 W) := by
 have hal : Below W.heap.size W (W.alloc (.cells #[.int .u8 5, .int .i64 (i : Int), .int .i64 at_, .string v] 30)) := b!
 have HAL := h! hal
 have HBS := h! hbase
 have hw1 := H.below hal
 have hx1 : Box (W.alloc (.cells #[.int .u8 5, .int .i64 (i : Int), .int .i64 at_, .string v] 30)) W.heap.size 30 #[.int .u8 5, .int .i64 (i : Int), .int .i64 at_, .string v] := Box.new _ _ _
 have HW1 := h! hw1
 have HX1 := h! hx1
 have z1 : (W.alloc (.cells #[.int .u8 5, .int .i64 (i : Int), .int .i64 at_, .string v] 30)).cell? ⟨W.heap.size, 1, none⟩ = some (.int .i64 (i : Int)) := hx1.cell 1
 have mixed : Tryz.prog.follows Departure.mixedOrders = true := by kernel_rfl
 have HL := h! h0.tl
 have i0 : (0 : Int) ≤ (i : Int) := by omega
 have i1 : (i : Int) < (w.ts.length : Int) := by have := h0.tl; omega
 have HI := h! hi
 clear H h0 hal hx1 hw1 hi
 go_enter Tryz.func24, Tryz.ntmps24
 go_upto_region 11 with (fail)
 generalize (W.alloc (.cells #[.int .u8 5, .int .i64 (i : Int), .int .i64 at_, .string v] 30)) = u at HAL HW1 HX1 z1 ⊢
 generalize hgbe : W.heap.size = gb at HX1 z1 ⊢
 obtain ⟨q2, c2, hq2, hq2l, d2, hthere, hst, hfar⟩ := (show WdAt u.drew base g w from HW1.out).storeT HL.out HI.out
 obtain ⟨hs1, hs2, hs3, hs4⟩ := hst AM.zero _ _ _ _ _ _ _ (show AtOwn u.drew base (.agg #[.int .u8 0, .int .i64 0, .slice none 0 0, .string ⟨#[]⟩, .string ⟨#[]⟩, .slice none 0 0, .slice none 0 0]) AM.zero from AtOwn.zero u.drew base)
 have zz := (hs2.box _ _ _ (by unfold isA; decide) (show Box u.drew gb 30 _ from HX1.out)).cell 1
 simp at zz
 have hsz : u.drew.heap.size = u.heap.size := rfl
 have HF := h! (mov_up (U := u.drew) (bmore HAL.out ((Below.refl _ _).drew) n!) HBS.out ⟨hs1, hs2.mono fun _ h => tk_of_a h, hs3⟩)
 have hS : u.drew.cell? ⟨g, 2, none⟩ = some (.slice (some ⟨q2, 0, none⟩) w.ts.length c2) ∧ u.drew.cell? ⟨gb, 1, none⟩ = some (.int .i64 (i : Int)) := ⟨d2, z1⟩
 have hS1 := And.intro hs4 zz
 clear z1 d2 hs4 zz hs1 hs2 hs3 hst hfar HX1 HW1
 refine wp_region_held_drew (S := fun w' => w'.cell? ⟨g, 2, none⟩ = some (.slice (some ⟨q2, 0, none⟩) w.ts.length c2) ∧ w'.cell? ⟨gb, 1, none⟩ = some (.int .i64 (i : Int))) (by kernel_rfl) hS (fun hHeld => ?_)
 clear hS
 refine qT 0 ?_
 try simp only [Act.put, qq]
 refine qT 1 ?_
 try simp only [Act.put, qq]
 refine qT 2 ?_
 try simp only [Act.put, qq]
 refine qT 3 ?_
 try simp only [Act.put, qq]
 refine qT 4 ?_
 try simp only [Act.put, qq]
 refine qT 5 ?_
 try simp only [Act.put, qq]
 refine qT 6 ?_
 try simp only [Act.put, qq]
 refine qT 7 ?_
 try simp only [Act.put, qq]
 refine qR 8 fun K hK => ?_
 refine step_store_mid rfl 57 _ _ rfl q2 (i * 7) #[.int .u8 0, .int .i64 0, .slice none 0 0, .string ⟨#[]⟩, .string ⟨#[]⟩, .slice none 0 0, .slice none 0 0] (by simp [Act.eval, Act.put]) (by simp [Act.eval, Act.put]) hthere (by kernel_rfl) (by simp [Value.oneCell']) ?_
 refine hK.out _ _ (hS1) (fun hHeld => ?_)
 clear hK
 try simp only [Act.put, qq]
 refine wpAnyH_done (by kernel_rfl) ?_ _
 go_wp2_with fail
 go_ret
 exact ⟨rfl, HF.out⟩
end Go.Proofs.YtiiobafcgdelmaaGreat.PD
