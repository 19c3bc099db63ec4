/-
  Worlds by value: what reads as a world, what is new memory, what fits. No walk.
  What package decree's move leaves. Conditions: the world may be, and the move may be asked for.
-/
import Derived.Test.YtiiobafcgdelmaaK18
import Derived.Test.YtiiobafcgdelmaaK25
import Derived.Test.YtiiobafcgdelmaaK27
import Derived.Test.YtiiobafcgdelmaaK28
namespace Go.Proofs.Ytiiobafcgdelmaa.PD
open Go.RowKit
set_option linter.unusedVariables false
set_option linter.unusedSimpArgs false

/-- a row of attempts, to be read -/
def TsIs (W : World) (xs : List Value) (ts : List AM.At) : Prop :=
  ∃ vs : List Value, vs.length = ts.length ∧ xs = flat tcell vs ∧ ∀ (i : Nat) t, ts[i]? = some t → ∃ A n c B m d C k f, vs[i]? = some (.agg #[.int .u8 t.ph, .int .i64 t.ba, .slice A n c, .string t.wi, .string t.va, .slice B m d, .slice C k f]) ∧ Rd W A n (ic t.ms) ∧ RdP W B m t.ps ∧ Rd W C k (ic t.ac)
theorem TsIs.below {W W' : World} {xs : List Value} {ts : List AM.At} (h : TsIs W xs ts) (hb : Below W.heap.size W W') : TsIs W' xs ts := by
  obtain ⟨vs, hl, e, hall⟩ := h
  refine ⟨vs, hl, e, fun i t ht => ?_⟩
  obtain ⟨A, n, c, B, m, d, C, k, f, hv, h1, h2, h3⟩ := hall i t ht
  exact ⟨A, n, c, B, m, d, C, k, f, hv, h1.below hb, h2.below hb, h3.below hb⟩
/-- what reads as a world -/
structure WRd (W : World) (A0 A1 A2 A3 A4 : Option Addr) (xs : List Value) (w : DC.Wd) : Prop where
  h0 : Rd W A0 w.ms.length (ic w.ms)
  h1 : RdG W 3 A1 w.vs.length (flat vcell w.vs)
  h2 : RdG W 7 A2 w.ts.length xs
  ht : TsIs W xs w.ts
  h3 : RdG W 10 A3 w.ml.length (flat mcell w.ml)
  h4 : RdG W 2 A4 w.ch.length (flat ccell w.ch)
theorem WRd.below {W W' : World} {A0 A1 A2 A3 A4 : Option Addr} {xs : List Value} {w : DC.Wd} (h : WRd W A0 A1 A2 A3 A4 xs w) (hb : Below W.heap.size W W') : WRd W' A0 A1 A2 A3 A4 xs w :=
  ⟨h.h0.below hb, h.h1.below hb, h.h2.below hb, h.ht.below hb, h.h3.below hb, h.h4.below hb⟩
def WIs (W : World) (v : Value) (w : DC.Wd) : Prop :=
  ∃ A0 c0 A1 c1 A2 c2 A3 c3 A4 c4 xs, v = .agg #[.slice A0 w.ms.length c0, .slice A1 w.vs.length c1, .slice A2 w.ts.length c2, .slice A3 w.ml.length c3, .slice A4 w.ch.length c4] ∧ WRd W A0 A1 A2 A3 A4 xs w
theorem WIs.below {W W' : World} {v : Value} {w : DC.Wd} (h : WIs W v w) (hb : Below W.heap.size W W') : WIs W' v w := by
  obtain ⟨A0, c0, A1, c1, A2, c2, A3, c3, A4, c4, xs, e, h⟩ := h
  exact ⟨A0, c0, A1, c1, A2, c2, A3, c3, A4, c4, xs, e, h.below hb⟩
/-- a world in new memory, by value -/
def WOwn (W : World) (base : Nat) (v : Value) (w : DC.Wd) : Prop :=
  ∃ A0 c0 A1 c1 A2 c2 A3 c3 A4 c4 xs, v = .agg #[.slice A0 w.ms.length c0, .slice A1 w.vs.length c1, .slice A2 w.ts.length c2, .slice A3 w.ml.length c3, .slice A4 w.ch.length c4] ∧
    W.ownsRow base 3 1 (.slice A0 w.ms.length c0) w.ms.length (ic w.ms) ∧
    W.ownsRow base 53 3 (.slice A1 w.vs.length c1) w.vs.length (flat vcell w.vs) ∧
    W.ownsRow base 49 7 (.slice A2 w.ts.length c2) w.ts.length xs ∧ TsRow W base xs w.ts ∧
    W.ownsRow base 40 10 (.slice A3 w.ml.length c3) w.ml.length (flat mcell w.ml) ∧
    W.ownsRow base 43 2 (.slice A4 w.ch.length c4) w.ch.length (flat ccell w.ch)
theorem WOwn.below {W W' : World} {base : Nat} {v : Value} {w : DC.Wd} (h : WOwn W base v w) (hb : Below W.heap.size W W') : WOwn W' base v w := by
  obtain ⟨A0, c0, A1, c1, A2, c2, A3, c3, A4, c4, xs, e, o0, o1, o2, ht, o3, o4⟩ := h
  exact ⟨A0, c0, A1, c1, A2, c2, A3, c3, A4, c4, xs, e, own_below3 o0 hb, own_below3 o1 hb, own_below3 o2 hb, ht.kept (S := fun _ => False) (Kept.of_below hb) id id, own_below3 o3 hb, own_below3 o4 hb⟩
theorem TsRow.mono {W : World} {base base' : Nat} {xs : List Value} {ts : List AM.At} (h : TsRow W base xs ts) (hb : base' ≤ base) : TsRow W base' xs ts := by
  obtain ⟨vs, hl, e, hall⟩ := h
  exact ⟨vs, hl, e, fun i t ht => by obtain ⟨v, hv, ho⟩ := hall i t ht; exact ⟨v, hv, ho.mono hb⟩⟩
theorem WOwn.mono {W : World} {base base' : Nat} {v : Value} {w : DC.Wd} (h : WOwn W base v w) (hb : base' ≤ base) : WOwn W base' v w := by
  obtain ⟨A0, c0, A1, c1, A2, c2, A3, c3, A4, c4, xs, e, o0, o1, o2, ht, o3, o4⟩ := h
  exact ⟨A0, c0, A1, c1, A2, c2, A3, c3, A4, c4, xs, e, own_base o0 hb, own_base o1 hb, own_base o2 hb, TsRow.mono ht hb, own_base o3 hb, own_base o4 hb⟩
theorem rdG_own {w : World} {base s n c : Nat} {e : TypeId} {A : Option Addr} {xs : List Value} (h : w.ownsRow base e s (.slice A n c) n xs) : RdG w s A n xs := by
  refine ⟨h.1, fun hn => ?_⟩
  obtain ⟨g, cap, hv, _, hlt⟩ := h.form hn
  have hA : A = some ⟨g, 0, none⟩ := by injection hv
  subst hA
  exact ⟨_, rfl, hlt, h.cells (g := g) rfl⟩
theorem TsRow.is {W : World} {base : Nat} {xs : List Value} {ts : List AM.At} (h : TsRow W base xs ts) : TsIs W xs ts := by
  obtain ⟨vs, hl, e, hall⟩ := h
  refine ⟨vs, hl, e, fun i t ht => ?_⟩
  obtain ⟨v, hv, ho⟩ := hall i t ht
  obtain ⟨A, n, c, B, m, d, C, k, f, rfl, h1, h2, h3⟩ := ho.is
  exact ⟨A, n, c, B, m, d, C, k, f, hv, h1, h2, h3⟩
theorem WOwn.is {W : World} {base : Nat} {v : Value} {w : DC.Wd} (h : WOwn W base v w) : WIs W v w := by
  obtain ⟨A0, c0, A1, c1, A2, c2, A3, c3, A4, c4, xs, e, o0, o1, o2, ht, o3, o4⟩ := h
  exact ⟨A0, c0, A1, c1, A2, c2, A3, c3, A4, c4, xs, e, Rd.of_own o0, rdG_own o1, rdG_own o2, TsRow.is ht, rdG_own o3, rdG_own o4⟩
/-- what fits -/
def VFit (v : DC.Vt) : Prop := -9223372036854775808 ≤ v.p ∧ v.p ≤ 9223372036854775807 ∧ -9223372036854775808 ≤ v.b ∧ v.b ≤ 9223372036854775807 ∧ v.v.size ≤ maxLen
def MFit (m : DC.Ml) : Prop := 0 ≤ m.k ∧ m.k ≤ 255 ∧ -9223372036854775808 ≤ m.b ∧ m.b ≤ 9223372036854775807 ∧ m.p ≤ 9223372036854775807 ∧ m.v.size ≤ maxLen
structure WFit (w : DC.Wd) : Prop where
  l0 : w.ms.length ≤ 2000
  l1 : w.vs.length ≤ 2000
  l2 : w.ts.length ≤ 2000
  l3 : w.ml.length ≤ 2000
  l4 : w.ch.length ≤ 2000
  vs : ∀ v ∈ w.vs, VFit v
  ts : ∀ t ∈ w.ts, Fit t
  ml : ∀ m ∈ w.ml, MFit m
  ch : ∀ c ∈ w.ch, c.v.size ≤ maxLen
/-- an element's address and cells, in a row that is read -/
theorem RdG.elem {w : World} {s n k : Nat} {A : Option Addr} {xs cs : List Value} (h : RdG w s A n xs) (hk : k < n) (hc : ∀ j, j < s → xs[k * s + j]? = cs[j]?) (hl : cs.length = s) (hs : 0 < s) :
    ∃ bl o, A = some ⟨bl, o, none⟩ ∧ bl < w.heap.size ∧ ∀ j u, cs[j]? = some u → w.cell? ⟨bl, o + k * s + j, none⟩ = some u := by
  obtain ⟨ad, e, hb, hcell⟩ := h.2 (by omega)
  obtain ⟨bl, o, sp⟩ := ad
  have h0 : ∀ j u, cs[j]? = some u → w.cell? ((⟨bl, o, sp⟩ : Addr).add (k * s + j)) = some u := fun j u hu => hcell _ u (by rw [hc j (by have := (List.getElem?_eq_some_iff.1 hu).1; omega)]; exact hu)
  have hsp : sp = none := by
    have hx : 0 < xs.length := by
      have := hc 0 hs
      rw [List.getElem?_eq_getElem (l := cs) (i := 0) (by rw [hl]; exact hs)] at this
      have := (List.getElem?_eq_some_iff.1 this).1
      omega
    have := World.cell?_spot (hcell 0 _ (List.getElem?_eq_getElem hx))
    simpa [Addr.add] using this
  subst hsp
  refine ⟨bl, o, e, hb, fun j u hu => ?_⟩
  have := h0 j u hu
  rw [Addr.add_lit] at this
  rwa [show o + (k * s + j) = o + k * s + j by omega] at this
theorem RdG.mail {w : World} {n k : Nat} {A : Option Addr} {ml : List DC.Ml} {m : DC.Ml} (h : RdG w 10 A n (flat mcell ml)) (hk : k < n) (hm : ml[k]? = some m) :
    ∃ bl o, A = some ⟨bl, o, none⟩ ∧ bl < w.heap.size ∧ w.cell? ⟨bl, o + k * 10, none⟩ = some (.int .i64 m.f) ∧ w.cell? ⟨bl, o + k * 10 + 1, none⟩ = some (.int .i64 m.t) ∧ w.cell? ⟨bl, o + k * 10 + 2, none⟩ = some (.int .u8 m.k) ∧ w.cell? ⟨bl, o + k * 10 + 3, none⟩ = some (.int .i64 m.g) ∧ w.cell? ⟨bl, o + k * 10 + 4, none⟩ = some (.int .i64 m.s) ∧
      w.cell? ⟨bl, o + k * 10 + 5, none⟩ = some (.int .i64 m.b) ∧ w.cell? ⟨bl, o + k * 10 + 6, none⟩ = some (.int .i64 m.p) ∧ w.cell? ⟨bl, o + k * 10 + 7, none⟩ = some (.string m.v) ∧ w.cell? ⟨bl, o + k * 10 + 8, none⟩ = some (.int .i64 m.i) ∧ w.cell? ⟨bl, o + k * 10 + 9, none⟩ = some (.int .i64 m.m) := by
  obtain ⟨bl, o, e, hb, hc⟩ := RdG.elem (cs := mcell m) h hk (flat_get (f := mcell) (s := 10) (fun _ _ => rfl) hm) rfl (by omega)
  exact ⟨bl, o, e, hb, hc 0 _ rfl, hc 1 _ rfl, hc 2 _ rfl, hc 3 _ rfl, hc 4 _ rfl, hc 5 _ rfl, hc 6 _ rfl, hc 7 _ rfl, hc 8 _ rfl, hc 9 _ rfl⟩
theorem RdG.choice {w : World} {n k : Nat} {A : Option Addr} {ml : List DC.Ch} {m : DC.Ch} (h : RdG w 2 A n (flat ccell ml)) (hk : k < n) (hm : ml[k]? = some m) :
    ∃ bl o, A = some ⟨bl, o, none⟩ ∧ bl < w.heap.size ∧ w.cell? ⟨bl, o + k * 2, none⟩ = some (.int .i64 m.n) ∧ w.cell? ⟨bl, o + k * 2 + 1, none⟩ = some (.string m.v) := by
  obtain ⟨bl, o, e, hb, hc⟩ := RdG.elem (cs := ccell m) h hk (flat_get (f := ccell) (s := 2) (fun _ _ => rfl) hm) rfl (by omega)
  exact ⟨bl, o, e, hb, hc 0 _ rfl, hc 1 _ rfl⟩
theorem RdG.vote {w : World} {n k : Nat} {A : Option Addr} {ml : List DC.Vt} {m : DC.Vt} (h : RdG w 3 A n (flat vcell ml)) (hk : k < n) (hm : ml[k]? = some m) :
    ∃ bl o, A = some ⟨bl, o, none⟩ ∧ bl < w.heap.size ∧ w.cell? ⟨bl, o + k * 3, none⟩ = some (.int .i64 m.p) ∧ w.cell? ⟨bl, o + k * 3 + 1, none⟩ = some (.int .i64 m.b) ∧ w.cell? ⟨bl, o + k * 3 + 2, none⟩ = some (.string m.v) := by
  obtain ⟨bl, o, e, hb, hc⟩ := RdG.elem (cs := vcell m) h hk (flat_get (f := vcell) (s := 3) (fun _ _ => rfl) hm) rfl (by omega)
  exact ⟨bl, o, e, hb, hc 0 _ rfl, hc 1 _ rfl, hc 2 _ rfl⟩
theorem RdG.try_ {w : World} {k : Nat} {A : Option Addr} {xs : List Value} {ts : List AM.At} {t : AM.At} {N : Nat} (h : RdG w 7 A N xs) (hN : N = ts.length) (ht : TsIs w xs ts) (hm : ts[k]? = some t) :
    ∃ bl o B n c C m d D q f, A = some ⟨bl, o, none⟩ ∧ bl < w.heap.size ∧ Rd w B n (ic t.ms) ∧ RdP w C m t.ps ∧ Rd w D q (ic t.ac) ∧ w.cell? ⟨bl, o + k * 7, none⟩ = some (.int .u8 t.ph) ∧ w.cell? ⟨bl, o + k * 7 + 1, none⟩ = some (.int .i64 t.ba) ∧ w.cell? ⟨bl, o + k * 7 + 2, none⟩ = some (.slice B n c) ∧ w.cell? ⟨bl, o + k * 7 + 3, none⟩ = some (.string t.wi) ∧
      w.cell? ⟨bl, o + k * 7 + 4, none⟩ = some (.string t.va) ∧ w.cell? ⟨bl, o + k * 7 + 5, none⟩ = some (.slice C m d) ∧ w.cell? ⟨bl, o + k * 7 + 6, none⟩ = some (.slice D q f) := by
  have hk : k < ts.length := (List.getElem?_eq_some_iff.1 hm).1
  obtain ⟨vs, hl, rfl, hall⟩ := ht
  obtain ⟨B, n, c, C, m, d, D, q, f, hv, r1, r2, r3⟩ := hall k t hm
  have hlen : ∀ v ∈ vs, (tcell v).length = 7 := by
    intro v hv
    obtain ⟨i, hi⟩ := List.getElem?_of_mem hv
    have hi' : i < ts.length := by rw [← hl]; exact (List.getElem?_eq_some_iff.1 hi).1
    obtain ⟨_, _, _, _, _, _, _, _, _, h1, _⟩ := hall i _ (List.getElem?_eq_getElem hi')
    rw [hi] at h1
    injection h1 with h1
    subst h1
    rfl
  obtain ⟨bl, o, e, hb, hc⟩ := RdG.elem (cs := tcell (.agg #[.int .u8 t.ph, .int .i64 t.ba, .slice B n c, .string t.wi, .string t.va, .slice C m d, .slice D q f])) h (by omega) (flat_get hlen hv) rfl (by omega)
  exact ⟨bl, o, B, n, c, C, m, d, D, q, f, e, hb, r1, r2, r3, hc 0 _ rfl, hc 1 _ rfl, hc 2 _ rfl, hc 3 _ rfl, hc 4 _ rfl, hc 5 _ rfl, hc 6 _ rfl⟩
end Go.Proofs.Ytiiobafcgdelmaa.PD

namespace Go.Proofs.Ytiiobafcgdelmaa.PD
open Go.RowKit Go.Shelf
set_option linter.unusedVariables false
set_option linter.unusedSimpArgs false

def MovPost (base g : Nat) (w' : DC.Wd) (y : Int) (W : World) (e : Ending) (W' : World) : Prop :=
  e = .returned (.int .i64 y) ∧ WdAt W' base g w' ∧ Kept isTk W W' ∧ Below base W W'
theorem mov_up {base g : Nat} {w' : DC.Wd} {W U W' : World} (hU : Below W.heap.size W U) (hbase : base ≤ W.heap.size) (h : WdAt W' base g w' ∧ Kept isTk U W' ∧ Below base U W') : WdAt W' base g w' ∧ Kept isTk W W' ∧ Below base W W' :=
  ⟨h.1, (Kept.of_below hU).trans h.2.1, (hU.mono hbase).trans h.2.2⟩
set_option maxRecDepth 100000 in
set_option maxHeartbeats 4000000 in
theorem move_1 (base g i : Nat) (w : DC.Wd) (at_ : Int) (v : ByteArray) (W : World) (H : WdAt W base g w) (h0 : DC.May w) (hi : i < 6) (hv : v.size ≤ 1024) (hbase : base ≤ W.heap.size) :
    Calls Try.prog 20 #[.pointer (some ⟨g, 0, none⟩), .agg #[.int .u8 1, .int .i64 (i : Int), .int .i64 at_, .string v]] W fun e W' =>
      (1048576 < BM.rnd (DC.getV w (i : Int)).p (i : Int) ∧ MovPost base g w 9 W e W') ∨ (BM.rnd (DC.getV w (i : Int)).p (i : Int) ≤ 1048576 ∧ MovPost base g (DC.begins w (i : Int) v) 0 W e W') := by
  have hal : Below W.heap.size W (W.alloc (.cells #[.int .u8 1, .int .i64 (i : Int), .int .i64 at_, .string v] 34)) := (Below.refl _ _).alloc (Nat.le_refl _) _
  have HAL := Lib.hid hal
  have HBS := Lib.hid hbase
  have HC := Lib.hid (wbegin_any base g i w v _ (H.below hal) h0.zero hi hv (Nat.le_trans hbase hal.size) h0.ml h0.cl)
  clear H h0 hal
  go_enter Try.func20, Try.ntmps20
  go_wp2_with fail
  refine HC.out.mono ?_
  rintro e w1 (⟨h1, rfl, h2⟩ | ⟨h1, rfl, h2⟩)
  · have HF := Lib.hid (mov_up HAL.out HBS.out h2)
    have H1 := Lib.hid h1
    clear h1 h2 HC HAL HBS hbase
    go_wp2_with fail
    go_ret
    exact .inl ⟨H1.out, rfl, HF.out⟩
  · have HF := Lib.hid (mov_up HAL.out HBS.out h2)
    have H1 := Lib.hid h1
    clear h1 h2 HC HAL HBS hbase
    go_wp2_with fail
    go_ret
    exact .inr ⟨H1.out, rfl, HF.out⟩
set_option maxRecDepth 100000 in
set_option maxHeartbeats 4000000 in
theorem move_2 (base g j : Nat) (w : DC.Wd) (n : Int) (v : ByteArray) (m : DC.Ml) (W : World) (H : WdAt W base g w) (h0 : DC.May w) (hm : w.ml[j]? = some m) (hpm : m.p ≤ 9223372036854775807) (hbase : base ≤ W.heap.size) :
    Calls Try.prog 20 #[.pointer (some ⟨g, 0, none⟩), .agg #[.int .u8 2, .int .i64 n, .int .i64 (j : Int), .string v]] W (MovPost base g (DC.comes (DC.gone w j) m) 0 W) := by
  have hal : Below W.heap.size W (W.alloc (.cells #[.int .u8 2, .int .i64 n, .int .i64 (j : Int), .string v] 34)) := (Below.refl _ _).alloc (Nat.le_refl _) _
  have HAL := Lib.hid hal
  have HBS := Lib.hid hbase
  have HC := Lib.hid (lift_any base g j w m _ (H.below hal) hm (by have := h0.ml; omega) (Nat.le_trans hbase hal.size))
  have HT := Lib.hid (fun (U : World) (hU : WdAt U base g (DC.gone w j)) (hb : base ≤ U.heap.size) => take_any base g (DC.gone w j) m U hU (h0.zero.cutM j) (h0.mm _ (List.mem_of_getElem? hm)) hpm hb (Nat.le_trans (List.length_eraseIdx_le ..) h0.ml) h0.cl)
  clear H h0 hal
  go_enter Try.func20, Try.ntmps20
  go_wp2_with fail
  refine HC.out.mono ?_
  rintro e w1 ⟨rfl, h2, hk2, hb2⟩
  have hb2' : base ≤ w1.heap.size := Nat.le_trans (Nat.le_trans HBS.out HAL.out.size) hb2.size
  have HK2 := Lib.hid hk2
  have HB2 := Lib.hid hb2
  have HT2 := Lib.hid (HT.out w1 h2 hb2')
  clear HC HT h2 hk2 hb2 hb2'
  go_wp2_with fail
  refine HT2.out.mono ?_
  rintro e w2 ⟨rfl, h3, hk3, hb3⟩
  have HF := Lib.hid (mov_up HAL.out HBS.out ⟨h3, HK2.out.trans hk3, HB2.out.trans hb3⟩)
  clear HT2 h3 hk3 hb3 HAL HBS hbase
  go_wp2_with fail
  go_ret
  exact ⟨rfl, HF.out⟩
set_option maxRecDepth 100000 in
set_option maxHeartbeats 4000000 in
theorem move_4 (base g j : Nat) (w : DC.Wd) (n : Int) (v : ByteArray) (m : DC.Ml) (W : World) (H : WdAt W base g w) (h0 : DC.May w) (hm : w.ml[j]? = some m) (hbase : base ≤ W.heap.size) :
    Calls Try.prog 20 #[.pointer (some ⟨g, 0, none⟩), .agg #[.int .u8 4, .int .i64 n, .int .i64 (j : Int), .string v]] W (MovPost base g (DC.gone w j) 0 W) := by
  have hal : Below W.heap.size W (W.alloc (.cells #[.int .u8 4, .int .i64 n, .int .i64 (j : Int), .string v] 34)) := (Below.refl _ _).alloc (Nat.le_refl _) _
  have HAL := Lib.hid hal
  have HBS := Lib.hid hbase
  have HC := Lib.hid (lift_any base g j w m _ (H.below hal) hm (by have := h0.ml; omega) (Nat.le_trans hbase hal.size))
  clear H h0 hal
  go_enter Try.func20, Try.ntmps20
  go_wp2_with fail
  refine HC.out.mono ?_
  rintro e w1 ⟨rfl, h2⟩
  have HF := Lib.hid (mov_up HAL.out HBS.out h2)
  clear HC h2 HAL HBS hbase
  go_wp2_with fail
  go_ret
  exact ⟨rfl, HF.out⟩
set_option maxRecDepth 100000 in
set_option maxHeartbeats 4000000 in
theorem move_3 (base g j : Nat) (w : DC.Wd) (n : Int) (v : ByteArray) (m : DC.Ml) (W : World) (H : WdAt W base g w) (h0 : DC.May w) (hm : w.ml[j]? = some m) (hpm : m.p ≤ 9223372036854775807) (hbase : base ≤ W.heap.size) :
    Calls Try.prog 20 #[.pointer (some ⟨g, 0, none⟩), .agg #[.int .u8 3, .int .i64 n, .int .i64 (j : Int), .string v]] W (MovPost base g (DC.comes w m) 0 W) := by
  have hal : Below W.heap.size W (W.alloc (.cells #[.int .u8 3, .int .i64 n, .int .i64 (j : Int), .string v] 34)) := (Below.refl _ _).alloc (Nat.le_refl _) _
  have HAL := Lib.hid hal
  have HBS := Lib.hid hbase
  have HT := Lib.hid (fun (U : World) (hU : WdAt U base g w) (hb : base ≤ U.heap.size) => take_any base g w m U hU h0.zero (h0.mm _ (List.mem_of_getElem? hm)) hpm hb h0.ml h0.cl)
  have hj : j < w.ml.length := (List.getElem?_eq_some_iff.1 hm).1
  have hw1 := H.below hal
  have hx1 : Box (W.alloc (.cells #[.int .u8 3, .int .i64 n, .int .i64 (j : Int), .string v] 34)) W.heap.size 34 #[.int .u8 3, .int .i64 n, .int .i64 (j : Int), .string v] := Box.new _ _ _
  have HW1 := Lib.hid hw1
  have z2 : (W.alloc (.cells #[.int .u8 3, .int .i64 n, .int .i64 (j : Int), .string v] 34)).cell? ⟨W.heap.size, 2, none⟩ = some (.int .i64 (j : Int)) := hx1.cell 2
  obtain ⟨A0, c0, A1, c1, A2, c2, A3, c3, A4, c4, xs, hgb, hx, o0, o1, o2, ht, o3, o4⟩ := hw1
  obtain ⟨q, rfl, hqb, hc⟩ := own_some o3 (by omega)
  have hf := flat_get (f := mcell) (s := 10) (fun _ _ => rfl) hm
  have HX := Lib.hid hx
  have HX1 := Lib.hid hx1
  have HQ := Lib.hid (fun k (hk : k < 10) v (e : (mcell m)[k]? = some v) => hc (j * 10 + k) v ((hf k hk).trans e))
  have mixed : Try.prog.follows Departure.mixedOrders = true := by kernel_rfl
  have i0 : (0 : Int) ≤ (j : Int) := by omega
  have i1 : (j : Int) < (w.ml.length : Int) := by omega
  clear H h0 hal hx o0 o1 o2 ht o3 o4 hc hf hx1 hm hj
  go_enter Try.func20, Try.ntmps20
  go_upto_region 7 with (fail)
  generalize (W.alloc (.cells #[.int .u8 3, .int .i64 n, .int .i64 (j : Int), .string v] 34)) = u at HAL HW1 HX HX1 HQ z2 ⊢
  have m0 := HQ.out 0 (by omega) _ rfl
  simp only [Nat.add_zero] at m0
  have x3 := HX.out.cell 3
  simp at x3
  have m1 := HQ.out 1 (by omega) _ rfl
  have m2 := HQ.out 2 (by omega) _ rfl
  have m3 := HQ.out 3 (by omega) _ rfl
  have m4 := HQ.out 4 (by omega) _ rfl
  have m5 := HQ.out 5 (by omega) _ rfl
  have m6 := HQ.out 6 (by omega) _ rfl
  have m7 := HQ.out 7 (by omega) _ rfl
  have m8 := HQ.out 8 (by omega) _ rfl
  have m9 := HQ.out 9 (by omega) _ rfl
  have HT2 := Lib.hid (HT.out u.drew HW1.out (by have := HAL.out.size; have := HBS.out; show base ≤ u.heap.size; omega))
  clear HX HX1 HQ HT HW1
  go_region_with (refine HT2.out.mono ?_; rintro e wa ⟨rfl, h3, hk3, hb3⟩)
  all_goals
    have HF := Lib.hid (mov_up (U := u.drew) (bmore HAL.out ((Below.refl _ _).drew) (Nat.le_refl _)) HBS.out ⟨h3, hk3, hb3⟩)
    clear h3 hk3 hb3 HT2 x3 m0 m1 m2 m3 m4 m5 m6 m7 m8 m9 z2 HAL HBS hbase
    go_wp2_with fail
    go_ret
    exact ⟨rfl, HF.out⟩
set_option maxRecDepth 100000 in
set_option maxHeartbeats 4000000 in
theorem move_5 (base g i : Nat) (w : DC.Wd) (at_ : Int) (v : ByteArray) (W : World) (H : WdAt W base g w) (h0 : DC.May w) (hi : i < 6) (hbase : base ≤ W.heap.size) :
    Calls Try.prog 20 #[.pointer (some ⟨g, 0, none⟩), .agg #[.int .u8 5, .int .i64 (i : Int), .int .i64 at_, .string v]] W (MovPost base g ⟨w.ms, w.vs, w.ts.set i AM.zero, w.ml, w.ch⟩ 0 W) := by
  have hal : Below W.heap.size W (W.alloc (.cells #[.int .u8 5, .int .i64 (i : Int), .int .i64 at_, .string v] 34)) := (Below.refl _ _).alloc (Nat.le_refl _) _
  have HAL := Lib.hid hal
  have HBS := Lib.hid hbase
  have hw1 := H.below hal
  have hx1 : Box (W.alloc (.cells #[.int .u8 5, .int .i64 (i : Int), .int .i64 at_, .string v] 34)) W.heap.size 34 #[.int .u8 5, .int .i64 (i : Int), .int .i64 at_, .string v] := Box.new _ _ _
  have HW1 := Lib.hid hw1
  have HX1 := Lib.hid hx1
  have z1 : (W.alloc (.cells #[.int .u8 5, .int .i64 (i : Int), .int .i64 at_, .string v] 34)).cell? ⟨W.heap.size, 1, none⟩ = some (.int .i64 (i : Int)) := hx1.cell 1
  have mixed : Try.prog.follows Departure.mixedOrders = true := by kernel_rfl
  have HL := Lib.hid h0.tl
  have i0 : (0 : Int) ≤ (i : Int) := by omega
  have i1 : (i : Int) < (w.ts.length : Int) := by have := h0.tl; omega
  have HI := Lib.hid hi
  clear H h0 hal hx1 hw1 hi
  go_enter Try.func20, Try.ntmps20
  go_upto_region 11 with (fail)
  generalize (W.alloc (.cells #[.int .u8 5, .int .i64 (i : Int), .int .i64 at_, .string v] 34)) = u at HAL HW1 HX1 z1 ⊢
  generalize hgbe : W.heap.size = gb at HX1 z1 ⊢
  obtain ⟨q2, c2, hq2, hq2l, d2, hthere, hst, hfar⟩ := (show WdAt u.drew base g w from HW1.out).storeT HL.out HI.out
  obtain ⟨hs1, hs2, hs3, hs4⟩ := hst AM.zero _ _ _ _ _ _ _ (show AtOwn u.drew base (.agg #[.int .u8 0, .int .i64 0, .slice none 0 0, .string ⟨#[]⟩, .string ⟨#[]⟩, .slice none 0 0, .slice none 0 0]) AM.zero from AtOwn.zero u.drew base)
  have zz := (hs2.box _ _ _ (by unfold isA; decide) (show Box u.drew gb 34 _ from HX1.out)).cell 1
  simp at zz
  have hsz : u.drew.heap.size = u.heap.size := rfl
  have HF := Lib.hid (mov_up (U := u.drew) (bmore HAL.out ((Below.refl _ _).drew) (Nat.le_refl _)) HBS.out ⟨hs1, hs2.mono fun _ h => tk_of_a h, hs3⟩)
  have hS : u.drew.cell? ⟨g, 2, none⟩ = some (.slice (some ⟨q2, 0, none⟩) w.ts.length c2) ∧ u.drew.cell? ⟨gb, 1, none⟩ = some (.int .i64 (i : Int)) := ⟨d2, z1⟩
  have hS1 := And.intro hs4 zz
  clear z1 d2 hs4 zz hs1 hs2 hs3 hst hfar HX1 HW1
  refine wp_region_held_drew (S := fun w' => w'.cell? ⟨g, 2, none⟩ = some (.slice (some ⟨q2, 0, none⟩) w.ts.length c2) ∧ w'.cell? ⟨gb, 1, none⟩ = some (.int .i64 (i : Int))) (by kernel_rfl) hS (fun hHeld => ?_)
  clear hS
  refine wpAnyH_take (i := 0) (v := ?_) rfl (by kernel_rfl) (by kernel_rfl) (by kernel_rfl) (fun _ _ _ h => h) (Or.inl ⟨by rfl, ?_⟩) (by assumption) ?_
  rotate_left
  · intro w' hSw
    (try dsimp only at hSw)
    go_simp
    all_goals (with_reducible rfl)
  try simp only [Act.put, List.setIfInBounds_toArray, List.set_cons_zero, List.set_cons_succ, List.getElem_toArray, List.getElem_cons_zero, List.getElem_cons_succ]
  refine wpAnyH_take (i := 1) (v := ?_) rfl (by kernel_rfl) (by kernel_rfl) (by kernel_rfl) (fun _ _ _ h => h) (Or.inl ⟨by rfl, ?_⟩) (by assumption) ?_
  rotate_left
  · intro w' hSw
    (try dsimp only at hSw)
    go_simp
    all_goals (with_reducible rfl)
  try simp only [Act.put, List.setIfInBounds_toArray, List.set_cons_zero, List.set_cons_succ, List.getElem_toArray, List.getElem_cons_zero, List.getElem_cons_succ]
  refine wpAnyH_take (i := 2) (v := ?_) rfl (by kernel_rfl) (by kernel_rfl) (by kernel_rfl) (fun _ _ _ h => h) (Or.inl ⟨by rfl, ?_⟩) (by assumption) ?_
  rotate_left
  · intro w' hSw
    (try dsimp only at hSw)
    go_simp
    all_goals (with_reducible rfl)
  try simp only [Act.put, List.setIfInBounds_toArray, List.set_cons_zero, List.set_cons_succ, List.getElem_toArray, List.getElem_cons_zero, List.getElem_cons_succ]
  refine wpAnyH_take (i := 3) (v := ?_) rfl (by kernel_rfl) (by kernel_rfl) (by kernel_rfl) (fun _ _ _ h => h) (Or.inl ⟨by rfl, ?_⟩) (by assumption) ?_
  rotate_left
  · intro w' hSw
    (try dsimp only at hSw)
    go_simp
    all_goals (with_reducible rfl)
  try simp only [Act.put, List.setIfInBounds_toArray, List.set_cons_zero, List.set_cons_succ, List.getElem_toArray, List.getElem_cons_zero, List.getElem_cons_succ]
  refine wpAnyH_take (i := 4) (v := ?_) rfl (by kernel_rfl) (by kernel_rfl) (by kernel_rfl) (fun _ _ _ h => h) (Or.inl ⟨by rfl, ?_⟩) (by assumption) ?_
  rotate_left
  · intro w' hSw
    (try dsimp only at hSw)
    go_simp
    all_goals (with_reducible rfl)
  try simp only [Act.put, List.setIfInBounds_toArray, List.set_cons_zero, List.set_cons_succ, List.getElem_toArray, List.getElem_cons_zero, List.getElem_cons_succ]
  refine wpAnyH_take (i := 5) (v := ?_) rfl (by kernel_rfl) (by kernel_rfl) (by kernel_rfl) (fun _ _ _ h => h) (Or.inl ⟨by rfl, ?_⟩) (by assumption) ?_
  rotate_left
  · intro w' hSw
    (try dsimp only at hSw)
    go_simp
    all_goals (with_reducible rfl)
  try simp only [Act.put, List.setIfInBounds_toArray, List.set_cons_zero, List.set_cons_succ, List.getElem_toArray, List.getElem_cons_zero, List.getElem_cons_succ]
  refine wpAnyH_take (i := 6) (v := ?_) rfl (by kernel_rfl) (by kernel_rfl) (by kernel_rfl) (fun _ _ _ h => h) (Or.inl ⟨by rfl, ?_⟩) (by assumption) ?_
  rotate_left
  · intro w' hSw
    (try dsimp only at hSw)
    go_simp
    all_goals (with_reducible rfl)
  try simp only [Act.put, List.setIfInBounds_toArray, List.set_cons_zero, List.set_cons_succ, List.getElem_toArray, List.getElem_cons_zero, List.getElem_cons_succ]
  refine wpAnyH_take (i := 7) (v := ?_) rfl (by kernel_rfl) (by kernel_rfl) (by kernel_rfl) (fun _ _ _ h => h) (Or.inl ⟨by rfl, ?_⟩) (by assumption) ?_
  rotate_left
  · intro w' hSw
    (try dsimp only at hSw)
    go_simp
    all_goals (with_reducible rfl)
  try simp only [Act.put, List.setIfInBounds_toArray, List.set_cons_zero, List.set_cons_succ, List.getElem_toArray, List.getElem_cons_zero, List.getElem_cons_succ]
  refine wpAnyH_ready (rs := [8]) (by kernel_rfl) (by simp) ?_
  refine AllReadyH.cons rfl (fun K hK => ?_) AllReadyH.nil
  refine step_store_mid rfl 49 _ _ rfl q2 (i * 7) #[.int .u8 0, .int .i64 0, .slice none 0 0, .string ⟨#[]⟩, .string ⟨#[]⟩, .slice none 0 0, .slice none 0 0] (by simp [Act.eval, Act.put]) (by simp [Act.eval, Act.put]) hthere (by kernel_rfl) (by simp [Value.oneCell']) ?_
  refine hK.out _ _ (hS1) (fun hHeld => ?_)
  clear hK
  try simp only [Act.put, List.setIfInBounds_toArray, List.set_cons_zero, List.set_cons_succ, List.getElem_toArray, List.getElem_cons_zero, List.getElem_cons_succ]
  refine wpAnyH_done (by kernel_rfl) ?_ _
  go_wp2_with fail
  go_ret
  exact ⟨rfl, HF.out⟩
end Go.Proofs.Ytiiobafcgdelmaa.PD
