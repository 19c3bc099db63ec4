/-
  The document's own SameStamps and SameMessages of any two lists (towncrierref15). Conditions: slices that read as such.
  The document's own Great and TwinMessage (towncrierref15). Conditions: a clock that reads as one; at most 2^44 groups.
  Texts that are handed on, and held against each other (towncrierref01.SameTexts). Conditions: the slices read as texts.
  One element appended onto a row of one's own of structs that hold one slice of ints. No walk, no program.
  Package order: places: a map of ids to where they stand. Conditions: at most 4,096; ids are ints.
  Package order: places: a map of ids to where they stand. Conditions: at most 4,096; ids are ints.
  A row of structs that hold one slice of ints, appended to another one. No walk.
  A clock in a variable of one's own while a command is done to it: how its cells, its rows are stored into. No walk.
-/
import Derived.Test.YteebeiaokfenmaaGreatK01
import Derived.Test.YteebeiaokfenmaaGreatK09
import Derived.Lib.MinMax
import Derived.Test.YteebeiaokfenmaaGreatK05
import Derived.Test.YteebeiaokfenmaaGreatK10
namespace Go.Proofs.YteebeiaokfenmaaGreat.KP
open Go.RowKit CP TP
open CM (Mg Cm)
open TM (Sp)
open KM (Wt Sk)
set_option linter.unusedVariables false
set_option linter.unusedSimpArgs false
set_option maxRecDepth 100000
set_option maxHeartbeats 4000000 in
theorem rsameStamps_any (A B : Option Addr) (n m ca cb : Nat) (x y : List Sp) (w : World) (h1 : SpsIs w A n ca x) (h2 : SpsIs w B m cb y) :
  Calls Tryz.prog 23 #[.slice A n ca, .slice B m cb] w (IsB (decide (x = y)) w) := by
 obtain ⟨r, hr⟩ : ∃ r, r = decide (x = y) := ⟨_, rfl⟩
 rw [← hr]
 have HR := h! hr
 have hn := h1.small
 have hm := h2.small
 have HX := h! h1.2.1
 have HY := h! h2.2.1
 have H1 := h! h1
 have H2 := h! h2
 clear h1 h2 hr
 by_cases hnm : n = m
 rotate_left
 ·have HF := h! (show r = false by rw [HR.out]; exact decide_eq_false (fun e => hnm (by have := HX.out; have := HY.out; rw [e] at *; omega)))
  have hb : ((n : Int) != (m : Int)) = true := by simp; omega
  clear hnm
  go_enter Tryz.func23, Tryz.ntmps23
  go_wp2_with fail
  go_ret
  exact ⟨by rw [HF.out]; rfl, Below.refl _ _⟩
 subst hnm
 have hne : ((n : Int) != (n : Int)) = false := by simp
 go_enter Tryz.func23, Tryz.ntmps23
 go_wp2_with fail
 go_loopw [5] (fun i wr => ∃ k : Nat, k ≤ n ∧ i = .int .i64 k ∧ Below w.heap.size w wr ∧ Hid (x.take k = y.take k)) (fun i _ => n - (intOf i).toNat)
 case atStart => exact ⟨0, by omega, rfl, Below.refl _ _, h! rfl⟩
 case round =>
  obtain ⟨k, hk, rfl, hB, HT⟩ := hrel
  have HB := h! hB
  clear hB
  by_cases hlt : k < n
  ·obtain ⟨a, ha⟩ : ∃ a, x[k]? = some a := ⟨_, List.getElem?_eq_getElem (by have := HX.out; omega)⟩
   obtain ⟨b, hb⟩ : ∃ b, y[k]? = some b := ⟨_, List.getElem?_eq_getElem (by have := HY.out; omega)⟩
   have HA := h! ha
   have HBb := h! hb
   obtain ⟨b1, o1, rfl, _, _, x0, x1⟩ := (H1.out.below HB.out).at_ ha
   obtain ⟨b2, o2, rfl, _, _, y0, y1⟩ := (H2.out.below HB.out).at_ hb
   clear ha hb
   have hk0 : (0 : Int) ≤ (k : Int) := by omega
   have hkn : (k : Int) < (n : Int) := by omega
   by_cases hab : a = b
   ·subst hab
    have HN := h! (take_more HT.out HA.out HBb.out)
    obtain ⟨at_, ai⟩ := a
    simp only at x0 x1 y0 y1
    go_wp2_with fail
    go_region
    have HB2 := h! (below_drewN HB.out 1)
    go_wp2_with fail
    go_roundw
    case rel => exact ⟨k + 1, by omega, by go_num, HB2.out, HN⟩
    case measure => simp [intOf]; omega
   ·have HF := h! (show r = false by rw [HR.out]; exact decide_eq_false (ne_at HA.out HBb.out hab))
    have hc : (a.t == b.t) = false ∨ ((a.t == b.t) = true ∧ (a.i == b.i) = false) := by
     by_cases e : a.t = b.t
     ·right
      refine ⟨by simpa using e, ?_⟩
      have : a.i ≠ b.i := fun e2 => hab (by obtain ⟨p, q⟩ := a; obtain ⟨p', q'⟩ := b; simp only at e e2; rw [e, e2])
      simpa using this
     ·left; simpa using e
    clear hab HA HBb
    obtain ⟨at_, ai⟩ := a
    obtain ⟨bt, bi⟩ := b
    simp only at x0 x1 y0 y1 hc
    rcases hc with c1 | ⟨c1, c2⟩
    all_goals
     go_wp2_with fail
     go_region
     have HB2 := h! (below_drewN HB.out 1)
     go_wp2_with fail
     go_ret
     exact ⟨by rw [HF.out]; rfl, HB2.out⟩
  ·have HF := h! (show r = true by
    rw [HR.out]
    exact decide_eq_true (take_all HT.out (by have := HX.out; omega) (by have := HY.out; omega)))
   go_wp2_with fail
   go_ret
   exact ⟨by rw [HF.out]; rfl, HB.out⟩
end Go.Proofs.YteebeiaokfenmaaGreat.KP

namespace Go.Proofs.YteebeiaokfenmaaGreat.KP
open Go.RowKit CP TP
open CM (Mg Cm)
open TM (Sp)
open KM (Wt Sk)
set_option linter.unusedVariables false
set_option linter.unusedSimpArgs false
set_option maxRecDepth 100000
set_option maxHeartbeats 4000000 in
theorem rtwinMessage_any (m : Mg) (v : Value) (w : World) (h : MgIs w v m) (hs : m.gs.length ≤ 17592186044416) : Calls Tryz.prog 119 #[v] w (TmIs m w) := by
 obtain ⟨A, c, rfl, r1⟩ := h
 obtain ⟨i0, hi, hz0, hz1, hz2⟩ := info_parts info_int15
 obtain ⟨mi, mg, mt, mk, mb⟩ := m
 unfold mcells
 simp only at r1 hs ⊢
 have HB := h! (show Below w.heap.size w ((w.alloc (.cells #[.int .i64 mi, .slice A mg.length c, .int .i64 mt, .string mk, .string mb] 33)).alloc (.cells #[.int .i64 0, .slice none 0 0, .int .i64 0, .string ⟨#[]⟩, .string ⟨#[]⟩] 33)) from ((Below.refl _ _).alloc n! _).alloc (by simp) _)
 have X := h! ((Box.new w 33 #[.int .i64 mi, .slice A mg.length c, .int .i64 mt, .string mk, .string mb]).alloc (.cells #[.int .i64 0, .slice none 0 0, .int .i64 0, .string ⟨#[]⟩, .string ⟨#[]⟩] 33))
 have Y := h! (Box.new_at (w := w.alloc (.cells #[.int .i64 mi, .slice A mg.length c, .int .i64 mt, .string mk, .string mb] 33)) (t := 33) (cs := #[.int .i64 0, .slice none 0 0, .int .i64 0, .string ⟨#[]⟩, .string ⟨#[]⟩]) (w.heap.size + 1) (by simp))
 have R := h! (fun W (hb : Below w.heap.size w W) => r1.below hb)
 clear r1
 go_enter Tryz.func119, Tryz.ntmps119
 go_upto_region 1 with (fail)
 generalize (w.alloc (.cells #[.int .i64 mi, .slice A mg.length c, .int .i64 mt, .string mk, .string mb] 33)).alloc (.cells #[.int .i64 0, .slice none 0 0, .int .i64 0, .string ⟨#[]⟩, .string ⟨#[]⟩] 33) = w1 at HB X Y ⊢
 have hlt := Y.out.lt
 obtain ⟨⟨x0, x1, x2, x3, x4⟩, f0, f1, f2, f3, f4⟩ := box_mg5 X.out
 go_upto_region 2 with (at_builtin; refine wpList_append_rd _ rfl _ _ 31 rfl (w.heap.size + 1 + 1) 3 i0 (.int .i64 0) 8 Tryz.underlying31 hi hz0 hz1 hz2 rfl (.slice none 0 0) 0 [] rfl (World.ownsRow_nil _ _ _ _) A mg.length c (ic mg) rfl (R.out _ HB.out).1 (ic_one _) (by unfold maxLen; omega) (by omega) hlt ?_; intro v1 u1 hown hgr hob; rw [Nat.zero_add] at hown; obtain ⟨A1, c1, rfl, hc1, hm1⟩ := own_form hown; have hb := below_of_grown hgr (by intro g h; cases h); have HG := h! (rowGe_own (l := mg) (by simpa using hown) rfl hc1 hm1); replace HB := h! (bmore HB.out hb n!); replace X := h! (X.out.below hb X.out.lt); replace Y := h! (Y.out.below hb Y.out.lt); clear x0 x1 x2 x3 x4 f0 f1 f2 f3 f4; obtain ⟨⟨x0, x1, x2, x3, x4⟩, f0, f1, f2, f3, f4⟩ := box_mg5 X.out)
 clear x0 x1 x2 x3 x4 f0 f1 f2 f3 f4
 replace HB := h! (HB.out.setCell (p := ⟨w.heap.size, 1, none⟩) n! (.slice A1 mg.length c1))
 replace X := h! (X.out.stored 1 (.slice A1 mg.length c1))
 replace Y := h! (Y.out.far (p := ⟨w.heap.size, 1, none⟩) (by show w.heap.size + 1 ≠ w.heap.size; omega) (.slice A1 mg.length c1))
 replace HG := h! (HG.out.set (i := 1) (show w.heap.size < w.heap.size + 1 + 1 by omega) (.slice A1 mg.length c1))
 clear hown hgr hob hb
 generalize u1.setCell ⟨w.heap.size, 1, none⟩ (.slice A1 mg.length c1) = w2 at HB X Y HG ⊢
 obtain ⟨x0, x1, x2, x3, x4⟩ := box_mg (show Box w2 w.heap.size 33 #[.int .i64 mi, .slice A1 mg.length c1, .int .i64 mt, .string mk, .string mb] by simpa using X.out)
 obtain ⟨⟨y0, y1, y2, y3, y4⟩, f0, f1, f2, f3, f4⟩ := box_mg5 Y.out
 have Z := h! (pt5_box Y.out (.int .i64 mi) (.slice A1 mg.length c1) (.int .i64 mt) (.string mk) (.string mb))
 have ZB := h! (pt5_below HB.out (g := w.heap.size + 1) (by omega) (.int .i64 mi) (.slice A1 mg.length c1) (.int .i64 mt) (.string mk) (.string mb))
 have ZG := h! ((RowGe.setB HG.out (g := w.heap.size + 1) (by omega) (.int .i64 mi) (.slice A1 mg.length c1) (.int .i64 mt) (.string mk) (.string mb)).mono (show w.heap.size ≤ w.heap.size + 1 + 1 by omega))
 go_wp2_with fail
 unfold pt5 at Z ZB ZG
 obtain ⟨z0, z1, z2, z3, z4⟩ := box_mg Z.out
 exact bodyPost_ret (v := .agg #[.int .i64 mi, .slice A1 mg.length c1, .int .i64 mt, .string mk, .string mb]) (by simp [results, Tryz.results119, go_sem, z0, z1, z2, z3, z4]; try rfl) rfl ⟨A1, c1, rfl, ZG.out, ZB.out⟩
end Go.Proofs.YteebeiaokfenmaaGreat.KP

namespace Go.Proofs.YteebeiaokfenmaaGreat.LP
open Go.RowKit CP
open CM (Cm Mg)
set_option linter.unusedVariables false
set_option linter.unusedSimpArgs false
set_option maxRecDepth 100000
theorem tcx_sc (l : List ByteArray) : tcx l = sc (l.map fun s => s.data.toList) := by simp [tcx, sc]
theorem tcx_one (l : List ByteArray) : ∀ u ∈ tcx l, u.oneCell' = true := by rw [tcx_sc]; exact sc_one _
theorem info_st : (Tryz.prog.info? 9).map (fun i => (i.zero, i.size, i.bytes)) = some (some (.string ⟨#[]⟩), 1, 16) := by kernel_rfl
theorem TxIs.small {w : World} {A : Option Addr} {n c : Nat} {l : List ByteArray} (h : TxIs w A n c l) : n ≤ 9223372036854775807 := by
 have h1 := h.2.1
 have h2 := h.2.2.1
 unfold maxLen at h2
 omega
theorem txIs_own {w : World} {base : Nat} {v : Value} {n : Nat} {l : List ByteArray} (h : w.ownsRow base 9 1 v n (tcx l)) (hl : ∀ s ∈ l, s.size ≤ maxLen) : ∃ A c, v = .slice A n c ∧ TxIs w A n c l := by
 obtain ⟨A, c, rfl, h1, h2⟩ := own_form h
 exact ⟨A, c, rfl, Rd.of_own h, h1, h2, hl⟩
theorem sameT_any (A : Option Addr) (n c : Nat) (B : Option Addr) (d : Nat) (l : List ByteArray) (w : World) (h1 : TxIs w A n c l) (h2 : TxIs w B n d l) :
  Calls Tryz.prog 24 #[.slice A n c, .slice B n d] w (BoolIs true w) :=
 (same_texts A B n c d (l.map fun s => s.data.toList) w (by rw [← tcx_sc]; exact h1.1) (by rw [← tcx_sc]; exact h2.1) h1.small).mono (fun e w' (k : _ ∧ _) => show BoolIs true w e w' from ⟨k.1, by
  have := k.2
  first
  | (obtain ⟨q, hq⟩ := this; rw [hq]; exact below_drewN (Below.refl _ _) _)
  | (subst this; exact Below.refl _ _)⟩)
end Go.Proofs.YteebeiaokfenmaaGreat.LP

namespace Go.Proofs.YteebeiaokfenmaaGreat.KP
open Go.RowKit CP TP
set_option linter.unusedVariables false
set_option linter.unusedSimpArgs false
section
variable {α : Type} {K : Kd α}
theorem KO.slice {w : World} {b : Nat} {T : TypeId} {A : Option Addr} {n c : Nat} {l : List α} (h : KO K w b T (.slice A n c) l) : n = l.length ∧ n ≤ c ∧ c ≤ maxLen ∧ KG K w b A n c l := by
 obtain ⟨A', c', e, hg⟩ := h.g
 injection e with e1 e2 e3
 subst e1 e2 e3
 have := hg.r.le
 exact ⟨rfl, this.1, this.2, hg⟩
theorem KO.blk {w : World} {b : Nat} {T : TypeId} {v : Value} {l : List α} (h : KO K w b T v l) {g : Nat} (hg : v.ownBlock = some g) : b ≤ g ∧ g < w.heap.size := by
 obtain ⟨es, _, h2, _⟩ := h
 obtain ⟨h3, cur, hc⟩ := own_block h2 hg
 exact ⟨h3, hc.lt⟩
theorem wpList_append_ko {P : Program} {ops : Array Oper} {rest : List Oper} {o : Oper} {a : Act} {Q : Exit → Act → World → Prop} {w0 : World} {b : Nat} {T : TypeId} {A9 : Option Addr} {n9 c9 : Nat} {l : List α} {x : α} {A : Option Addr} {c : Nat}
  (hgd : o.guard = none) (so xo : Operand) (t : TypeId) (ho : o.op = .call { callee := .builtin .append, args := #[so, xo], argTypes := #[t, t] })
  (T' : TypeId) (i : TypeInfo) (z : Value) (bytes : Nat) (ht : P.underlying t = some (.slice T)) (hi : P.info? T = some i) (hz : i.zero = some z) (hsize : i.size = K.s) (hby : i.bytes = bytes) (hzs : z.cells.size = K.s)
  (hs : a.eval so = .slice A9 n9 c9) (hko : KO K w0 b T (.slice A9 n9 c9) l) (hx : a.eval xo = .slice (some ⟨w0.heap.size, 0, none⟩) 1 1) (cs : Array Value) (hcs : cs.toList = K.cel A c x)
  (hrow : RowGe w0 b A c (K.gs x)) (hne : ∀ ad, A = some ad → 0 < (K.gs x).length → (Value.slice A9 n9 c9).ownBlock ≠ some ad.block) (h63 : n9 + 1 ≤ maxLen) (hbytes : (n9 + 1) * bytes ≤ 140737488355328) (hb : b ≤ w0.heap.size)
  (h : ∀ A' c' w', KO K w' b T (.slice A' (n9 + 1) c') (l ++ [x]) → (w0.alloc (.cells cs T')).grownBy w' (Value.slice A9 n9 c9).ownBlock →
   ((Value.slice A' (n9 + 1) c').ownBlock = (Value.slice A9 n9 c9).ownBlock ∨ (Value.slice A' (n9 + 1) c').ownBlock = some (w0.alloc (.cells cs T')).heap.size) → wpList P ops Q rest (a.put o.dst (.slice A' (n9 + 1) c')) w') :
  wpList P ops Q (o :: rest) a (w0.alloc (.cells cs T')) := by
 have hb0 : Below w0.heap.size w0 (w0.alloc (.cells cs T')) := b!
 obtain ⟨es, hl, ho1, hr⟩ := hko
 have hn : n9 = es.length := by
  obtain ⟨A', c', e, _⟩ := own_form ho1
  injection e
 rw [← hn] at ho1
 refine wpList_append_g _ hgd so xo t ho b T i z K.s bytes ht hi hz hsize hby hzs K.pos (.slice A9 n9 c9) n9 (flat (exc K) es) hs (own_below3 ho1 hb0) (some ⟨w0.heap.size, 0, none⟩) 1 1 (K.cel A c x) hx
  (rdG_box (s := K.s) (n := 1) (Box.new w0 T' cs) hcs (by rw [K.len]; omega)) (K.one _ _ _) h63 hbytes (Nat.le_trans hb hb0.size) ?_
 intro v' w' hown hgr hob
 obtain ⟨A', c', rfl, _, _⟩ := own_form hown
 refine h A' c' w' (kO_next (K := K) (w := w0.alloc (.cells cs T')) es hl (fun e he => ⟨(hr e he).1.below hb0, (hr e he).2⟩) (hrow.below hb0) hne hgr (by rw [← hn]; exact hown) hob) hgr hob
end
theorem filter_take {α : Type} {l : List α} {k : Nat} {x : α} {p : α → Bool} (h : l[k]? = some x) : (l.take (k + 1)).filter p = (l.take k).filter p ++ (if p x then [x] else []) := by
 rw [List.take_add_one, h, List.filter_append]
 congr 1
 simp [List.filter_cons]
theorem erase_take {α : Type} {l : List α} {k j : Nat} {x : α} (h : l[k]? = some x) : (l.take (k + 1)).eraseIdx j = if k = j then (l.take k).eraseIdx j else (l.take k).eraseIdx j ++ [x] := by
 have hkl := (List.getElem?_eq_some_iff.1 h).1
 have hlen : (l.take k).length = k := by rw [List.length_take]; omega
 rw [List.take_add_one, h]
 show (l.take k ++ [x]).eraseIdx j = _
 split
 ·rename_i e
  subst e
  rw [List.eraseIdx_append_of_length_le (by omega), hlen]
  simp
  rw [List.eraseIdx_of_length_le (by omega)]
 ·rename_i hne
  rcases Nat.lt_or_ge j k with hj | hj
  ·rw [List.eraseIdx_append_of_lt_length (by omega)]
  ·rw [List.eraseIdx_of_length_le (by rw [List.length_append, hlen]; simp; omega), List.eraseIdx_of_length_le (by omega)]
end Go.Proofs.YteebeiaokfenmaaGreat.KP

namespace Go.Proofs.YteebeiaokfenmaaGreat.KP
open Go.RowKit CP TP
open Go.Maps (Keyed IsMap Tidy int_keyed keyOf_int_mk)
open CM (Mg Cm)
open TM (Sp)
open KM (Wt Sk)
set_option linter.unusedVariables false
set_option linter.unusedSimpArgs false
set_option maxRecDepth 100000
set_option maxHeartbeats 2000000 in
theorem ptid_any (i : Int) (A : Option Addr) (m c : Nat) (tp : Int) (key body : ByteArray) (t : Int) (f : Bool) (w : World) : Calls Tryz.prog 61 #[.agg #[.int .i64 i, .slice A m c, .int .i64 tp, .string key, .string body, .int .i64 t, .bool f]] w fun e w' => e = .returned (.int .i64 i) ∧ Below w.heap.size w w' := by
 have HB := h! (show Below w.heap.size w (w.alloc (.cells #[.int .i64 i, .slice A m c, .int .i64 tp, .string key, .string body, .int .i64 t, .bool f] 78)) from (Below.refl _ _).alloc n! _)
 have Y := h! (Box.new w 78 #[.int .i64 i, .slice A m c, .int .i64 tp, .string key, .string body, .int .i64 t, .bool f])
 go_enter Tryz.func61, Tryz.ntmps61
 go_upto_region 1 with (fail)
 generalize w.alloc (.cells #[.int .i64 i, .slice A m c, .int .i64 tp, .string key, .string body, .int .i64 t, .bool f] 78) = w1 at HB Y ⊢
 have y0 := Y.out.cell 0
 simp at y0
 go_wp2_with fail
 go_ret
 exact ⟨rfl, HB.out⟩
set_option maxHeartbeats 4000000 in
theorem pplW_any (A : Option Addr) (n c : Nat) (l : List Wt) (w : World) (h : KR KW w A n c l) (hn : n ≤ 4096) (hi : ∀ x ∈ l, i64In x.m.id) :
  Calls Tryz.prog 60 #[.slice A n c, .func (.func 61) #[] #[]] w fun e w' => ∃ v, e = .returned v ∧ MpIs w' v (l.map fun x => x.m.id) ∧ Below w.heap.size w w' := by
 have hmm := makeMap_n
 have HL := h! (show l.length = n from h.len)
 have H := h! h
 have HI := h! hi
 obtain ⟨b, hb⟩ : ∃ b, w.heap.size = b := ⟨_, rfl⟩
 obtain ⟨W1, hW1⟩ : ∃ W1, W1 = w.alloc (.map #[] 0) := ⟨_, rfl⟩
 have HP := h! (show PlI w b (l.map fun x => x.m.id) 0 W1 from by
  refine ⟨by rw [hW1]; exact (Below.refl _ _).alloc n! _, by omega, ?_⟩
  rw [hW1, ← hb]
  exact World.ownsMap_made _ _ _ _)
 clear h hi
 go_enter Tryz.func60, Tryz.ntmps60
 go_upto_region 2 with (fail)
 rw [← hW1]
 clear hW1 hmm
 try simp only [hb]
 clear hb
 go_wp2_with fail
 go_loopw [13] (fun i wr => ∃ k : Nat, k ≤ n ∧ i = .int .i64 k ∧ Hid (PlI w b (l.map fun x => x.m.id) k wr)) (fun i _ => n - (intOf i).toNat)
 case atStart => exact ⟨0, by omega, rfl, HP⟩
 case round =>
  clear HP
  obtain ⟨k, hk, rfl, HP⟩ := hrel
  by_cases hlt : k < n
  ·obtain ⟨a, ha⟩ : ∃ a, l[k]? = some a := ⟨_, List.getElem?_eq_getElem (by have := HL.out; omega)⟩
   have HA := h! (show (l.map fun x => x.m.id)[k]? = some a.m.id by rw [List.getElem?_map, ha]; rfl)
   have HF := h! (HI.out a (List.mem_of_getElem? ha))
   obtain ⟨bl, o, B, d, rfl, _, _, x0, x1, x2, x3, x4, x5, x6, _⟩ := (show ∃ bl o B d, A = some ⟨bl, o, none⟩ ∧ k < n ∧ bl < wr.heap.size ∧ wr.cell? ⟨bl, o + k * 7, none⟩ = some (.int .i64 a.m.id) ∧ wr.cell? ⟨bl, o + k * 7 + 1, none⟩ = some (.slice B a.m.gs.length d) ∧ wr.cell? ⟨bl, o + k * 7 + 2, none⟩ = some (.int .i64 a.m.tp) ∧ wr.cell? ⟨bl, o + k * 7 + 3, none⟩ = some (.string a.m.key) ∧ wr.cell? ⟨bl, o + k * 7 + 4, none⟩ = some (.string a.m.body) ∧ wr.cell? ⟨bl, o + k * 7 + 5, none⟩ = some (.int .i64 a.t) ∧ wr.cell? ⟨bl, o + k * 7 + 6, none⟩ = some (.bool a.f) ∧ True from by
    obtain ⟨bl, o, B, d, h1, h2, h3, ⟨q0, q1, q2, q3, q4, q5, q6⟩, _⟩ := wts_at (H.out.below HP.out.bl) ha
    exact ⟨bl, o, B, d, h1, h2, h3, q0, q1, q2, q3, q4, q5, q6, trivial⟩)
   clear ha
   have hk0 : (0 : Int) ≤ (k : Int) := by omega
   have hkn : (k : Int) < (n : Int) := by omega
   have hk63 : (Lit.int .i64 (k : Nat)).wf = true := wfI (by unfold i64In; omega)
   have HB := h! (show Below wr.heap.size wr (wr.alloc (.cells #[.int .i64 a.m.id, .slice B a.m.gs.length d, .int .i64 a.m.tp, .string a.m.key, .string a.m.body, .int .i64 a.t, .bool a.f] 78)) from (Below.refl _ _).alloc n! _)
   have Y := h! (Box.new wr 78 #[.int .i64 a.m.id, .slice B a.m.gs.length d, .int .i64 a.m.tp, .string a.m.key, .string a.m.body, .int .i64 a.t, .bool a.f])
   go_upto_region 5 with (fail)
   generalize wr.alloc (.cells #[.int .i64 a.m.id, .slice B a.m.gs.length d, .int .i64 a.m.tp, .string a.m.key, .string a.m.body, .int .i64 a.t, .bool a.f] 78) = w3 at HB Y ⊢
   generalize wr.heap.size = g3 at Y ⊢
   obtain ⟨y0, y1, y2, y3, y4, y5, y6⟩ := box_wt Y.out
   go_wp2_with fail
   refine (ptid_any _ _ _ _ _ _ _ _ _ w3).mono ?_
   rintro e w4 ⟨rfl, hb4⟩
   have HP4 := h! (HP.out.below (bmore HB.out hb4 n!))
   clear hb4 x0 x1 x2 x3 x4 x5 x6 y0 y1 y2 y3 y4 y5 y6
   go_wp2_with (at_mapUpdate; refine wpList_mapUpdate_own _ rfl _ _ _ 72 rfl 3 3 lawI Tryz.underlying72 _ b k _ rfl HP4.out.ow (by unfold maxLen; omega) _ _ _ rfl rfl (keyOf_int_mk Tryz.underlying3 (wfI HF.out)) _ [] (plainElem_int Tryz.underlying3 hk63) ?_; intro w5 hown5 hg5; have HP5 := h! (HP4.out.next HA.out hown5 hg5); clear hown5 hg5)
   go_roundw
   case rel => exact ⟨k + 1, by omega, by go_num, HP5⟩
   case measure => simp [intOf]; omega
  ·obtain rfl : n = k := by omega
   have HE := h! (show MpIs wr (.map (some b)) (l.map fun x => x.m.id) from ⟨b, rfl, by have h1 := HP.out.ow; rw [List.take_of_length_le (by rw [List.length_map]; have := HL.out; omega)] at h1; rw [List.length_map, HL.out]; exact h1⟩)
   go_wp2_with fail
   go_ret
   exact ⟨_, rfl, HE.out, HP.out.bl⟩
end Go.Proofs.YteebeiaokfenmaaGreat.KP

namespace Go.Proofs.YteebeiaokfenmaaGreat.KP
open Go.RowKit CP TP
open Go.Maps (Keyed IsMap Tidy int_keyed keyOf_int_mk)
open CM (Mg Cm)
open TM (Sp)
open KM (Wt Sk)
set_option linter.unusedVariables false
set_option linter.unusedSimpArgs false
set_option maxRecDepth 100000
set_option maxHeartbeats 2000000 in
theorem pcid_any (t i : Int) (w : World) : Calls Tryz.prog 73 #[.agg #[.int .i64 t, .int .i64 i]] w fun e w' => e = .returned (.int .i64 i) ∧ Below w.heap.size w w' := by
 have HB := h! (show Below w.heap.size w (w.alloc (.cells #[.int .i64 t, .int .i64 i] 46)) from (Below.refl _ _).alloc n! _)
 have Y := h! (Box.new w 46 #[.int .i64 t, .int .i64 i])
 go_enter Tryz.func73, Tryz.ntmps73
 go_upto_region 1 with (fail)
 generalize w.alloc (.cells #[.int .i64 t, .int .i64 i] 46) = w1 at HB Y ⊢
 have y0 := Y.out.cell 1
 simp at y0
 go_wp2_with fail
 go_ret
 exact ⟨rfl, HB.out⟩
set_option maxHeartbeats 4000000 in
theorem pplS_any (A : Option Addr) (n c : Nat) (l : List Sp) (w : World) (h : SpsIs w A n c l) (hn : n ≤ 4096) (hi : ∀ x ∈ l, i64In x.i) :
  Calls Tryz.prog 72 #[.slice A n c, .func (.func 73) #[] #[]] w fun e w' => ∃ v, e = .returned v ∧ MpIs w' v (l.map fun x => x.i) ∧ Below w.heap.size w w' := by
 have hmm := makeMap_n
 have HL := h! (show l.length = n from h.2.1)
 have H := h! h
 have HI := h! hi
 obtain ⟨b, hb⟩ : ∃ b, w.heap.size = b := ⟨_, rfl⟩
 obtain ⟨W1, hW1⟩ : ∃ W1, W1 = w.alloc (.map #[] 0) := ⟨_, rfl⟩
 have HP := h! (show PlI w b (l.map fun x => x.i) 0 W1 from by
  refine ⟨by rw [hW1]; exact (Below.refl _ _).alloc n! _, by omega, ?_⟩
  rw [hW1, ← hb]
  exact World.ownsMap_made _ _ _ _)
 clear h hi
 go_enter Tryz.func72, Tryz.ntmps72
 go_upto_region 2 with (fail)
 rw [← hW1]
 clear hW1 hmm
 try simp only [hb]
 clear hb
 go_wp2_with fail
 go_loopw [13] (fun i wr => ∃ k : Nat, k ≤ n ∧ i = .int .i64 k ∧ Hid (PlI w b (l.map fun x => x.i) k wr)) (fun i _ => n - (intOf i).toNat)
 case atStart => exact ⟨0, by omega, rfl, HP⟩
 case round =>
  clear HP
  obtain ⟨k, hk, rfl, HP⟩ := hrel
  by_cases hlt : k < n
  ·obtain ⟨a, ha⟩ : ∃ a, l[k]? = some a := ⟨_, List.getElem?_eq_getElem (by have := HL.out; omega)⟩
   have HA := h! (show (l.map fun x => x.i)[k]? = some a.i by rw [List.getElem?_map, ha]; rfl)
   have HF := h! (HI.out a (List.mem_of_getElem? ha))
   obtain ⟨bl, o, rfl, _, _, x0, x1⟩ := (H.out.below HP.out.bl).at_ ha
   clear ha
   have hk0 : (0 : Int) ≤ (k : Int) := by omega
   have hkn : (k : Int) < (n : Int) := by omega
   have hk63 : (Lit.int .i64 (k : Nat)).wf = true := wfI (by unfold i64In; omega)
   have HB := h! (show Below wr.heap.size wr (wr.alloc (.cells #[.int .i64 a.t, .int .i64 a.i] 46)) from (Below.refl _ _).alloc n! _)
   have Y := h! (Box.new wr 46 #[.int .i64 a.t, .int .i64 a.i])
   go_upto_region 5 with (fail)
   generalize wr.alloc (.cells #[.int .i64 a.t, .int .i64 a.i] 46) = w3 at HB Y ⊢
   generalize wr.heap.size = g3 at Y ⊢
   have y0 := Y.out.cell 0
   have y1 := Y.out.cell 1
   simp at y0 y1
   go_wp2_with fail
   refine (pcid_any _ _ w3).mono ?_
   rintro e w4 ⟨rfl, hb4⟩
   have HP4 := h! (HP.out.below (bmore HB.out hb4 n!))
   clear hb4 x0 x1 y0 y1
   go_wp2_with (at_mapUpdate; refine wpList_mapUpdate_own _ rfl _ _ _ 72 rfl 3 3 lawI Tryz.underlying72 _ b k _ rfl HP4.out.ow (by unfold maxLen; omega) _ _ _ rfl rfl (keyOf_int_mk Tryz.underlying3 (wfI HF.out)) _ [] (plainElem_int Tryz.underlying3 hk63) ?_; intro w5 hown5 hg5; have HP5 := h! (HP4.out.next HA.out hown5 hg5); clear hown5 hg5)
   go_roundw
   case rel => exact ⟨k + 1, by omega, by go_num, HP5⟩
   case measure => simp [intOf]; omega
  ·obtain rfl : n = k := by omega
   have HE := h! (show MpIs wr (.map (some b)) (l.map fun x => x.i) from ⟨b, rfl, by have h1 := HP.out.ow; rw [List.take_of_length_le (by rw [List.length_map]; have := HL.out; omega)] at h1; rw [List.length_map, HL.out]; exact h1⟩)
   go_wp2_with fail
   go_ret
   exact ⟨_, rfl, HE.out, HP.out.bl⟩
end Go.Proofs.YteebeiaokfenmaaGreat.KP

namespace Go.Proofs.YteebeiaokfenmaaGreat.KP
open Go.RowKit CP TP
open CM (Mg Cm)
open TM (Sp)
open KM (Wt Sk)
set_option linter.unusedVariables false
set_option linter.unusedSimpArgs false
section
variable {α : Type} {K : Kd α} {w w' : World} {b n c : Nat} {A : Option Addr} {l : List α} {T : TypeId} {v : Value}
theorem kO_nexts {v2 : Value} (es es2 : List (Ex α)) (hl : es.map Ex.x = l) (hr : ∀ e ∈ es, RowGe w b e.A e.c (K.gs e.x) ∧ ∀ ad, e.A = some ad → 0 < (K.gs e.x).length → v.ownBlock ≠ some ad.block)
  (hr2 : ∀ e ∈ es2, RowGe w b e.A e.c (K.gs e.x) ∧ ∀ ad, e.A = some ad → 0 < (K.gs e.x).length → v.ownBlock ≠ some ad.block)
  (hg : w.grownBy w' v.ownBlock) (ho : w'.ownsRow b T K.s v2 (es.length + es2.length) (flat (exc K) es ++ flat (exc K) es2)) (hob : v2.ownBlock = v.ownBlock ∨ v2.ownBlock = some w.heap.size) : KO K w' b T v2 (l ++ es2.map Ex.x) := by
 refine ⟨es ++ es2, by simp [hl], by rw [flat_append, List.length_append]; exact ho, fun e he => ?_⟩
 have hfin : ∀ ad : Addr, ad.block < w.heap.size → v.ownBlock ≠ some ad.block → v2.ownBlock ≠ some ad.block := fun ad hlt hne => by
  rcases hob with k | k
  ·rw [k]; exact hne
  ·rw [k]; intro q; injection q with q; omega
 have key : ∀ e : Ex α, (RowGe w b e.A e.c (K.gs e.x) ∧ ∀ ad, e.A = some ad → 0 < (K.gs e.x).length → v.ownBlock ≠ some ad.block) → RowGe w' b e.A e.c (K.gs e.x) ∧ ∀ ad, e.A = some ad → 0 < (K.gs e.x).length → v2.ownBlock ≠ some ad.block := fun e ⟨g1, g2⟩ =>
  ⟨rowGe_grown g1 hg g2, fun ad e1 hn => hfin ad (row_lt g1.1 e1 hn) (g2 ad e1 hn)⟩
 rcases List.mem_append.1 he with he | he
 ·exact key e (hr e he)
 ·exact key e (hr2 e he)
theorem wpList_append_kos {P : Program} {ops : Array Oper} {rest : List Oper} {o : Oper} {a : Act} {Q : Exit → Act → World → Prop} {w2 : World} {b2 : Nat} {T2 : TypeId} {A9 : Option Addr} {n9 c9 : Nat} {A2 : Option Addr} {m2 c2 : Nat} {l2 : List α}
  (hgd : o.guard = none) (so xo : Operand) (t : TypeId) (ho : o.op = .call { callee := .builtin .append, args := #[so, xo], argTypes := #[t, t] })
  (i : TypeInfo) (z : Value) (bytes : Nat) (ht : P.underlying t = some (.slice T)) (hi : P.info? T = some i) (hz : i.zero = some z) (hsize : i.size = K.s) (hby : i.bytes = bytes) (hzs : z.cells.size = K.s)
  (hs : a.eval so = .slice A9 n9 c9) (hko : KO K w b T (.slice A9 n9 c9) l) (hx : a.eval xo = .slice A2 m2 c2) (hko2 : KO K w2 b2 T2 (.slice A2 m2 c2) l2) (hb2 : b ≤ b2) (hw2 : Below w2.heap.size w2 w)
  (hne : ∀ g, (Value.slice A9 n9 c9).ownBlock = some g → g < b2 ∨ w2.heap.size ≤ g) (h63 : n9 + m2 ≤ maxLen) (hbytes : (n9 + m2) * bytes ≤ 140737488355328) (hb : b ≤ w.heap.size)
  (h : ∀ A' c' w', KO K w' b T (.slice A' (n9 + m2) c') (l ++ l2) → w.grownBy w' (Value.slice A9 n9 c9).ownBlock →
   ((Value.slice A' (n9 + m2) c').ownBlock = (Value.slice A9 n9 c9).ownBlock ∨ (Value.slice A' (n9 + m2) c').ownBlock = some w.heap.size) → wpList P ops Q rest (a.put o.dst (.slice A' (n9 + m2) c')) w') :
  wpList P ops Q (o :: rest) a w := by
 obtain ⟨es, hl, ho1, hr⟩ := hko
 have hn : n9 = es.length := by
  obtain ⟨A', c', e, _⟩ := own_form ho1
  injection e
 rw [← hn] at ho1
 obtain ⟨es2, hl2, ho2, hr2⟩ := hko2
 have hm : m2 = es2.length := by
  obtain ⟨A', c', e, _⟩ := own_form ho2
  injection e
 rw [← hm] at ho2
 refine wpList_append_g _ hgd so xo t ho b T i z K.s bytes ht hi hz hsize hby hzs K.pos (.slice A9 n9 c9) n9 (flat (exc K) es) hs ho1 A2 m2 c2 (flat (exc K) es2) hx ((rdg_own ho2).below hw2) (exc_one K es2) h63 hbytes hb ?_
 intro v' w' hown hgr hob
 obtain ⟨A', c', rfl, _, _⟩ := own_form hown
 refine h A' c' w' ?_ hgr hob
 rw [← hl2]
 refine kO_nexts es es2 hl hr (fun e he => ⟨((hr2 e he).1.mono hb2).below hw2, fun ad e1 hn q => ?_⟩) hgr (by rw [← hn, ← hm]; exact hown) hob
 have k1 := row_lt (hr2 e he).1.1 e1 hn
 have k2 := (hr2 e he).1.2 ad e1 hn
 have := hne _ q
 omega
end
end Go.Proofs.YteebeiaokfenmaaGreat.KP

namespace Go.Proofs.YteebeiaokfenmaaGreat.KP
open Go.RowKit CP TP
open CM (Mg Cm)
open TM (Sp)
open KM (Wt Sk)
set_option linter.unusedVariables false
set_option linter.unusedSimpArgs false
theorem flat_set1 {α : Type} {f : α → List Value} {s : Nat} {j : Nat} {u : Value} : ∀ {l : List α} {k : Nat} {a a' : α}, (∀ a, (f a).length = s) → l[k]? = some a → j < s → f a' = (f a).set j u → (flat f l).set (k * s + j) u = flat f (l.set k a')
 | [], k, a, a', _, h, _, _ => by simp at h
 | b :: l, 0, a, a', hf, h, hj, he => by
  simp at h; subst h
  rw [flat_cons, Nat.zero_mul, Nat.zero_add, List.set_append_left _ _ (by rw [hf]; exact hj), List.set_cons_zero, flat_cons, he]
 | b :: l, k + 1, a, a', hf, h, hj, he => by
  have ih := flat_set1 (l := l) (k := k) hf (by simpa using h) hj he
  rw [flat_cons, List.set_append_right _ _ (by rw [hf, Nat.add_mul]; omega), List.set_cons_succ, flat_cons, ← ih]
  congr 2
  rw [hf, Nat.add_mul]
  omega
section
variable {α : Type} {K : Kd α} {w : World} {b : Nat} {T : TypeId} {l : List α}
theorem KO.store {q n c k j : Nat} {x x' : α} {u : Value} (h : KO K w b T (.slice (some ⟨q, 0, none⟩) n c) l) (hk : l[k]? = some x) (hj : j < K.s) (hx : ∀ A d, K.cel A d x' = (K.cel A d x).set j u) (hg : K.gs x' = K.gs x) (hT : T ≠ 3) :
  KO K (w.setCell ⟨q, k * K.s + j, none⟩ u) b T (.slice (some ⟨q, 0, none⟩) n c) (l.set k x') ∧ Kept (fun e => e = T) w (w.setCell ⟨q, k * K.s + j, none⟩ u) ∧ Below b w (w.setCell ⟨q, k * K.s + j, none⟩ u) ∧ (w.setCell ⟨q, k * K.s + j, none⟩ u).heap.size = w.heap.size := by
 obtain ⟨es, rfl, h2, h3⟩ := h
 have hn : n = es.length := by
  obtain ⟨A', c', e, _⟩ := own_form h2
  injection e
 subst hn
 rw [List.getElem?_map] at hk
 rcases he : es[k]? with _ | e
 ·rw [he] at hk; cases hk
 rw [he] at hk
 injection hk with hk
 subst hk
 have hkl := (List.getElem?_eq_some_iff.1 he).1
 obtain ⟨hb, cur, hc⟩ := own_block h2 (show (Value.slice (some ⟨q, 0, none⟩) es.length c).ownBlock = some q from rfl)
 have hkp : Kept (fun e => e = T) w (w.setCell ⟨q, k * K.s + j, none⟩ u) := Kept.set (S := fun e => e = T) hc rfl u
 refine ⟨⟨es.set k ⟨e.A, e.c, x'⟩, by rw [List.map_set], ?_, fun e' he' => ?_⟩, hkp, (Below.refl _ _).setCell (p := ⟨q, k * K.s + j, none⟩) hb u, by simp⟩
 ·have h1 := (h2.stored (k * K.s + j) u).1
  rw [flat_set1 (f := exc K) (fun a => K.len _ _ _) he hj (show exc K ⟨e.A, e.c, x'⟩ = _ from hx e.A e.c)] at h1
  rw [List.length_set]
  exact h1
 ·have hi : ¬ (3 = T) := fun e => hT e.symm
  rcases List.mem_or_eq_of_mem_set he' with he' | rfl
  ·exact ⟨rowGe_kept hkp hi (h3 e' he').1, (h3 e' he').2⟩
  ·have := h3 e (List.mem_of_getElem? he)
   exact ⟨by rw [hg]; exact rowGe_kept hkp hi this.1, by rw [hg]; exact this.2⟩
theorem KO.cellAt {q n c k : Nat} {x : α} (h : KO K w b T (.slice (some ⟨q, 0, none⟩) n c) l) (hk : l[k]? = some x) : ∃ B d, (∀ j u, (K.cel B d x)[j]? = some u → w.cell? ⟨q, k * K.s + j, none⟩ = some u) ∧ (∀ i, w.frozen? ⟨q, i, none⟩ = false) ∧ RowGe w b B d (K.gs x) := by
 obtain ⟨hn, _, _, hg⟩ := h.slice
 obtain ⟨bl, o, B, d, e, _, _, hc, hr⟩ := hg.at_ hk
 injection e with e
 injection e with e1 e2
 subst e1 e2
 obtain ⟨es, _, h2, _⟩ := h
 obtain ⟨_, cur, hx⟩ := own_block h2 (show (Value.slice (some ⟨q, 0, none⟩) n c).ownBlock = some q from rfl)
 exact ⟨B, d, fun j u hu => by have := hc j u hu; rwa [Nat.zero_add] at this, hx.frozen, hr⟩
theorem KO.some {A : Option Addr} {n c k : Nat} {x : α} (h : KO K w b T (.slice A n c) l) (hk : l[k]? = some x) : ∃ q, A = some ⟨q, 0, none⟩ := by
 obtain ⟨es, rfl, h2, _⟩ := h
 have hn : n = es.length := by
  obtain ⟨A', c', e, _⟩ := own_form h2
  injection e
 subst hn
 have hkl := (List.getElem?_eq_some_iff.1 hk).1
 rw [List.length_map] at hkl
 obtain ⟨q, e, _⟩ := own_some h2 (by omega)
 exact ⟨q, e⟩
end
def isS (e : TypeId) : Prop := e = 78 ∨ e = 46 ∨ e = 39
theorem isS_int : ¬ isS 3 := by unfold isS; decide
theorem isS_msg : ¬ isS 33 := by unfold isS; decide
def isT (e : TypeId) : Prop := e = 78 ∨ e = 46 ∨ e = 33
theorem isT_skeen : ¬ isT 39 := by unfold isT; decide
structure PtS (w1 : World) (b p3 p5 p6 : Nat) (Cc : Array Value) (c : Int) (vW vD : Value) (ws : List Wt) (ds : List Sp) (W : World) : Prop where
 bl : Below b w1 W
 ord : p3 ≠ p6 ∧ b ≤ p3 ∧ b ≤ p6 ∧ b ≤ W.heap.size
 bx : Box W p3 39 #[.int .i64 c, vW, vD]
 ow : KO KW W b 78 vW ws
 od : W.ownsRow b 46 2 vD ds.length (flat spc ds)
 bc : Box W p5 91 Cc
 br : Box W p6 39 #[.int .i64 0, .slice none 0 0, .slice none 0 0]
 kp : ∀ g e cs, g < p3 → ¬ isT e → Box w1 g e cs → Box W g e cs
 lt : p3 < p6
section
variable {w1 W W' : World} {b p3 p5 p6 : Nat} {Cc : Array Value} {c : Int} {vW vD : Value} {ws : List Wt} {ds : List Sp}
theorem PtS.below (h : PtS w1 b p3 p5 p6 Cc c vW vD ws ds W) (hb : Below W.heap.size W W') : PtS w1 b p3 p5 p6 Cc c vW vD ws ds W' :=
 ⟨h.bl.trans (hb.mono h.ord.2.2.2), ⟨h.ord.1, h.ord.2.1, h.ord.2.2.1, Nat.le_trans h.ord.2.2.2 hb.size⟩, h.bx.below hb h.bx.lt, h.ow.below hb, own_below3 h.od hb, h.bc.below hb h.bc.lt, h.br.below hb h.br.lt, fun g e cs hg he hx => (h.kp g e cs hg he hx).below hb (h.kp g e cs hg he hx).lt, h.lt⟩
theorem PtS.kept {S : TypeId → Prop} (h : PtS w1 b p3 p5 p6 Cc c vW vD ws ds W) (hk : Kept S W W') (hb : Below b W W') (s1 : ¬ S 39) (s2 : ¬ S 78) (s3 : ¬ S 46) (s4 : ¬ S 91) (s5 : ¬ S 3) (s6 : ∀ e, S e → isT e) : PtS w1 b p3 p5 p6 Cc c vW vD ws ds W' :=
 ⟨h.bl.trans hb, ⟨h.ord.1, h.ord.2.1, h.ord.2.2.1, Nat.le_trans h.ord.2.2.2 hb.size⟩, hk.box _ _ _ s1 h.bx, KO.kept hk s5 s2 h.ow, hk.own h.od s3, hk.box _ _ _ s4 h.bc, hk.box _ _ _ s1 h.br, fun g e cs hg he hx => hk.box _ _ _ (fun hs => he (s6 e hs)) (h.kp g e cs hg he hx), h.lt⟩
theorem PtS.setC (h : PtS w1 b p3 p5 p6 Cc c vW vD ws ds W) (x : Int) : PtS w1 b p3 p5 p6 Cc x vW vD ws ds (W.setCell ⟨p3, 0, none⟩ (.int .i64 x)) ∧ Kept isS W (W.setCell ⟨p3, 0, none⟩ (.int .i64 x)) := by
 have hk : Kept (fun e => e = 39) W (W.setCell ⟨p3, 0, none⟩ (.int .i64 x)) := Kept.set (S := fun e => e = 39) h.bx rfl _
 exact ⟨⟨h.bl.setCell (p := ⟨p3, 0, none⟩) h.ord.2.1 _, ⟨h.ord.1, h.ord.2.1, h.ord.2.2.1, by have := h.ord.2.2.2; simpa using this⟩, by have := h.bx.stored 0 (.int .i64 x); simpa using this, KO.kept hk (by decide) (by decide) h.ow, hk.own h.od (by decide), hk.box _ _ _ (by decide) h.bc, h.br.far (p := ⟨p3, 0, none⟩) (by exact fun e => h.ord.1 e.symm) _, fun g e cs hg he hx => (h.kp g e cs hg he hx).far (p := ⟨p3, 0, none⟩) (Nat.ne_of_lt hg) _, h.lt⟩,
  hk.mono fun e he => .inr (.inr he)⟩
theorem PtS.setW (h : PtS w1 b p3 p5 p6 Cc c vW vD ws ds W) {v2 : Value} {l : List Wt} (h2 : KO KW W b 78 v2 l) : PtS w1 b p3 p5 p6 Cc c v2 vD l ds (W.setCell ⟨p3, 1, none⟩ v2) ∧ Kept isS W (W.setCell ⟨p3, 1, none⟩ v2) := by
 have hk : Kept (fun e => e = 39) W (W.setCell ⟨p3, 1, none⟩ v2) := Kept.set (S := fun e => e = 39) h.bx rfl _
 exact ⟨⟨h.bl.setCell (p := ⟨p3, 1, none⟩) h.ord.2.1 _, ⟨h.ord.1, h.ord.2.1, h.ord.2.2.1, by have := h.ord.2.2.2; simpa using this⟩, by have := h.bx.stored 1 v2; simpa using this, KO.kept hk (by decide) (by decide) h2, hk.own h.od (by decide), hk.box _ _ _ (by decide) h.bc, h.br.far (p := ⟨p3, 1, none⟩) (by exact fun e => h.ord.1 e.symm) _, fun g e cs hg he hx => (h.kp g e cs hg he hx).far (p := ⟨p3, 1, none⟩) (Nat.ne_of_lt hg) _, h.lt⟩,
  hk.mono fun e he => .inr (.inr he)⟩
theorem PtS.addD (h : PtS w1 b p3 p5 p6 Cc c vW vD ws ds W) {Wa : World} (hb : Below W.heap.size W Wa) {v2 : Value} {x : Sp} (hg : Wa.grownBy W' vD.ownBlock) (ho : W'.ownsRow b 46 2 v2 (ds.length + 1) (flat spc ds ++ spc x)) :
  PtS w1 b p3 p5 p6 Cc c vW v2 ws (ds ++ [x]) (W'.setCell ⟨p3, 2, none⟩ v2) ∧ Kept isS W (W'.setCell ⟨p3, 2, none⟩ v2) := by
 have ha := h.below hb
 have hk1 : Kept (fun e => e = 46) Wa W' := Kept.grown (S := fun e => e = 46) ha.od rfl hg
 have hB : Below b Wa W' := Below.grown (Below.refl b Wa) hg ha.ord.2.2.2 fun g e => (own_block ha.od e).1
 have hx := hk1.box _ _ _ (by decide) ha.bx
 have hk2 : Kept (fun e => e = 39) W' (W'.setCell ⟨p3, 2, none⟩ v2) := Kept.set (S := fun e => e = 39) hx rfl _
 refine ⟨⟨(ha.bl.trans hB).setCell (p := ⟨p3, 2, none⟩) h.ord.2.1 _, ⟨h.ord.1, h.ord.2.1, h.ord.2.2.1, ?_⟩, by have := hx.stored 2 v2; simpa using this, KO.kept hk2 (by decide) (by decide) (KO.kept hk1 (by decide) (by decide) ha.ow), ?_, hk2.box _ _ _ (by decide) (hk1.box _ _ _ (by decide) ha.bc), ?_, fun g e cs hg he hx => (hk1.box _ _ _ (fun (q : e = 46) => he (.inr (.inl q))) (ha.kp g e cs hg he hx)).far (p := ⟨p3, 2, none⟩) (Nat.ne_of_lt hg) _, h.lt⟩, ?_⟩
 ·have h1 := ha.ord.2.2.2
  have h2 := hB.size
  have : (W'.setCell ⟨p3, 2, none⟩ v2).heap.size = W'.heap.size := by simp
  omega
 ·rw [flat_append, flat_one, List.length_append]
  exact hk2.own ho (by decide)
 ·exact (hk1.box _ _ _ (by decide) ha.br).far (p := ⟨p3, 2, none⟩) (by exact fun e => h.ord.1 e.symm) _
 ·exact ((Kept.of_below hb).trans (hk1.mono fun e he => .inr (.inl he))).trans (hk2.mono fun e he => .inr (.inr he))
theorem PtS.storeW {q n d k j : Nat} {x x' : Wt} {u : Value} (h : PtS w1 b p3 p5 p6 Cc c (.slice (some ⟨q, 0, none⟩) n d) vD ws ds W) (hk : ws[k]? = some x) (hj : j < 7) (hx : ∀ A d, KW.cel A d x' = (KW.cel A d x).set j u) (hg : x'.m.gs = x.m.gs) :
  PtS w1 b p3 p5 p6 Cc c (.slice (some ⟨q, 0, none⟩) n d) vD (ws.set k x') ds (W.setCell ⟨q, k * 7 + j, none⟩ u) ∧ Kept isS W (W.setCell ⟨q, k * 7 + j, none⟩ u) := by
 obtain ⟨h1, h2, h3, h4⟩ := h.ow.store hk hj hx hg (by decide)
 exact ⟨⟨h.bl.trans h3, ⟨h.ord.1, h.ord.2.1, h.ord.2.2.1, by have := h.ord.2.2.2; have e : (W.setCell ⟨q, k * 7 + j, none⟩ u).heap.size = W.heap.size := h4; omega⟩, h2.box _ _ _ (by decide) h.bx, h1, h2.own h.od (by decide), h2.box _ _ _ (by decide) h.bc, h2.box _ _ _ (by decide) h.br, fun g e cs hg he hx => h2.box _ _ _ (fun (q : e = 78) => he (.inl q)) (h.kp g e cs hg he hx), h.lt⟩, h2.mono fun e he => .inl he⟩
end
end Go.Proofs.YteebeiaokfenmaaGreat.KP
