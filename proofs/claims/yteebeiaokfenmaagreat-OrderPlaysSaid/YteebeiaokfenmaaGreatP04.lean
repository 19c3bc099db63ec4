/- Contracts of functions, P04: each as its theorem says. -/
import Derived.Test.YteebeiaokfenmaaGreatK11
import Derived.Lib.SliceRun
set_option linter.unusedVariables false
set_option linter.unusedSimpArgs false
set_option maxRecDepth 100000
set_option maxHeartbeats 16000000
namespace Go.Proofs.YteebeiaokfenmaaGreat
namespace KP
open Go.RowKit CP TP
open CM (Mg Cm)
open TM (Sp)
open KM (Wt Sk)
def CloIs (T : TypeId) (s n : Nat) (xs : List Value) (w : World) (x : Ending) (w' : World) : Prop := ∃ A c, x = .returned (.slice A n c) ∧ w'.ownsRow w.heap.size T s (.slice A n c) n xs ∧ Below w.heap.size w w'
theorem cloneW_any (B : Option Addr) (m d : Nat) (xs : List Value) (w : World) (hr : RdG w 7 B m xs) (h1 : ∀ u ∈ xs, u.oneCell' = true) (hm : m ≤ 4096) :
  Calls Tryz.prog 102 #[.slice B m d] w (CloIs 78 7 m xs w) := by
 obtain ⟨i0, hi, hz0, hz1, hz2⟩ := info_parts info_wt
 have HR := h! hr
 have H1 := h! h1
 clear hr h1
 rcases B with _ | ad
 ·have hn0 : m = 0 := by
   rcases Nat.eq_zero_or_pos m with h0 | h0
   ·exact h0
   ·obtain ⟨ad, h, _⟩ := HR.out.2 h0; cases h
  subst hn0
  have hl0 : xs = [] := List.eq_nil_of_length_eq_zero (by simpa using HR.out.1)
  have hfin : CloIs 78 7 0 xs w (.returned (.slice none 0 0)) w := ⟨_, _, rfl, by rw [hl0]; exact World.ownsRow_nil _ _ _ _, Below.refl _ _⟩
  have HF := h! hfin; clear hfin hl0
  have hnil : ∀ W, (binOp .eql 37 (.slice none 0 d) (.slice none 0 0)).run Tryz.prog W = .ok (.bool true) W := fun W => Lib.run_eql_slice_nil W _ _ _ _ _ _ _ Tryz.underlying37
  go_enter Tryz.func102, Tryz.ntmps102
  go_wp2_with fail
  go_ret
  exact HF.out
 ·have hown0 : (w.alloc (.cells #[] 78)).ownsRow w.heap.size 78 7 (.slice (some ⟨w.heap.size, 0, none⟩) 0 0) 0 [] := World.ownsRow_made w #[] 0 n! (by unfold maxLen; omega) (by simp)
  have hr0 : RdG (w.alloc (.cells #[] 78)) 7 (some ad) m xs := HR.out.alloc _
  have HO := h! hown0
  have HR0 := h! hr0
  clear hown0 hr0
  have hnil : ∀ W, (binOp .eql 37 (.slice (some ad) m d) (.slice none 0 0)).run Tryz.prog W = .ok (.bool false) W := fun W => Lib.run_eql_slice_nil W _ _ _ _ _ _ _ Tryz.underlying37
  go_enter Tryz.func102, Tryz.ntmps102
  go_wp2_with (at_builtin; refine wpList_append_g _ rfl _ _ 37 rfl w.heap.size 78 i0 _ 7 88 Tryz.underlying37 hi hz0 hz1 hz2 rfl (by omega) _ _ _ rfl HO.out (some ad) m d xs rfl HR0.out H1.out (by unfold maxLen; omega) (by omega) (by simp) ?_; intro v2 w2 hown2 hg2 hob2)
  go_ret
  simp only [Nat.zero_add, List.nil_append] at hown2
  obtain ⟨A', c', rfl, _, _⟩ := own_form hown2
  exact ⟨_, _, rfl, hown2, below_row ((Below.refl _ _).alloc n! _) HO.out (by simp) hg2⟩
theorem cloneN_any (B : Option Addr) (m d : Nat) (xs : List Value) (w : World) (hr : RdG w 1 B m xs) (h1 : ∀ u ∈ xs, u.oneCell' = true) (hm : m ≤ 17592186044416) :
  Calls Tryz.prog 103 #[.slice B m d] w (CloIs 3 1 m xs w) := by
 obtain ⟨i0, hi, hz0, hz1, hz2⟩ := info_parts info_int15
 have HR := h! hr
 have H1 := h! h1
 clear hr h1
 rcases B with _ | ad
 ·have hn0 : m = 0 := by
   rcases Nat.eq_zero_or_pos m with h0 | h0
   ·exact h0
   ·obtain ⟨ad, h, _⟩ := HR.out.2 h0; cases h
  subst hn0
  have hl0 : xs = [] := List.eq_nil_of_length_eq_zero (by simpa using HR.out.1)
  have hfin : CloIs 3 1 0 xs w (.returned (.slice none 0 0)) w := ⟨_, _, rfl, by rw [hl0]; exact World.ownsRow_nil _ _ _ _, Below.refl _ _⟩
  have HF := h! hfin; clear hfin hl0
  have hnil : ∀ W, (binOp .eql 31 (.slice none 0 d) (.slice none 0 0)).run Tryz.prog W = .ok (.bool true) W := fun W => Lib.run_eql_slice_nil W _ _ _ _ _ _ _ Tryz.underlying31
  go_enter Tryz.func103, Tryz.ntmps103
  go_wp2_with fail
  go_ret
  exact HF.out
 ·have hown0 : (w.alloc (.cells #[] 3)).ownsRow w.heap.size 3 1 (.slice (some ⟨w.heap.size, 0, none⟩) 0 0) 0 [] := World.ownsRow_made w #[] 0 n! (by unfold maxLen; omega) (by simp)
  have hr0 : RdG (w.alloc (.cells #[] 3)) 1 (some ad) m xs := HR.out.alloc _
  have HO := h! hown0
  have HR0 := h! hr0
  clear hown0 hr0
  have hnil : ∀ W, (binOp .eql 31 (.slice (some ad) m d) (.slice none 0 0)).run Tryz.prog W = .ok (.bool false) W := fun W => Lib.run_eql_slice_nil W _ _ _ _ _ _ _ Tryz.underlying31
  go_enter Tryz.func103, Tryz.ntmps103
  go_wp2_with (at_builtin; refine wpList_append_g _ rfl _ _ 31 rfl w.heap.size 3 i0 _ 1 8 Tryz.underlying31 hi hz0 hz1 hz2 rfl (by omega) _ _ _ rfl HO.out (some ad) m d xs rfl HR0.out H1.out (by unfold maxLen; omega) (by omega) (by simp) ?_; intro v2 w2 hown2 hg2 hob2)
  go_ret
  simp only [Nat.zero_add, List.nil_append] at hown2
  obtain ⟨A', c', rfl, _, _⟩ := own_form hown2
  exact ⟨_, _, rfl, hown2, below_row ((Below.refl _ _).alloc n! _) HO.out (by simp) hg2⟩
theorem cloneD_any (B : Option Addr) (m d : Nat) (xs : List Value) (w : World) (hr : RdG w 2 B m xs) (h1 : ∀ u ∈ xs, u.oneCell' = true) (hm : m ≤ 4096) :
  Calls Tryz.prog 104 #[.slice B m d] w (CloIs 46 2 m xs w) := by
 obtain ⟨i0, hi, hz0, hz1, hz2⟩ := info_parts info_sp
 have HR := h! hr
 have H1 := h! h1
 clear hr h1
 rcases B with _ | ad
 ·have hn0 : m = 0 := by
   rcases Nat.eq_zero_or_pos m with h0 | h0
   ·exact h0
   ·obtain ⟨ad, h, _⟩ := HR.out.2 h0; cases h
  subst hn0
  have hl0 : xs = [] := List.eq_nil_of_length_eq_zero (by simpa using HR.out.1)
  have hfin : CloIs 46 2 0 xs w (.returned (.slice none 0 0)) w := ⟨_, _, rfl, by rw [hl0]; exact World.ownsRow_nil _ _ _ _, Below.refl _ _⟩
  have HF := h! hfin; clear hfin hl0
  have hnil : ∀ W, (binOp .eql 22 (.slice none 0 d) (.slice none 0 0)).run Tryz.prog W = .ok (.bool true) W := fun W => Lib.run_eql_slice_nil W _ _ _ _ _ _ _ Tryz.underlying22
  go_enter Tryz.func104, Tryz.ntmps104
  go_wp2_with fail
  go_ret
  exact HF.out
 ·have hown0 : (w.alloc (.cells #[] 46)).ownsRow w.heap.size 46 2 (.slice (some ⟨w.heap.size, 0, none⟩) 0 0) 0 [] := World.ownsRow_made w #[] 0 n! (by unfold maxLen; omega) (by simp)
  have hr0 : RdG (w.alloc (.cells #[] 46)) 2 (some ad) m xs := HR.out.alloc _
  have HO := h! hown0
  have HR0 := h! hr0
  clear hown0 hr0
  have hnil : ∀ W, (binOp .eql 22 (.slice (some ad) m d) (.slice none 0 0)).run Tryz.prog W = .ok (.bool false) W := fun W => Lib.run_eql_slice_nil W _ _ _ _ _ _ _ Tryz.underlying22
  go_enter Tryz.func104, Tryz.ntmps104
  go_wp2_with (at_builtin; refine wpList_append_g _ rfl _ _ 22 rfl w.heap.size 46 i0 _ 2 16 Tryz.underlying22 hi hz0 hz1 hz2 rfl (by omega) _ _ _ rfl HO.out (some ad) m d xs rfl HR0.out H1.out (by unfold maxLen; omega) (by omega) (by simp) ?_; intro v2 w2 hown2 hg2 hob2)
  go_ret
  simp only [Nat.zero_add, List.nil_append] at hown2
  obtain ⟨A', c', rfl, _, _⟩ := own_form hown2
  exact ⟨_, _, rfl, hown2, below_row ((Below.refl _ _).alloc n! _) HO.out (by simp) hg2⟩
theorem flat_setrow {es : List (Ex Wt)} {k : Nat} {e : Ex Wt} (h : es[k]? = some e) (A : Option Addr) (c : Nat) : (flat (exc KW) es).set (k * 7 + 1) (.slice A e.x.m.gs.length c) = flat (exc KW) (es.set k ⟨A, c, e.x⟩) :=
 flat_set1 (f := exc KW) (s := 7) (fun a => KW.len _ _ _) h (by omega) rfl
structure TwS (w : World) (b g0 g1 : Nat) (c : Int) (vd : Value) (A1 : Option Addr) (c1 n : Nat) (es0 es : List (Ex Wt)) (k : Nat) (W : World) : Prop where
 bl : Below w.heap.size w W
 lo : b ≤ W.heap.size ∧ g0 ≠ g1 ∧ g0 < b ∧ g1 < b ∧ w.heap.size ≤ g0 ∧ w.heap.size ≤ g1
 bx : Box W g0 39 #[.int .i64 c, .slice A1 n c1, vd]
 br : Box W g1 39 #[.int .i64 0, .slice none 0 0, .slice none 0 0]
 ow : W.ownsRow b 78 7 (.slice A1 n c1) n (flat (exc KW) es)
 ln : es.length = n
 xs : es.map Ex.x = es0.map Ex.x
 nw : ∀ (j : Nat) (e : Ex Wt), j < k → es[j]? = some e → RowGe W b e.A e.c e.x.m.gs
 od : ∀ j : Nat, k ≤ j → es[j]? = es0[j]?
theorem set_same {α : Type} {l : List α} {k : Nat} {a : α} (h : l[k]? = some a) : l.set k a = l := by
 obtain ⟨hl, rfl⟩ := List.getElem?_eq_some_iff.1 h
 exact List.set_getElem_self hl
section
variable {w W W' : World} {b g0 g1 q : Nat} {c : Int} {vd : Value} {A1 : Option Addr} {c1 n k : Nat} {es0 es : List (Ex Wt)}
theorem TwS.below (h : TwS w b g0 g1 c vd A1 c1 n es0 es k W) (hb : Below W.heap.size W W') : TwS w b g0 g1 c vd A1 c1 n es0 es k W' :=
 ⟨bmore h.bl hb n!, ⟨Nat.le_trans h.lo.1 hb.size, h.lo.2⟩, h.bx.below hb h.bx.lt, h.br.below hb h.br.lt, own_below3 h.ow hb, h.ln, h.xs, fun j e hj he => (h.nw j e hj he).below hb, h.od⟩
theorem TwS.next {A' : Option Addr} {c' : Nat} {e : Ex Wt} (h : TwS w b g0 g1 c vd (some ⟨q, 0, none⟩) c1 n es0 es k W) (he : es[k]? = some e) (hb : Below W.heap.size W W') (ho : W'.ownsRow W.heap.size 3 1 (.slice A' e.x.m.gs.length c') e.x.m.gs.length (ic e.x.m.gs)) :
  TwS w b g0 g1 c vd (some ⟨q, 0, none⟩) c1 n es0 (es.set k ⟨A', c', e.x⟩) (k + 1) (W'.setCell ⟨q, k * 7 + 1, none⟩ (.slice A' e.x.m.gs.length c')) := by
 have h' := h.below hb
 obtain ⟨hbq, cur, hc⟩ := own_block h'.ow (show (Value.slice (some ⟨q, 0, none⟩) n c1).ownBlock = some q from rfl)
 have hkp : Kept (fun t => t = 78) W' (W'.setCell ⟨q, k * 7 + 1, none⟩ (.slice A' e.x.m.gs.length c')) := Kept.set (S := fun t => t = 78) hc rfl _
 have hi : ¬ (3 = 78) := by decide
 obtain ⟨_, _, e1, e2, e3⟩ := own_form ho
 injection e1 with e1 e4 e5
 subst e1 e5
 have hne := (h'.ow.stored (k * 7 + 1) (.slice A' e.x.m.gs.length c')).1
 rw [flat_setrow he A' c'] at hne
 have hkl := (List.getElem?_eq_some_iff.1 he).1
 refine ⟨h'.bl.setCell (p := ⟨q, k * 7 + 1, none⟩) (by have h1 := h.lo.2.2.1; have h2 := h.lo.2.2.2.2.1; show _ ≤ q; omega) _, ⟨by have := h'.lo.1; simpa using this, h.lo.2⟩, hkp.box _ _ _ (by decide) h'.bx, hkp.box _ _ _ (by decide) h'.br, hne, by rw [List.length_set]; exact h.ln, ?_, fun j x hj hx => ?_, fun j hj => ?_⟩
 ·rw [List.map_set, ← h.xs]
  have : (es.map Ex.x)[k]? = some e.x := by rw [List.getElem?_map, he]; rfl
  exact set_same this
 ·rcases Nat.lt_or_ge j k with hj2 | hj2
  ·rw [List.getElem?_set_ne (by omega)] at hx
   exact rowGe_kept hkp hi (h'.nw j x hj2 hx)
  ·obtain rfl : j = k := by omega
   rw [List.getElem?_set_self hkl] at hx
   injection hx with hx
   subst hx
   exact rowGe_kept hkp hi ((rowGe_own ho rfl e2 e3).mono h.lo.1)
 ·rw [List.getElem?_set_ne (by omega)]
  exact h.od j (by omega)
theorem TwS.ko (h : TwS w b g0 g1 c vd A1 c1 n es0 es n W) : KO KW W b 78 (.slice A1 n c1) (es0.map Ex.x) := by
 refine ⟨es, h.xs, by rw [h.ln]; exact h.ow, fun e he => ?_⟩
 obtain ⟨j, hj, rfl⟩ := List.getElem_of_mem he
 have hr := h.nw j _ (by have := h.ln; omega) (List.getElem?_eq_getElem hj)
 refine ⟨hr, fun ad ea hn k => ?_⟩
 obtain ⟨g, cur, e1, _, e3, _⟩ := hr.3 hn
 rw [ea] at e1
 injection e1 with e1
 rw [e1] at k
 exact own_ne h.ow e3 (by decide) k.symm
end
theorem ptwin15_any (v : Value) (s : Sk) (w : World) (h : SkIs w v s) (hf1 : s.ws.length ≤ 4096) (hf2 : s.ds.length ≤ 4096) (hf3 : ∀ x ∈ s.ws, x.m.gs.length ≤ 17592186044416) : Calls Tryz.prog 85 #[v] w (SkNew s w) := by
 obtain ⟨A, c, B, d, rfl, r1, d1⟩ := h
 obtain ⟨sc, ws, ds⟩ := s
 simp only at r1 d1 hf1 hf2 hf3
 obtain ⟨es0, rfl, hrd, hln, hnc, hcm, hrow⟩ := r1
 rw [List.length_map] at hrd hln hnc hf1
 obtain ⟨n, hna⟩ : ∃ n, n = es0.length := ⟨_, rfl⟩
 obtain ⟨m, hmb⟩ : ∃ m, m = ds.length := ⟨_, rfl⟩
 unfold vsk
 simp only [List.length_map]
 rw [← hna] at hrd hnc hf1 ⊢
 rw [← hmb] at d1 hf2 ⊢
 have HLA := h! hna
 have HLB := h! hmb
 have HGS := h! hf3
 have HROW := h! hrow
 unfold maxLen at hcm
 clear hna hmb hf3 hln hrow
 have H := h! (fun W (hb : Below w.heap.size w W) => hrd.below hb)
 have HD := h! (fun W (hb : Below w.heap.size w W) => d1.below hb)
 have HB := h! (show Below w.heap.size w ((w.alloc (.cells #[.int .i64 sc, .slice A n c, .slice B m d] 39)).alloc (.cells #[.int .i64 0, .slice none 0 0, .slice none 0 0] 39)) from ((Below.refl _ _).alloc n! _).alloc (by simp) _)
 have X := h! ((Box.new w 39 #[.int .i64 sc, .slice A n c, .slice B m d]).alloc (.cells #[.int .i64 0, .slice none 0 0, .slice none 0 0] 39))
 have Y := h! (Box.new_at (w := w.alloc (.cells #[.int .i64 sc, .slice A n c, .slice B m d] 39)) (t := 39) (cs := #[.int .i64 0, .slice none 0 0, .slice none 0 0]) (w.heap.size + 1) (by simp))
 clear hrd d1
 go_enter Tryz.func85, Tryz.ntmps85
 go_upto_region 1 with (fail)
 generalize (w.alloc (.cells #[.int .i64 sc, .slice A n c, .slice B m d] 39)).alloc (.cells #[.int .i64 0, .slice none 0 0, .slice none 0 0] 39) = w1 at HB X Y ⊢
 have HG1 := h! (show w.heap.size + 1 ≠ w.heap.size ∧ w.heap.size ≤ w.heap.size + 1 from ⟨by omega, by omega⟩)
 obtain ⟨g0, hg0⟩ : ∃ g0, w.heap.size = g0 := ⟨_, rfl⟩
 obtain ⟨g1, hg1⟩ : ∃ g1, g0 + 1 = g1 := ⟨_, rfl⟩
 rw [hg0] at X Y HG1
 simp only [hg0]
 rw [hg1] at Y HG1
 simp only [hg1]
 have HG0 := h! hg0
 clear hg1 hg0
 obtain ⟨x0, x1, x2⟩ := box_sk X.out
 have C1 := h! (cloneW_any A n c (flat (exc KW) es0) w1 (H.out _ HB.out) (exc_one KW es0) hf1)
 go_wp2_with fail
 refine (C1.out).mono ?_
 rintro e w2 ⟨A1, c1, rfl, o1, hb⟩
 clear C1 x0 x1 x2
 have X2 := h! (X.out.below hb X.out.lt)
 have hst : TwS w w1.heap.size g0 g1 sc (.slice B m d) A1 c1 n es0 es0 0 (w2.setCell ⟨g0, 1, none⟩ (.slice A1 n c1)) := by
  have hY2 := Y.out.below hb Y.out.lt
  have hk : Kept (fun t => t = 39) w2 (w2.setCell ⟨g0, 1, none⟩ (.slice A1 n c1)) := Kept.set (S := fun t => t = 39) X2.out rfl _
  have h0 := HG0.out
  refine ⟨(bmore HB.out hb n!).setCell (p := ⟨g0, 1, none⟩) (by show _ ≤ g0; omega) _, ⟨by have := hb.size; simpa using this, Ne.symm HG1.out.1, X.out.lt, Y.out.lt, by omega, by have := HG1.out.2; omega⟩, by have := X2.out.stored 1 (.slice A1 n c1); simpa using this, hY2.far (p := ⟨g0, 1, none⟩) (by exact HG1.out.1) _, hk.own o1 (by decide), HLA.out.symm, rfl, fun j e hj => absurd hj (Nat.not_lt_zero _), fun j _ => rfl⟩
 have HT := h! hst
 obtain ⟨x0, x1, x2, f0, f1, f2⟩ := X2.out.three
 clear hst o1 hb
 go_upto_region 2 with (fail)
 generalize w2.setCell ⟨g0, 1, none⟩ (.slice A1 n c1) = w3 at HT ⊢
 clear x0 x1 x2 f0 f1 f2 X2
 obtain ⟨x0, x1, x2⟩ := box_sk HT.out.bx
 go_wp2_with fail
 clear x0 x1 x2
 go_loopw [12] (fun i wr => ∃ (k : Nat) (es : List (Ex Wt)), k ≤ n ∧ i = .int .i64 k ∧ Hid (TwS w w1.heap.size g0 g1 sc (.slice B m d) A1 c1 n es0 es k wr)) (fun i _ => n - (intOf i).toNat)
 case atStart => exact ⟨0, es0, by omega, rfl, HT⟩
 case round =>
  clear HT
  obtain ⟨k, es, hk, rfl, HT⟩ := hrel
  by_cases hlt : k < n
  ·obtain ⟨e, he⟩ : ∃ e, es[k]? = some e := ⟨_, List.getElem?_eq_getElem (by have := HT.out.ln; omega)⟩
   have he0 : es0[k]? = some e := by rw [← HT.out.od k n!]; exact he
   have HE := h! he
   obtain ⟨q, hA, _, hcell⟩ := own_some HT.out.ow (by omega)
   subst hA
   have CI := h! (cloneN_any e.A e.x.m.gs.length e.c (ic e.x.m.gs) wr (by have := (HROW.out e (List.mem_of_getElem? he0)).below HT.out.bl; exact this.1.g) (ic_one _) (HGS.out e.x (List.mem_map.2 ⟨e, List.mem_of_getElem? he0, rfl⟩)))
   have a1 : wr.cell? ⟨q, k * 7 + 1, none⟩ = some (.slice e.A e.x.m.gs.length e.c) := hcell (k * 7 + 1) _ (by
    have := flat_get (exc_len KW es) he 1 (show 1 < KW.s by decide)
    rw [show KW.s = 7 from rfl] at this
    rw [this]; rfl)
   have hk0 : (0 : Int) ≤ (k : Int) := by omega
   have hkn : (k : Int) < (n : Int) := by omega
   obtain ⟨x0, x1, x2⟩ := box_sk HT.out.bx
   clear he he0 hcell
   go_wp2_with fail
   refine (CI.out).mono ?_
   rintro e1 w4 ⟨A4, c4, rfl, o4, hb4⟩
   have NX := h! (HT.out.next HE.out hb4 o4)
   have h4 := HT.out.below hb4
   obtain ⟨_, cur, hc⟩ := own_block h4.ow (show (Value.slice (some ⟨q, 0, none⟩) n c1).ownBlock = some q from rfl)
   have hfz := hc.frozen (k * 7 + 1)
   have hc1 : w4.cell? ⟨q, k * 7 + 1, none⟩ = some (.slice e.A e.x.m.gs.length e.c) := by
    rw [hb4.cell (p := ⟨q, k * 7 + 1, none⟩) (cell_block a1)]
    exact a1
   clear a1 x0 x1 x2 CI o4 hb4 h4 hc
   go_wp2_with fail
   go_roundw
   case rel => exact ⟨k + 1, _, by omega, by go_num, NX⟩
   case measure => simp [intOf]; omega
  ·have hkn : k = n := by omega
   subst hkn
   have HK := h! HT.out.ko
   have CD := h! (cloneD_any B m d (flat spc ds) wr (HD.out _ HT.out.bl).1 (one_flat spc_one _) hf2)
   obtain ⟨x0, x1, x2⟩ := box_sk HT.out.bx
   go_wp2_with fail
   refine (CD.out).mono ?_
   rintro e w5 ⟨A5, c5, rfl, o5, hb5⟩
   clear x0 x1 x2 CD
   have h5 := HT.out.below hb5
   have O5 := h! o5
   have HK5 := h! (HK.out.below hb5)
   have H5 := h! h5
   have HS5 := h! (Nat.le_trans HT.out.lo.1 hb5.size)
   have HSR := h! HT.out.lo.1
   clear h5 o5 hb5 HK HT
   obtain ⟨x0, x1, x2, f0, f1, f2⟩ := H5.out.bx.three
   obtain ⟨y0, y1, y2, e0, e1, e2⟩ := H5.out.br.three
   have hne : g0 ≠ g1 := H5.out.lo.2.1
   have hne2 : g1 ≠ g0 := Ne.symm hne
   have KP0 := h! (Kept.set (S := fun t => t = 39) H5.out.bx rfl (i := 2) (.slice A5 m c5))
   have BR := h! (H5.out.br.far (p := ⟨g0, 2, none⟩) (by exact hne2) (.slice A5 m c5))
   have KP1 := h! (kept_put3 BR.out (.int .i64 sc) (.slice A1 k c1) (.slice A5 m c5))
   have ZP := h! (Box.put3 BR.out (.int .i64 sc) (.slice A1 k c1) (.slice A5 m c5))
   have ZL := h! (below_put3 (H5.out.bl.setCell (p := ⟨g0, 2, none⟩) (by exact H5.out.lo.2.2.2.2.1) (.slice A5 m c5)) H5.out.lo.2.2.2.2.2 (.int .i64 sc) (.slice A1 k c1) (.slice A5 m c5))
   have HSO := h! (show SkO ((((w5.setCell ⟨g0, 2, none⟩ (.slice A5 m c5)).setCell ⟨g1, 0, none⟩ (.int .i64 sc)).setCell ⟨g1, 1, none⟩ (.slice A1 k c1)).setCell ⟨g1, 2, none⟩ (.slice A5 m c5)) w.heap.size (vsk sc (.slice A1 k c1) (.slice A5 m c5)) ⟨sc, es0.map Ex.x, ds⟩ from by
    have hlw : w.heap.size ≤ w1.heap.size := by have := H5.out.lo; omega
    exact ⟨_, _, rfl, KO.mono (KO.kept KP1.out (by decide) (by decide) (KO.kept KP0.out (by decide) (by decide) HK5.out)) hlw, by
     have h1 := KP1.out.own (KP0.out.own O5.out (by decide)) (by decide)
     have h2 := own_base h1 (Nat.le_trans hlw HSR.out)
     rw [HLB.out] at h2 ⊢
     exact h2⟩)
   unfold vsk at HSO
   go_wp2_with fail
   obtain ⟨u0, u1, u2⟩ := box_sk ZP.out
   exact bodyPost_ret (v := .agg #[.int .i64 sc, .slice A1 k c1, .slice A5 m c5]) (by simp [results, Tryz.results85, go_sem, u0, u1, u2]; try rfl) rfl ⟨_, rfl, HSO.out, ZL.out⟩
end KP
namespace KP
open Go.RowKit CP TP
open CM (Mg Cm)
open TM (Sp)
open KM (Wt Sk)
open Go.Lib Go.Shelf
theorem run_clear_s {P : Program} (w : World) (t e ty : TypeId) (z : Value) (s : Nat) (ht : P.underlying t = some (.slice e)) (hv : ∀ w, (zeroValue e).run P w = .ok z w) (hz : z.cells.size = s) (hs : 0 < s) (h1 : ∀ v ∈ z.cells, v.oneCell' = true) (b o n c : Nat) (hn : 0 < n)
  (hc : ∀ j, j < n * s → (w.cell? ⟨b, o + j, none⟩).isSome = true) (hf : ∀ j, j < n * s → w.frozen? ⟨b, o + j, none⟩ = false) :
  ∃ zs : List Value, zs.length = n * s ∧ (Builtin.clear_ #[t] ty #[.slice (some ⟨b, o, none⟩) n c]).run P w = .ok (.tuple #[]) (w.setCells b o zs) := by
 have hl : (Builtin.zeroCells z.cells n).toList.length = n * s := by simp [Builtin.zeroCells, hz]
 have hone : ∀ v ∈ (Builtin.zeroCells z.cells n).toList, v.oneCell' = true := by
  intro v hv'
  simp only [Builtin.zeroCells, Array.toList_map, List.mem_map] at hv'
  obtain ⟨i, _, rfl⟩ := hv'
  have hlt : i % z.cells.size < z.cells.size := Nat.mod_lt _ (by omega)
  rw [getElem!_pos z.cells _ hlt]
  exact h1 _ (Array.getElem_mem hlt)
 have hst := run_storeCells_cells (P := P) b o (Builtin.zeroCells z.cells n).toList 0 w (by rw [hl]; simpa using hc) (by rw [hl]; simpa using hf) hone
 simp only [Nat.add_zero] at hst
 obtain ⟨m, rfl⟩ : ∃ m, n = m + 1 := ⟨n - 1, by omega⟩
 refine ⟨_, hl, ?_⟩
 simp [Builtin.clear_, run_underlying ht, hv, hst]
def RowQ (base m : Nat) (xs : List Value) (ob : Option Nat) (w : World) (x : Ending) (w' : World) : Prop :=
 ∃ A c, x = .returned (.slice A m c) ∧ w'.ownsRow base 78 7 (.slice A m c) m xs ∧ w.grownBy w' ob
theorem zero_wait (w : World) : (zeroValue 78).run Tryz.prog w = .ok (.agg #[.int .i64 0, .slice none 0 0, .int .i64 0, .string ⟨#[]⟩, .string ⟨#[]⟩, .int .i64 0, .bool false]) w := by
 obtain ⟨i0, hi, hz0, hz1, hz2⟩ := info_parts info_wt
 simp [zeroValue, typeInfo, hi, hz0]
theorem delW_any (base b n c i : Nat) (xs : List Value) (cur : Array Value) (w : World) (hi : i < n) (hn : n ≤ 2000) (hnc : n ≤ c) (hcm : c ≤ maxLen)
  (hbase : base ≤ b) (hx : Box w b 78 cur) (hsz : cur.size = c * 7) (htk : cur.toList.take (n * 7) = xs) (hl : xs.length = n * 7) (h1 : ∀ u ∈ xs, u.oneCell' = true) :
  Calls Tryz.prog 139 #[.slice (some ⟨b, 0, none⟩) n c, .int .i64 i, .int .i64 ((i : Int) + 1)] w (RowQ base (n - 1) (xs.take (i * 7) ++ xs.drop ((i + 1) * 7)) (some b) w) := by
 obtain ⟨i0, hi0, hz0, hz1, hz2⟩ := info_parts info_wt
 unfold maxLen at hcm
 have hxc : ∀ j v, xs[j]? = some v → w.cell? ⟨b, j, none⟩ = some v := by
  intro j v hj
  have hjl := (List.getElem?_eq_some_iff.1 hj).1
  rw [hx.cell j, ← Array.getElem?_toList, ← hj, ← htk, List.getElem?_take, if_pos (by omega)]
 obtain ⟨news, hnews⟩ : ∃ news, news = xs.drop ((i + 1) * 7) := ⟨_, rfl⟩
 have hdl : news.length = (n - (i + 1)) * 7 := by rw [hnews, List.length_drop, hl]; omega
 obtain ⟨A, hA, hsrc⟩ : ∃ A : Addr, (if c = i + 1 then (some ⟨b, 0, none⟩ : Option Addr) else some ⟨b, (i + 1) * 7, none⟩) = some A ∧ Hid (∀ t u, news[t]? = some u → w.drew.cell? (A.add t) = some u) := by
  by_cases h : c = i + 1
  ·refine ⟨⟨b, 0, none⟩, by simp [h], fun t u hu => ?_⟩
   have h0 : news.length = 0 := by rw [hdl]; have : n - (i + 1) = 0 := (by omega); rw [this]
   rw [List.length_eq_zero_iff.1 h0] at hu
   simp at hu
  ·refine ⟨⟨b, (i + 1) * 7, none⟩, by simp [h], fun t u hu => ?_⟩
   rw [Addr.add_lit]
   exact hxc _ u (by rw [hnews, List.getElem?_drop] at hu; simpa using hu)
 have s1 := h! hdl
 have s2 := h! (show ∀ u ∈ news, u.oneCell' = true from fun u hu => h1 u (List.mem_of_mem_drop (by rw [hnews] at hu; exact hu)))
 have s3 := h! (show ∀ t, t < news.length → (w.drew.cell? ⟨b, 0 + i * 7 + t, none⟩).isSome = true ∧ w.drew.frozen? ⟨b, 0 + i * 7 + t, none⟩ = false from fun t ht =>
  ⟨Box.isSome (w := w.drew) hx (by rw [hdl] at ht; omega), Box.frozen (w := w.drew) hx _⟩)
 obtain ⟨cu1, bx1, e1⟩ := box_setCells news (0 + i * 7) w.drew cur hx (by rw [hdl, hsz]; omega)
 have g1 := grown_setCells b news (0 + i * 7) w.drew
 obtain ⟨W1, hW1⟩ : ∃ W1, W1 = w.drew.setCells b (0 + i * 7) news := ⟨_, rfl⟩
 have HW := h! hW1
 rw [← hW1] at bx1 g1
 clear hW1
 have hsz1 : cu1.size = cur.size := by rw [← Array.length_toList, e1]; simp [hdl]; omega
 have hm : i + (n - (i + 1)) = n - 1 := by omega
 obtain ⟨zs, hzl, hclr⟩ := run_clear_s (P := Tryz.prog) W1 37 78 37 _ 7 Tryz.underlying37 zero_wait rfl (by omega) (by decide) b ((n - 1) * 7) (n - (n - 1)) (c - (n - 1)) (by omega)
  (fun j hj => bx1.isSome (by rw [hsz1, hsz]; omega)) (fun j hj => bx1.frozen _)
 have hcl : ∀ ty, (Builtin.clear_ #[37] ty #[.slice (some ⟨b, (n - 1) * 7, none⟩) (n - (n - 1)) (c - (n - 1))]).run Tryz.prog W1 = .ok (.tuple #[]) (W1.setCells b ((n - 1) * 7) zs) := fun ty => hclr
 obtain ⟨cu2, bx2, e2⟩ := box_setCells zs ((n - 1) * 7) W1 cu1 bx1 (by rw [hzl, hsz1, hsz]; omega)
 have g2 := grown_setCells b zs ((n - 1) * 7) W1
 have hfin : cu2.toList.take ((n - 1) * 7) = xs.take (i * 7) ++ news ∧ cu2.size = c * 7 := by
  have hc1 : cu1.toList.length = c * 7 := by rw [Array.length_toList, hsz1, hsz]
  have hc0 : cur.toList.length = c * 7 := by rw [Array.length_toList, hsz]
  constructor
  ·rw [e2, List.append_assoc, List.take_append_of_le_length (by rw [List.length_take, hc1]; omega), List.take_take, Nat.min_eq_left (by omega), e1, List.take_append_of_le_length (by simp [hc0, hdl]; omega),
    List.take_of_length_le (by simp [hc0, hdl]; omega), ← htk, List.take_take, Nat.min_eq_left (by omega), Nat.zero_add]
  ·rw [← Array.length_toList, e2]; simp [hc1, hzl]; omega
 have hret : RowQ base (n - 1) (xs.take (i * 7) ++ news) (some b) w (.returned (.slice (some ⟨b, 0, none⟩) (n - 1) c)) (W1.setCells b ((n - 1) * 7) zs) := by
  exact ⟨some ⟨b, 0, none⟩, c, rfl, ⟨by simp [hl, hdl]; omega, .inr ⟨b, c, cu2, rfl, hbase, bx2, by omega, by unfold maxLen; omega, hfin.2, hfin.1⟩⟩, grown_more (a := w) ⟨g1.os, g1.tape, g1.output, g1.size, g1.block⟩ g2 (.inl rfl)⟩
 have HRET := h! hret
 rw [← hnews]
 have hic : i ≤ c := by omega
 have hin : i ≤ n := by omega
 have hjc : i + 1 ≤ c := by omega
 have hjn : i + 1 ≤ n := by omega
 have htn : ((i : Int) + 1).toNat = i + 1 := by omega
 have hne : ¬ ((i : Int) = (i : Int) + 1) := by omega
 have hne2 : ((i : Int) == (i : Int) + 1) = false := by simp; omega
 have k1 : (0 : Int) ≤ (i : Int) + 1 := by omega
 have k2 : (i : Int) ≤ (i : Int) + 1 := by omega
 have k3 : (i : Int) + 1 ≤ (n : Int) := by omega
 have k4 : (i : Int) + 1 ≤ (c : Int) := by omega
 have k5 : (n : Int) ≤ (c : Int) := by omega
 have mixed : Tryz.prog.follows Departure.mixedOrders = true := by kernel_rfl
 clear hret hfin bx2 g2 e2 e1 bx1 g1 hsz1 hx hsz htk hxc hdl hnews hclr hzl hl h1
 go_enter Tryz.func139, Tryz.ntmps139
 go_wp2_with fail
 go_region_law_o (refine step_append_room rfl (.tmp 22) (.tmp 25) 37 rfl 78 i0 7 Tryz.underlying37 hi0 hz1 b 0 i c (by simp [Act.eval, Act.put]) A (n - (i + 1)) (c - (i + 1)) news (by simp [Act.eval, Act.put]) s1.out hsrc.out s2.out (by omega) s3.out ?_; rw [← HW.out])
 go_wp2_with fail
 go_ret
 exact HRET.out
end KP
end Go.Proofs.YteebeiaokfenmaaGreat
