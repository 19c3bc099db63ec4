/- Contracts of functions, L12: each as its theorem says. -/
import Derived.Test.YteebeiaokfenmaaGreatL11
import Derived.Lib.SliceRun
import Derived.Test.YteebeiaokfenmaaGreatL06
set_option linter.unusedVariables false
set_option linter.unusedSimpArgs false
set_option maxRecDepth 100000
set_option maxHeartbeats 16000000
namespace Go.Proofs.YteebeiaokfenmaaGreat
namespace KP
open Go.RowKit CP TP
open CM (Mg Cm)
open TM (Sp)
open KM (Wt Sk)
def CloIs (T : TypeId) (s n : Nat) (xs : List Value) (w : World) (x : Ending) (w' : World) : Prop := ∃ A c, x = .returned (.slice A n c) ∧ w'.ownsRow w.heap.size T s (.slice A n c) n xs ∧ Below w.heap.size w w'
theorem cloneW_any (B : Option Addr) (m d : Nat) (xs : List Value) (w : World) (hr : RdG w 7 B m xs) (h1 : ∀ u ∈ xs, u.oneCell' = true) (hm : m ≤ 4096) :
  Calls Tryz.prog 102 #[.slice B m d] w (CloIs 78 7 m xs w) := by
 obtain ⟨i0, hi, hz0, hz1, hz2⟩ := info_parts info_wt
 have HR := h! hr
 have H1 := h! h1
 clear hr h1
 rcases B with _ | ad
 ·have hn0 : m = 0 := by
   rcases Nat.eq_zero_or_pos m with h0 | h0
   ·exact h0
   ·obtain ⟨ad, h, _⟩ := HR.out.2 h0; cases h
  subst hn0
  have hl0 : xs = [] := List.eq_nil_of_length_eq_zero (by simpa using HR.out.1)
  have hfin : CloIs 78 7 0 xs w (.returned (.slice none 0 0)) w := ⟨_, _, rfl, by rw [hl0]; exact World.ownsRow_nil _ _ _ _, Below.refl _ _⟩
  have HF := h! hfin; clear hfin hl0
  have hnil : ∀ W, (binOp .eql 37 (.slice none 0 d) (.slice none 0 0)).run Tryz.prog W = .ok (.bool true) W := fun W => Lib.run_eql_slice_nil W _ _ _ _ _ _ _ Tryz.underlying37
  go_enter Tryz.func102, Tryz.ntmps102
  go_wp2_with fail
  go_ret
  exact HF.out
 ·have hown0 : (w.alloc (.cells #[] 78)).ownsRow w.heap.size 78 7 (.slice (some ⟨w.heap.size, 0, none⟩) 0 0) 0 [] := World.ownsRow_made w #[] 0 n! (by unfold maxLen; omega) (by simp)
  have hr0 : RdG (w.alloc (.cells #[] 78)) 7 (some ad) m xs := HR.out.alloc _
  have HO := h! hown0
  have HR0 := h! hr0
  clear hown0 hr0
  have hnil : ∀ W, (binOp .eql 37 (.slice (some ad) m d) (.slice none 0 0)).run Tryz.prog W = .ok (.bool false) W := fun W => Lib.run_eql_slice_nil W _ _ _ _ _ _ _ Tryz.underlying37
  go_enter Tryz.func102, Tryz.ntmps102
  go_wp2_with (at_builtin; refine wpList_append_g _ rfl _ _ 37 rfl w.heap.size 78 i0 _ 7 88 Tryz.underlying37 hi hz0 hz1 hz2 rfl (by omega) _ _ _ rfl HO.out (some ad) m d xs rfl HR0.out H1.out (by unfold maxLen; omega) (by omega) (by simp) ?_; intro v2 w2 hown2 hg2 hob2)
  go_ret
  simp only [Nat.zero_add, List.nil_append] at hown2
  obtain ⟨A', c', rfl, _, _⟩ := own_form hown2
  exact ⟨_, _, rfl, hown2, below_row ((Below.refl _ _).alloc n! _) HO.out (by simp) hg2⟩
theorem cloneN_any (B : Option Addr) (m d : Nat) (xs : List Value) (w : World) (hr : RdG w 1 B m xs) (h1 : ∀ u ∈ xs, u.oneCell' = true) (hm : m ≤ 17592186044416) :
  Calls Tryz.prog 103 #[.slice B m d] w (CloIs 3 1 m xs w) := by
 obtain ⟨i0, hi, hz0, hz1, hz2⟩ := info_parts info_int15
 have HR := h! hr
 have H1 := h! h1
 clear hr h1
 rcases B with _ | ad
 ·have hn0 : m = 0 := by
   rcases Nat.eq_zero_or_pos m with h0 | h0
   ·exact h0
   ·obtain ⟨ad, h, _⟩ := HR.out.2 h0; cases h
  subst hn0
  have hl0 : xs = [] := List.eq_nil_of_length_eq_zero (by simpa using HR.out.1)
  have hfin : CloIs 3 1 0 xs w (.returned (.slice none 0 0)) w := ⟨_, _, rfl, by rw [hl0]; exact World.ownsRow_nil _ _ _ _, Below.refl _ _⟩
  have HF := h! hfin; clear hfin hl0
  have hnil : ∀ W, (binOp .eql 31 (.slice none 0 d) (.slice none 0 0)).run Tryz.prog W = .ok (.bool true) W := fun W => Lib.run_eql_slice_nil W _ _ _ _ _ _ _ Tryz.underlying31
  go_enter Tryz.func103, Tryz.ntmps103
  go_wp2_with fail
  go_ret
  exact HF.out
 ·have hown0 : (w.alloc (.cells #[] 3)).ownsRow w.heap.size 3 1 (.slice (some ⟨w.heap.size, 0, none⟩) 0 0) 0 [] := World.ownsRow_made w #[] 0 n! (by unfold maxLen; omega) (by simp)
  have hr0 : RdG (w.alloc (.cells #[] 3)) 1 (some ad) m xs := HR.out.alloc _
  have HO := h! hown0
  have HR0 := h! hr0
  clear hown0 hr0
  have hnil : ∀ W, (binOp .eql 31 (.slice (some ad) m d) (.slice none 0 0)).run Tryz.prog W = .ok (.bool false) W := fun W => Lib.run_eql_slice_nil W _ _ _ _ _ _ _ Tryz.underlying31
  go_enter Tryz.func103, Tryz.ntmps103
  go_wp2_with (at_builtin; refine wpList_append_g _ rfl _ _ 31 rfl w.heap.size 3 i0 _ 1 8 Tryz.underlying31 hi hz0 hz1 hz2 rfl (by omega) _ _ _ rfl HO.out (some ad) m d xs rfl HR0.out H1.out (by unfold maxLen; omega) (by omega) (by simp) ?_; intro v2 w2 hown2 hg2 hob2)
  go_ret
  simp only [Nat.zero_add, List.nil_append] at hown2
  obtain ⟨A', c', rfl, _, _⟩ := own_form hown2
  exact ⟨_, _, rfl, hown2, below_row ((Below.refl _ _).alloc n! _) HO.out (by simp) hg2⟩
theorem cloneD_any (B : Option Addr) (m d : Nat) (xs : List Value) (w : World) (hr : RdG w 2 B m xs) (h1 : ∀ u ∈ xs, u.oneCell' = true) (hm : m ≤ 4096) :
  Calls Tryz.prog 104 #[.slice B m d] w (CloIs 46 2 m xs w) := by
 obtain ⟨i0, hi, hz0, hz1, hz2⟩ := info_parts info_sp
 have HR := h! hr
 have H1 := h! h1
 clear hr h1
 rcases B with _ | ad
 ·have hn0 : m = 0 := by
   rcases Nat.eq_zero_or_pos m with h0 | h0
   ·exact h0
   ·obtain ⟨ad, h, _⟩ := HR.out.2 h0; cases h
  subst hn0
  have hl0 : xs = [] := List.eq_nil_of_length_eq_zero (by simpa using HR.out.1)
  have hfin : CloIs 46 2 0 xs w (.returned (.slice none 0 0)) w := ⟨_, _, rfl, by rw [hl0]; exact World.ownsRow_nil _ _ _ _, Below.refl _ _⟩
  have HF := h! hfin; clear hfin hl0
  have hnil : ∀ W, (binOp .eql 22 (.slice none 0 d) (.slice none 0 0)).run Tryz.prog W = .ok (.bool true) W := fun W => Lib.run_eql_slice_nil W _ _ _ _ _ _ _ Tryz.underlying22
  go_enter Tryz.func104, Tryz.ntmps104
  go_wp2_with fail
  go_ret
  exact HF.out
 ·have hown0 : (w.alloc (.cells #[] 46)).ownsRow w.heap.size 46 2 (.slice (some ⟨w.heap.size, 0, none⟩) 0 0) 0 [] := World.ownsRow_made w #[] 0 n! (by unfold maxLen; omega) (by simp)
  have hr0 : RdG (w.alloc (.cells #[] 46)) 2 (some ad) m xs := HR.out.alloc _
  have HO := h! hown0
  have HR0 := h! hr0
  clear hown0 hr0
  have hnil : ∀ W, (binOp .eql 22 (.slice (some ad) m d) (.slice none 0 0)).run Tryz.prog W = .ok (.bool false) W := fun W => Lib.run_eql_slice_nil W _ _ _ _ _ _ _ Tryz.underlying22
  go_enter Tryz.func104, Tryz.ntmps104
  go_wp2_with (at_builtin; refine wpList_append_g _ rfl _ _ 22 rfl w.heap.size 46 i0 _ 2 16 Tryz.underlying22 hi hz0 hz1 hz2 rfl (by omega) _ _ _ rfl HO.out (some ad) m d xs rfl HR0.out H1.out (by unfold maxLen; omega) (by omega) (by simp) ?_; intro v2 w2 hown2 hg2 hob2)
  go_ret
  simp only [Nat.zero_add, List.nil_append] at hown2
  obtain ⟨A', c', rfl, _, _⟩ := own_form hown2
  exact ⟨_, _, rfl, hown2, below_row ((Below.refl _ _).alloc n! _) HO.out (by simp) hg2⟩
theorem flat_setrow {es : List (Ex Wt)} {k : Nat} {e : Ex Wt} (h : es[k]? = some e) (A : Option Addr) (c : Nat) : (flat (exc KW) es).set (k * 7 + 1) (.slice A e.x.m.gs.length c) = flat (exc KW) (es.set k ⟨A, c, e.x⟩) :=
 flat_set1 (f := exc KW) (s := 7) (fun a => KW.len _ _ _) h (by omega) rfl
structure TwS (w : World) (b g0 g1 : Nat) (c : Int) (vd : Value) (A1 : Option Addr) (c1 n : Nat) (es0 es : List (Ex Wt)) (k : Nat) (W : World) : Prop where
 bl : Below w.heap.size w W
 lo : b ≤ W.heap.size ∧ g0 ≠ g1 ∧ g0 < b ∧ g1 < b ∧ w.heap.size ≤ g0 ∧ w.heap.size ≤ g1
 bx : Box W g0 39 #[.int .i64 c, .slice A1 n c1, vd]
 br : Box W g1 39 #[.int .i64 0, .slice none 0 0, .slice none 0 0]
 ow : W.ownsRow b 78 7 (.slice A1 n c1) n (flat (exc KW) es)
 ln : es.length = n
 xs : es.map Ex.x = es0.map Ex.x
 nw : ∀ (j : Nat) (e : Ex Wt), j < k → es[j]? = some e → RowGe W b e.A e.c e.x.m.gs
 od : ∀ j : Nat, k ≤ j → es[j]? = es0[j]?
theorem set_same {α : Type} {l : List α} {k : Nat} {a : α} (h : l[k]? = some a) : l.set k a = l := by
 obtain ⟨hl, rfl⟩ := List.getElem?_eq_some_iff.1 h
 exact List.set_getElem_self hl
section
variable {w W W' : World} {b g0 g1 q : Nat} {c : Int} {vd : Value} {A1 : Option Addr} {c1 n k : Nat} {es0 es : List (Ex Wt)}
theorem TwS.below (h : TwS w b g0 g1 c vd A1 c1 n es0 es k W) (hb : Below W.heap.size W W') : TwS w b g0 g1 c vd A1 c1 n es0 es k W' :=
 ⟨bmore h.bl hb n!, ⟨Nat.le_trans h.lo.1 hb.size, h.lo.2⟩, h.bx.below hb h.bx.lt, h.br.below hb h.br.lt, own_below3 h.ow hb, h.ln, h.xs, fun j e hj he => (h.nw j e hj he).below hb, h.od⟩
theorem TwS.next {A' : Option Addr} {c' : Nat} {e : Ex Wt} (h : TwS w b g0 g1 c vd (some ⟨q, 0, none⟩) c1 n es0 es k W) (he : es[k]? = some e) (hb : Below W.heap.size W W') (ho : W'.ownsRow W.heap.size 3 1 (.slice A' e.x.m.gs.length c') e.x.m.gs.length (ic e.x.m.gs)) :
  TwS w b g0 g1 c vd (some ⟨q, 0, none⟩) c1 n es0 (es.set k ⟨A', c', e.x⟩) (k + 1) (W'.setCell ⟨q, k * 7 + 1, none⟩ (.slice A' e.x.m.gs.length c')) := by
 have h' := h.below hb
 obtain ⟨hbq, cur, hc⟩ := own_block h'.ow (show (Value.slice (some ⟨q, 0, none⟩) n c1).ownBlock = some q from rfl)
 have hkp : Kept (fun t => t = 78) W' (W'.setCell ⟨q, k * 7 + 1, none⟩ (.slice A' e.x.m.gs.length c')) := Kept.set (S := fun t => t = 78) hc rfl _
 have hi : ¬ (3 = 78) := by decide
 obtain ⟨_, _, e1, e2, e3⟩ := own_form ho
 injection e1 with e1 e4 e5
 subst e1 e5
 have hne := (h'.ow.stored (k * 7 + 1) (.slice A' e.x.m.gs.length c')).1
 rw [flat_setrow he A' c'] at hne
 have hkl := (List.getElem?_eq_some_iff.1 he).1
 refine ⟨h'.bl.setCell (p := ⟨q, k * 7 + 1, none⟩) (by have h1 := h.lo.2.2.1; have h2 := h.lo.2.2.2.2.1; show _ ≤ q; omega) _, ⟨by have := h'.lo.1; simpa using this, h.lo.2⟩, hkp.box _ _ _ (by decide) h'.bx, hkp.box _ _ _ (by decide) h'.br, hne, by rw [List.length_set]; exact h.ln, ?_, fun j x hj hx => ?_, fun j hj => ?_⟩
 ·rw [List.map_set, ← h.xs]
  have : (es.map Ex.x)[k]? = some e.x := by rw [List.getElem?_map, he]; rfl
  exact set_same this
 ·rcases Nat.lt_or_ge j k with hj2 | hj2
  ·rw [List.getElem?_set_ne (by omega)] at hx
   exact rowGe_kept hkp hi (h'.nw j x hj2 hx)
  ·obtain rfl : j = k := by omega
   rw [List.getElem?_set_self hkl] at hx
   injection hx with hx
   subst hx
   exact rowGe_kept hkp hi ((rowGe_own ho rfl e2 e3).mono h.lo.1)
 ·rw [List.getElem?_set_ne (by omega)]
  exact h.od j (by omega)
theorem TwS.ko (h : TwS w b g0 g1 c vd A1 c1 n es0 es n W) : KO KW W b 78 (.slice A1 n c1) (es0.map Ex.x) := by
 refine ⟨es, h.xs, by rw [h.ln]; exact h.ow, fun e he => ?_⟩
 obtain ⟨j, hj, rfl⟩ := List.getElem_of_mem he
 have hr := h.nw j _ (by have := h.ln; omega) (List.getElem?_eq_getElem hj)
 refine ⟨hr, fun ad ea hn k => ?_⟩
 obtain ⟨g, cur, e1, _, e3, _⟩ := hr.3 hn
 rw [ea] at e1
 injection e1 with e1
 rw [e1] at k
 exact own_ne h.ow e3 (by decide) k.symm
end
theorem ptwin15_any (v : Value) (s : Sk) (w : World) (h : SkIs w v s) (hf1 : s.ws.length ≤ 4096) (hf2 : s.ds.length ≤ 4096) (hf3 : ∀ x ∈ s.ws, x.m.gs.length ≤ 17592186044416) : Calls Tryz.prog 85 #[v] w (SkNew s w) := by
 obtain ⟨A, c, B, d, rfl, r1, d1⟩ := h
 obtain ⟨sc, ws, ds⟩ := s
 simp only at r1 d1 hf1 hf2 hf3
 obtain ⟨es0, rfl, hrd, hln, hnc, hcm, hrow⟩ := r1
 rw [List.length_map] at hrd hln hnc hf1
 obtain ⟨n, hna⟩ : ∃ n, n = es0.length := ⟨_, rfl⟩
 obtain ⟨m, hmb⟩ : ∃ m, m = ds.length := ⟨_, rfl⟩
 unfold vsk
 simp only [List.length_map]
 rw [← hna] at hrd hnc hf1 ⊢
 rw [← hmb] at d1 hf2 ⊢
 have HLA := h! hna
 have HLB := h! hmb
 have HGS := h! hf3
 have HROW := h! hrow
 unfold maxLen at hcm
 clear hna hmb hf3 hln hrow
 have H := h! (fun W (hb : Below w.heap.size w W) => hrd.below hb)
 have HD := h! (fun W (hb : Below w.heap.size w W) => d1.below hb)
 have HB := h! (show Below w.heap.size w ((w.alloc (.cells #[.int .i64 sc, .slice A n c, .slice B m d] 39)).alloc (.cells #[.int .i64 0, .slice none 0 0, .slice none 0 0] 39)) from ((Below.refl _ _).alloc n! _).alloc (by simp) _)
 have X := h! ((Box.new w 39 #[.int .i64 sc, .slice A n c, .slice B m d]).alloc (.cells #[.int .i64 0, .slice none 0 0, .slice none 0 0] 39))
 have Y := h! (Box.new_at (w := w.alloc (.cells #[.int .i64 sc, .slice A n c, .slice B m d] 39)) (t := 39) (cs := #[.int .i64 0, .slice none 0 0, .slice none 0 0]) (w.heap.size + 1) (by simp))
 clear hrd d1
 go_enter Tryz.func85, Tryz.ntmps85
 go_upto_region 1 with (fail)
 generalize (w.alloc (.cells #[.int .i64 sc, .slice A n c, .slice B m d] 39)).alloc (.cells #[.int .i64 0, .slice none 0 0, .slice none 0 0] 39) = w1 at HB X Y ⊢
 have HG1 := h! (show w.heap.size + 1 ≠ w.heap.size ∧ w.heap.size ≤ w.heap.size + 1 from ⟨by omega, by omega⟩)
 obtain ⟨g0, hg0⟩ : ∃ g0, w.heap.size = g0 := ⟨_, rfl⟩
 obtain ⟨g1, hg1⟩ : ∃ g1, g0 + 1 = g1 := ⟨_, rfl⟩
 rw [hg0] at X Y HG1
 simp only [hg0]
 rw [hg1] at Y HG1
 simp only [hg1]
 have HG0 := h! hg0
 clear hg1 hg0
 obtain ⟨x0, x1, x2⟩ := box_sk X.out
 have C1 := h! (cloneW_any A n c (flat (exc KW) es0) w1 (H.out _ HB.out) (exc_one KW es0) hf1)
 go_wp2_with fail
 refine (C1.out).mono ?_
 rintro e w2 ⟨A1, c1, rfl, o1, hb⟩
 clear C1 x0 x1 x2
 have X2 := h! (X.out.below hb X.out.lt)
 have hst : TwS w w1.heap.size g0 g1 sc (.slice B m d) A1 c1 n es0 es0 0 (w2.setCell ⟨g0, 1, none⟩ (.slice A1 n c1)) := by
  have hY2 := Y.out.below hb Y.out.lt
  have hk : Kept (fun t => t = 39) w2 (w2.setCell ⟨g0, 1, none⟩ (.slice A1 n c1)) := Kept.set (S := fun t => t = 39) X2.out rfl _
  have h0 := HG0.out
  refine ⟨(bmore HB.out hb n!).setCell (p := ⟨g0, 1, none⟩) (by show _ ≤ g0; omega) _, ⟨by have := hb.size; simpa using this, Ne.symm HG1.out.1, X.out.lt, Y.out.lt, by omega, by have := HG1.out.2; omega⟩, by have := X2.out.stored 1 (.slice A1 n c1); simpa using this, hY2.far (p := ⟨g0, 1, none⟩) (by exact HG1.out.1) _, hk.own o1 (by decide), HLA.out.symm, rfl, fun j e hj => absurd hj (Nat.not_lt_zero _), fun j _ => rfl⟩
 have HT := h! hst
 obtain ⟨x0, x1, x2, f0, f1, f2⟩ := X2.out.three
 clear hst o1 hb
 go_upto_region 2 with (fail)
 generalize w2.setCell ⟨g0, 1, none⟩ (.slice A1 n c1) = w3 at HT ⊢
 clear x0 x1 x2 f0 f1 f2 X2
 obtain ⟨x0, x1, x2⟩ := box_sk HT.out.bx
 go_wp2_with fail
 clear x0 x1 x2
 go_loopw [12] (fun i wr => ∃ (k : Nat) (es : List (Ex Wt)), k ≤ n ∧ i = .int .i64 k ∧ Hid (TwS w w1.heap.size g0 g1 sc (.slice B m d) A1 c1 n es0 es k wr)) (fun i _ => n - (intOf i).toNat)
 case atStart => exact ⟨0, es0, by omega, rfl, HT⟩
 case round =>
  clear HT
  obtain ⟨k, es, hk, rfl, HT⟩ := hrel
  by_cases hlt : k < n
  ·obtain ⟨e, he⟩ : ∃ e, es[k]? = some e := ⟨_, List.getElem?_eq_getElem (by have := HT.out.ln; omega)⟩
   have he0 : es0[k]? = some e := by rw [← HT.out.od k n!]; exact he
   have HE := h! he
   obtain ⟨q, hA, _, hcell⟩ := own_some HT.out.ow (by omega)
   subst hA
   have CI := h! (cloneN_any e.A e.x.m.gs.length e.c (ic e.x.m.gs) wr (by have := (HROW.out e (List.mem_of_getElem? he0)).below HT.out.bl; exact this.1.g) (ic_one _) (HGS.out e.x (List.mem_map.2 ⟨e, List.mem_of_getElem? he0, rfl⟩)))
   have a1 : wr.cell? ⟨q, k * 7 + 1, none⟩ = some (.slice e.A e.x.m.gs.length e.c) := hcell (k * 7 + 1) _ (by
    have := flat_get (exc_len KW es) he 1 (show 1 < KW.s by decide)
    rw [show KW.s = 7 from rfl] at this
    rw [this]; rfl)
   have hk0 : (0 : Int) ≤ (k : Int) := by omega
   have hkn : (k : Int) < (n : Int) := by omega
   obtain ⟨x0, x1, x2⟩ := box_sk HT.out.bx
   clear he he0 hcell
   go_wp2_with fail
   refine (CI.out).mono ?_
   rintro e1 w4 ⟨A4, c4, rfl, o4, hb4⟩
   have NX := h! (HT.out.next HE.out hb4 o4)
   have h4 := HT.out.below hb4
   obtain ⟨_, cur, hc⟩ := own_block h4.ow (show (Value.slice (some ⟨q, 0, none⟩) n c1).ownBlock = some q from rfl)
   have hfz := hc.frozen (k * 7 + 1)
   have hc1 : w4.cell? ⟨q, k * 7 + 1, none⟩ = some (.slice e.A e.x.m.gs.length e.c) := by
    rw [hb4.cell (p := ⟨q, k * 7 + 1, none⟩) (cell_block a1)]
    exact a1
   clear a1 x0 x1 x2 CI o4 hb4 h4 hc
   go_wp2_with fail
   go_roundw
   case rel => exact ⟨k + 1, _, by omega, by go_num, NX⟩
   case measure => simp [intOf]; omega
  ·have hkn : k = n := by omega
   subst hkn
   have HK := h! HT.out.ko
   have CD := h! (cloneD_any B m d (flat spc ds) wr (HD.out _ HT.out.bl).1 (one_flat spc_one _) hf2)
   obtain ⟨x0, x1, x2⟩ := box_sk HT.out.bx
   go_wp2_with fail
   refine (CD.out).mono ?_
   rintro e w5 ⟨A5, c5, rfl, o5, hb5⟩
   clear x0 x1 x2 CD
   have h5 := HT.out.below hb5
   have O5 := h! o5
   have HK5 := h! (HK.out.below hb5)
   have H5 := h! h5
   have HS5 := h! (Nat.le_trans HT.out.lo.1 hb5.size)
   have HSR := h! HT.out.lo.1
   clear h5 o5 hb5 HK HT
   obtain ⟨x0, x1, x2, f0, f1, f2⟩ := H5.out.bx.three
   obtain ⟨y0, y1, y2, e0, e1, e2⟩ := H5.out.br.three
   have hne : g0 ≠ g1 := H5.out.lo.2.1
   have hne2 : g1 ≠ g0 := Ne.symm hne
   have KP0 := h! (Kept.set (S := fun t => t = 39) H5.out.bx rfl (i := 2) (.slice A5 m c5))
   have BR := h! (H5.out.br.far (p := ⟨g0, 2, none⟩) (by exact hne2) (.slice A5 m c5))
   have KP1 := h! (kept_put3 BR.out (.int .i64 sc) (.slice A1 k c1) (.slice A5 m c5))
   have ZP := h! (Box.put3 BR.out (.int .i64 sc) (.slice A1 k c1) (.slice A5 m c5))
   have ZL := h! (below_put3 (H5.out.bl.setCell (p := ⟨g0, 2, none⟩) (by exact H5.out.lo.2.2.2.2.1) (.slice A5 m c5)) H5.out.lo.2.2.2.2.2 (.int .i64 sc) (.slice A1 k c1) (.slice A5 m c5))
   have HSO := h! (show SkO ((((w5.setCell ⟨g0, 2, none⟩ (.slice A5 m c5)).setCell ⟨g1, 0, none⟩ (.int .i64 sc)).setCell ⟨g1, 1, none⟩ (.slice A1 k c1)).setCell ⟨g1, 2, none⟩ (.slice A5 m c5)) w.heap.size (vsk sc (.slice A1 k c1) (.slice A5 m c5)) ⟨sc, es0.map Ex.x, ds⟩ from by
    have hlw : w.heap.size ≤ w1.heap.size := by have := H5.out.lo; omega
    exact ⟨_, _, rfl, KO.mono (KO.kept KP1.out (by decide) (by decide) (KO.kept KP0.out (by decide) (by decide) HK5.out)) hlw, by
     have h1 := KP1.out.own (KP0.out.own O5.out (by decide)) (by decide)
     have h2 := own_base h1 (Nat.le_trans hlw HSR.out)
     rw [HLB.out] at h2 ⊢
     exact h2⟩)
   unfold vsk at HSO
   go_wp2_with fail
   obtain ⟨u0, u1, u2⟩ := box_sk ZP.out
   exact bodyPost_ret (v := .agg #[.int .i64 sc, .slice A1 k c1, .slice A5 m c5]) (by simp [results, Tryz.results85, go_sem, u0, u1, u2]; try rfl) rfl ⟨_, rfl, HSO.out, ZL.out⟩
def watI (l : List Wt) (id : Int) : Int := if KM.wat l id < l.length then (KM.wat l id : Int) else -1
theorem watI_at {l : List Wt} {id : Int} {k : Nat} {x : Wt} (hk : l[k]? = some x) (hx : x.m.id = id) (hno : ∀ j y, j < k → l[j]? = some y → y.m.id ≠ id) : watI l id = (k : Int) := by
 have h := KM.wat_eq hk hx hno
 unfold watI
 rw [h, if_pos (List.getElem?_eq_some_iff.1 hk).1]
theorem watI_no {l : List Wt} {id : Int} {k : Nat} (hl : l.length ≤ k) (hno : ∀ j y, j < k → l[j]? = some y → y.m.id ≠ id) : watI l id = -1 := by
 have h : KM.wat l id = l.length := KM.wat_no.2 fun w hw => by
  obtain ⟨j, hj⟩ := List.getElem?_of_mem hw
  exact hno j w (by have := (List.getElem?_eq_some_iff.1 hj).1; omega) hj
 unfold watI
 rw [h, if_neg (Nat.lt_irrefl _)]
theorem rwaits_any (v : Value) (s : Sk) (id : Int) (w : World) (h : SkIs w v s) : Calls Tryz.prog 115 #[v, .int .i64 id] w (IsN (watI s.ws id) w) := by
 obtain ⟨A, c, B, d, rfl, h1, h2⟩ := h
 obtain ⟨n, hn⟩ : ∃ n, n = s.ws.length := ⟨_, rfl⟩
 obtain ⟨r, hr⟩ : ∃ r, r = watI s.ws id := ⟨_, rfl⟩
 rw [← hr]
 rw [← hn] at h1 ⊢
 have HR := h! hr
 have HL := h! hn
 have hn63 := h1.small
 have H := h! (fun W (hb : Below w.heap.size w W) => h1.below hb)
 have HB := h! (show Below w.heap.size w (w.alloc (.cells #[.int .i64 s.c, .slice A n c, .slice B s.ds.length d] 39)) from (Below.refl _ _).alloc n! _)
 have X := h! (Box.new w 39 #[.int .i64 s.c, .slice A n c, .slice B s.ds.length d])
 clear h1 h2 hr hn
 unfold vsk
 obtain ⟨sc, ws, ds⟩ := s
 simp only at *
 go_enter Tryz.func115, Tryz.ntmps115
 go_upto_region 1 with (fail)
 generalize w.alloc (.cells #[.int .i64 sc, .slice A n c, .slice B ds.length d] 39) = w1 at HB X ⊢
 generalize hg : w.heap.size = g at X ⊢
 clear hg
 go_wp2_with fail
 go_loopw [5] (fun i wr => ∃ k : Nat, k ≤ n ∧ i = .int .i64 k ∧ Below w1.heap.size w1 wr ∧ Hid (∀ j y, j < k → ws[j]? = some y → y.m.id ≠ id)) (fun i _ => n - (intOf i).toNat)
 case atStart => exact ⟨0, by omega, rfl, Below.refl _ _, h! fun j y hj => absurd hj (by omega)⟩
 case round =>
  obtain ⟨k, hk, rfl, hB, HN⟩ := hrel
  have HB2 := h! hB
  obtain ⟨x0, x1, x2⟩ := box_sk (X.out.below hB X.out.lt)
  clear hB
  by_cases hlt : k < n
  ·obtain ⟨a, ha⟩ : ∃ a, ws[k]? = some a := ⟨_, List.getElem?_eq_getElem (by have := HL.out; omega)⟩
   have HA := h! ha
   obtain ⟨bl, o, P, q, rfl, _, _, hat, _⟩ := wts_at (H.out _ (bmore HB.out HB2.out n!)) ha
   obtain ⟨a0, a1, a2, a3, a4, a5, a6⟩ := hat
   clear ha
   have hk0 : (0 : Int) ≤ (k : Int) := by omega
   have hkn : (k : Int) < (n : Int) := by omega
   by_cases he : a.m.id = id
   ·have HF := h! (show r = (k : Int) by rw [HR.out]; exact watI_at HA.out he HN.out)
    have hb : (a.m.id == id) = true := by simpa using he
    clear he
    go_wp2_with fail
    go_ret
    exact ⟨by rw [HF.out]; rfl, bmore HB.out HB2.out n!⟩
   ·have HF := h! (show ∀ j y, j < k + 1 → ws[j]? = some y → y.m.id ≠ id from fun j y hj hy => by
     rcases (show j < k ∨ j = k by omega) with h | rfl
     ·exact HN.out j y h hy
     ·rw [HA.out] at hy; injection hy with hy; subst hy; exact he)
    have hb : (a.m.id == id) = false := by simpa using he
    clear he
    go_wp2_with fail
    go_roundw
    case rel => exact ⟨k + 1, by omega, by go_num, HB2.out, HF⟩
    case measure => simp [intOf]; omega
  ·have HF := h! (show r = -1 by rw [HR.out]; exact watI_no (k := k) (by have := HL.out; omega) HN.out)
   go_wp2_with fail
   go_ret
   exact ⟨by rw [HF.out]; rfl, bmore HB.out HB2.out n!⟩
theorem rdone_any (v : Value) (s : Sk) (id : Int) (w : World) (h : SkIs w v s) : Calls Tryz.prog 116 #[v, .int .i64 id] w (IsB (KM.doneF s.ds id) w) := by
 obtain ⟨A, c, B, d, rfl, h1, h2⟩ := h
 obtain ⟨n, hn⟩ : ∃ n, n = s.ds.length := ⟨_, rfl⟩
 obtain ⟨r, hr⟩ : ∃ r, r = KM.doneF s.ds id := ⟨_, rfl⟩
 rw [← hr]
 rw [← hn] at h2 ⊢
 have HR := h! hr
 have HL := h! hn
 have hn63 := h2.small
 have H := h! (fun W (hb : Below w.heap.size w W) => h2.below hb)
 have HB := h! (show Below w.heap.size w (w.alloc (.cells #[.int .i64 s.c, .slice A s.ws.length c, .slice B n d] 39)) from (Below.refl _ _).alloc n! _)
 have X := h! (Box.new w 39 #[.int .i64 s.c, .slice A s.ws.length c, .slice B n d])
 clear h1 h2 hr hn
 unfold vsk
 obtain ⟨sc, ws, ds⟩ := s
 simp only at *
 go_enter Tryz.func116, Tryz.ntmps116
 go_upto_region 1 with (fail)
 generalize w.alloc (.cells #[.int .i64 sc, .slice A ws.length c, .slice B n d] 39) = w1 at HB X ⊢
 generalize hg : w.heap.size = g at X ⊢
 clear hg
 go_wp2_with fail
 go_loopw [5] (fun i wr => ∃ k : Nat, k ≤ n ∧ i = .int .i64 k ∧ Below w1.heap.size w1 wr ∧ Hid (∀ j y, j < k → ds[j]? = some y → y.i ≠ id)) (fun i _ => n - (intOf i).toNat)
 case atStart => exact ⟨0, by omega, rfl, Below.refl _ _, h! fun j y hj => absurd hj (by omega)⟩
 case round =>
  obtain ⟨k, hk, rfl, hB, HN⟩ := hrel
  have HB2 := h! hB
  obtain ⟨x0, x1, x2⟩ := box_sk (X.out.below hB X.out.lt)
  clear hB
  by_cases hlt : k < n
  ·obtain ⟨a, ha⟩ : ∃ a, ds[k]? = some a := ⟨_, List.getElem?_eq_getElem (by have := HL.out; omega)⟩
   have HA := h! ha
   obtain ⟨bl, o, rfl, _, _, a0, a1⟩ := (H.out _ (bmore HB.out HB2.out n!)).at_ ha
   clear ha
   have hk0 : (0 : Int) ≤ (k : Int) := by omega
   have hkn : (k : Int) < (n : Int) := by omega
   by_cases he : a.i = id
   ·have HF := h! (show r = true by
     rw [HR.out]
     rcases hd : KM.doneF ds id with _ | _
     ·exact absurd he (KM.doneF_no.1 hd a (List.mem_of_getElem? HA.out))
     ·rfl)
    have hb : (a.i == id) = true := by simpa using he
    clear he
    go_wp2_with fail
    go_ret
    exact ⟨by rw [HF.out]; rfl, bmore HB.out HB2.out n!⟩
   ·have HF := h! (show ∀ j y, j < k + 1 → ds[j]? = some y → y.i ≠ id from fun j y hj hy => by
     rcases (show j < k ∨ j = k by omega) with h | rfl
     ·exact HN.out j y h hy
     ·rw [HA.out] at hy; injection hy with hy; subst hy; exact he)
    have hb : (a.i == id) = false := by simpa using he
    clear he
    go_wp2_with fail
    go_roundw
    case rel => exact ⟨k + 1, by omega, by go_num, HB2.out, HF⟩
    case measure => simp [intOf]; omega
  ·have HF := h! (show r = false by
    rw [HR.out]
    refine KM.doneF_no.2 fun x hx => ?_
    obtain ⟨j, hj⟩ := List.getElem?_of_mem hx
    exact HN.out j x (by have := (List.getElem?_eq_some_iff.1 hj).1; have := HL.out; omega) hj)
   go_wp2_with fail
   go_ret
   exact ⟨by rw [HF.out]; rfl, bmore HB.out HB2.out n!⟩
theorem rstamp_any (A : Option Addr) (c : Nat) (x : Wt) (w : World) : Calls Tryz.prog 121 #[vwt A c x] w (IsSp (KM.stp x) w) := by
 have HB := h! (show Below w.heap.size w ((w.alloc (.cells #[.int .i64 x.m.id, .slice A x.m.gs.length c, .int .i64 x.m.tp, .string x.m.key, .string x.m.body, .int .i64 x.t, .bool x.f] 78)).alloc (.cells #[.int .i64 0, .int .i64 0] 46)) from ((Below.refl _ _).alloc n! _).alloc (by simp) _)
 have X := h! ((Box.new w 78 #[.int .i64 x.m.id, .slice A x.m.gs.length c, .int .i64 x.m.tp, .string x.m.key, .string x.m.body, .int .i64 x.t, .bool x.f]).alloc (.cells #[.int .i64 0, .int .i64 0] 46))
 have Y := h! (Box.new_at (w := w.alloc (.cells #[.int .i64 x.m.id, .slice A x.m.gs.length c, .int .i64 x.m.tp, .string x.m.key, .string x.m.body, .int .i64 x.t, .bool x.f] 78)) (t := 46) (cs := #[.int .i64 0, .int .i64 0]) (w.heap.size + 1) (by simp))
 obtain ⟨⟨mi, mg, mt, mk, mb⟩, t, f⟩ := x
 unfold vwt
 simp only at HB X Y ⊢
 go_enter Tryz.func121, Tryz.ntmps121
 go_upto_region 1 with (fail)
 generalize (w.alloc (.cells #[.int .i64 mi, .slice A mg.length c, .int .i64 mt, .string mk, .string mb, .int .i64 t, .bool f] 78)).alloc (.cells #[.int .i64 0, .int .i64 0] 46) = w1 at HB X Y ⊢
 obtain ⟨g0, hg0⟩ : ∃ g0, w.heap.size = g0 := ⟨_, rfl⟩
 rw [hg0] at X Y
 simp only [hg0]
 have HG := h! hg0
 clear hg0
 obtain ⟨x0, x1, x2, x3, x4, x5, x6⟩ := box_wt X.out
 have y0 := Y.out.cell 0
 have y1 := Y.out.cell 1
 have f0 := Y.out.frozen 0
 have f1 := Y.out.frozen 1
 simp at y0 y1
 have Z := h! (Y.out.put (.int .i64 t) (.int .i64 mi))
 go_wp2_with fail
 obtain ⟨z0, z1⟩ := box_two Z.out
 exact bodyPost_ret (v := .agg #[.int .i64 t, .int .i64 mi]) (by simp [results, Tryz.results121, go_sem, z0, z1]; try rfl) rfl ⟨rfl, below_put HB.out (by have := HG.out; omega) _ _⟩
end KP
namespace CP
open Go.RowKit
open CM (Mg Cm)
theorem In_any (n a b : Int) (w : World) : Calls Tryz.prog 77 #[.int .i64 n, .int .i64 a, .int .i64 b] w fun e w' => e = .returned (.bool (decide (a ≤ n ∧ n < b))) ∧ w' = w := by
 by_cases h1 : a ≤ n
 ·by_cases h2 : n < b
  ·have hd : decide (a ≤ n ∧ n < b) = true := by simp [h1, h2]
   rw [hd]
   go_enter Tryz.func77, Tryz.ntmps77
   go_wp2
   go_ret
   exact ⟨rfl, rfl⟩
  ·have hd : decide (a ≤ n ∧ n < b) = false := by simp; omega
   rw [hd]
   go_enter Tryz.func77, Tryz.ntmps77
   go_wp2
   go_ret
   exact ⟨rfl, rfl⟩
 ·have hd : decide (a ≤ n ∧ n < b) = false := by simp; omega
  rw [hd]
  go_enter Tryz.func77, Tryz.ntmps77
  go_wp2
  go_ret
  exact ⟨rfl, rfl⟩
theorem Id_any (n : Int) (w : World) : Calls Tryz.prog 78 #[.int .i64 n] w fun e w' => e = .returned (.bool (decide (CM.idOk n))) ∧ w' = w := by
 obtain ⟨b, hb⟩ : ∃ b, b = decide (CM.idOk n) := ⟨_, rfl⟩
 have hc : ∀ w, Calls Tryz.prog 77 #[.int .i64 n, .int .i64 0, .int .i64 6291456] w fun e w' => e = .returned (.bool b) ∧ w' = w := by rw [hb]; exact In_any n 0 6291456
 rw [← hb]
 have C := h! hc
 clear hc hb
 go_enter Tryz.func78, Tryz.ntmps78
 go_wp2_with fail
 refine (C.out _).mono ?_
 rintro e w1 ⟨rfl, rfl⟩
 go_wp2_with fail
 go_ret
 exact ⟨rfl, rfl⟩
theorem same12_any (a b : Cm) (va vb : Value) (w : World) (ha : CmIs w va a) (hb : CmIs w vb b) :
  Calls Tryz.prog 144 #[va, vb] w (BoolIs (decide (a = b)) w) := by
 obtain ⟨A, c, P, q, rfl, r1, r3⟩ := ha
 obtain ⟨B, d, S, u, rfl, r2, r4⟩ := hb
 obtain ⟨ak, am, aid, atm, ams, atp, awh, an⟩ := a
 obtain ⟨bk, bm, bid, btm, bms, btp, bwh, bn⟩ := b
 simp only at r1 r2 r3 r4
 have hiff : ((⟨ak, am, aid, atm, ams, atp, awh, an⟩ : Cm) = ⟨bk, bm, bid, btm, bms, btp, bwh, bn⟩) ↔ (ak = bk ∧ am = bm ∧ aid = bid ∧ atm = btm ∧ ams = bms ∧ atp = btp ∧ awh = bwh ∧ an = bn) := by simp
 have hno : ¬ (ak = bk ∧ am = bm ∧ aid = bid ∧ atm = btm ∧ ams = bms ∧ atp = btp ∧ awh = bwh ∧ an = bn) → false = decide ((⟨ak, am, aid, atm, ams, atp, awh, an⟩ : Cm) = ⟨bk, bm, bid, btm, bms, btp, bwh, bn⟩) := fun h => by
  have : ¬ ((⟨ak, am, aid, atm, ams, atp, awh, an⟩ : Cm) = ⟨bk, bm, bid, btm, bms, btp, bwh, bn⟩) := fun e => h (hiff.1 e)
  rw [decide_eq_false this]
 have hyes : (ak = bk ∧ am = bm ∧ aid = bid ∧ atm = btm ∧ ams = bms ∧ atp = btp ∧ awh = bwh ∧ an = bn) → true = decide ((⟨ak, am, aid, atm, ams, atp, awh, an⟩ : Cm) = ⟨bk, bm, bid, btm, bms, btp, bwh, bn⟩) := fun h => by
  rw [decide_eq_true (hiff.2 h)]
 have HNO := h! hno
 have HYES := h! hyes
 clear hno hyes hiff
 generalize decide ((⟨ak, am, aid, atm, ams, atp, awh, an⟩ : Cm) = ⟨bk, bm, bid, btm, bms, btp, bwh, bn⟩) = r at HNO HYES ⊢
 show Calls _ _ #[.agg #[.int .u8 ak, .int .i64 am.id, .slice A am.gs.length c, .int .i64 am.tp, .string am.key, .string am.body, .int .i64 aid, .int .i64 atm, .slice P ams.length q, .int .i64 atp, .int .i64 awh, .int .i64 an], .agg #[.int .u8 bk, .int .i64 bm.id, .slice B bm.gs.length d, .int .i64 bm.tp, .string bm.key, .string bm.body, .int .i64 bid, .int .i64 btm, .slice S bms.length u, .int .i64 btp, .int .i64 bwh, .int .i64 bn]] _ _
 have hb0 : Below w.heap.size w ((w.alloc (.cells #[.int .u8 ak, .int .i64 am.id, .slice A am.gs.length c, .int .i64 am.tp, .string am.key, .string am.body, .int .i64 aid, .int .i64 atm, .slice P ams.length q, .int .i64 atp, .int .i64 awh, .int .i64 an] 91)).alloc (.cells #[.int .u8 bk, .int .i64 bm.id, .slice B bm.gs.length d, .int .i64 bm.tp, .string bm.key, .string bm.body, .int .i64 bid, .int .i64 btm, .slice S bms.length u, .int .i64 btp, .int .i64 bwh, .int .i64 bn] 91)) := ((Below.refl _ _).alloc n! _).alloc (by simp) _
 have hX : Box ((w.alloc (.cells #[.int .u8 ak, .int .i64 am.id, .slice A am.gs.length c, .int .i64 am.tp, .string am.key, .string am.body, .int .i64 aid, .int .i64 atm, .slice P ams.length q, .int .i64 atp, .int .i64 awh, .int .i64 an] 91)).alloc (.cells #[.int .u8 bk, .int .i64 bm.id, .slice B bm.gs.length d, .int .i64 bm.tp, .string bm.key, .string bm.body, .int .i64 bid, .int .i64 btm, .slice S bms.length u, .int .i64 btp, .int .i64 bwh, .int .i64 bn] 91)) w.heap.size 91 #[.int .u8 ak, .int .i64 am.id, .slice A am.gs.length c, .int .i64 am.tp, .string am.key, .string am.body, .int .i64 aid, .int .i64 atm, .slice P ams.length q, .int .i64 atp, .int .i64 awh, .int .i64 an] := (Box.new _ _ _).alloc _
 have hY : Box ((w.alloc (.cells #[.int .u8 ak, .int .i64 am.id, .slice A am.gs.length c, .int .i64 am.tp, .string am.key, .string am.body, .int .i64 aid, .int .i64 atm, .slice P ams.length q, .int .i64 atp, .int .i64 awh, .int .i64 an] 91)).alloc (.cells #[.int .u8 bk, .int .i64 bm.id, .slice B bm.gs.length d, .int .i64 bm.tp, .string bm.key, .string bm.body, .int .i64 bid, .int .i64 btm, .slice S bms.length u, .int .i64 btp, .int .i64 bwh, .int .i64 bn] 91)) (w.heap.size + 1) 91 #[.int .u8 bk, .int .i64 bm.id, .slice B bm.gs.length d, .int .i64 bm.tp, .string bm.key, .string bm.body, .int .i64 bid, .int .i64 btm, .slice S bms.length u, .int .i64 btp, .int .i64 bwh, .int .i64 bn] := Box.new_at _ (by simp)
 have C := h! (sameMessage_any am bm (.agg (mcells A c am)) (.agg (mcells B d bm)) _ ⟨A, c, rfl, r1.below hb0⟩ ⟨B, d, rfl, r2.below hb0⟩)
 have D := h! (fun W2 (h : Below w.heap.size w W2) => same_ints_any P S q u ams bms W2 (r3.below h).1 (r4.below h).1 (Nat.le_trans r3.2.1 r3.2.2) (Nat.le_trans r4.2.1 r4.2.2))
 have HX := h! hX
 have HY := h! hY
 have HB := h! hb0
 unfold mcells at C
 clear hX hY hb0 r1 r2 r3 r4
 go_enter Tryz.func144, Tryz.ntmps144
 go_upto_region 1 with (fail)
 generalize (w.alloc (.cells #[.int .u8 ak, .int .i64 am.id, .slice A am.gs.length c, .int .i64 am.tp, .string am.key, .string am.body, .int .i64 aid, .int .i64 atm, .slice P ams.length q, .int .i64 atp, .int .i64 awh, .int .i64 an] 91)).alloc (.cells #[.int .u8 bk, .int .i64 bm.id, .slice B bm.gs.length d, .int .i64 bm.tp, .string bm.key, .string bm.body, .int .i64 bid, .int .i64 btm, .slice S bms.length u, .int .i64 btp, .int .i64 bwh, .int .i64 bn] 91) = w1 at HX HY HB C ⊢
 have G1 := h! HX.out.lt
 have G2 := h! HY.out.lt
 generalize hg1 : w.heap.size + 1 = g1 at HY G2 ⊢
 clear hg1
 generalize hg0 : w.heap.size = g0 at HX G1 ⊢
 clear hg0
 obtain ⟨x0, x1, x2, x3, x4, x5, x6, x7, x8, x9, x10, x11⟩ := box_cm HX.out
 obtain ⟨y0, y1, y2, y3, y4, y5, y6, y7, y8, y9, y10, y11⟩ := box_cm HY.out
 by_cases h0 : ak = bk
 rotate_left
 ·have HF := h! (HNO.out (fun h => h0 h.1))
  have e0 : (ak == bk) = false := by simpa using h0
  clear HNO HYES
  go_wp2_with fail
  go_ret
  exact bool_ret HF.out HB.out
 have e0 : (ak == bk) = true := by simpa using h0
 go_wp2_with fail
 refine (C.out).mono ?_
 rintro e w2 ⟨rfl, hb2⟩
 clear x0 x1 x2 x3 x4 x5 x6 x7 x8 x9 x10 x11 y0 y1 y2 y3 y4 y5 y6 y7 y8 y9 y10 y11
 obtain ⟨x0, x1, x2, x3, x4, x5, x6, x7, x8, x9, x10, x11⟩ := box_cm (HX.out.below hb2 G1.out)
 obtain ⟨y0, y1, y2, y3, y4, y5, y6, y7, y8, y9, y10, y11⟩ := box_cm (HY.out.below hb2 G2.out)
 replace HB := h! (HB.out.trans (hb2.mono HB.out.size))
 replace HX := h! (HX.out.below hb2 G1.out)
 replace HY := h! (HY.out.below hb2 G2.out)
 replace G1 := h! (Nat.lt_of_lt_of_le G1.out hb2.size)
 replace G2 := h! (Nat.lt_of_lt_of_le G2.out hb2.size)
 clear C hb2
 by_cases h1 : am = bm
 rotate_left
 ·have HF := h! (HNO.out (fun h => h1 h.2.1))
  have e1 : decide (am = bm) = false := by simpa using h1
  rw [e1]
  clear HNO HYES
  go_wp2_with fail
  go_ret
  exact bool_ret HF.out HB.out
 rw [decide_eq_true h1]
 by_cases h2 : aid = bid
 rotate_left
 ·have HF := h! (HNO.out (fun h => h2 h.2.2.1))
  have e2 : (aid == bid) = false := by simpa using h2
  clear HNO HYES
  go_wp2_with fail
  go_ret
  exact bool_ret HF.out HB.out
 have e2 : (aid == bid) = true := by simpa using h2
 by_cases h3 : atm = btm
 rotate_left
 ·have HF := h! (HNO.out (fun h => h3 h.2.2.2.1))
  have e3 : (atm == btm) = false := by simpa using h3
  clear HNO HYES
  go_wp2_with fail
  go_ret
  exact bool_ret HF.out HB.out
 have e3 : (atm == btm) = true := by simpa using h3
 have D2 := h! (D.out _ HB.out)
 clear D
 go_wp2_with fail
 refine (D2.out).mono ?_
 rintro e w3 ⟨rfl, hb2⟩
 clear x0 x1 x2 x3 x4 x5 x6 x7 x8 x9 x10 x11 y0 y1 y2 y3 y4 y5 y6 y7 y8 y9 y10 y11
 obtain ⟨x0, x1, x2, x3, x4, x5, x6, x7, x8, x9, x10, x11⟩ := box_cm (HX.out.below hb2 G1.out)
 obtain ⟨y0, y1, y2, y3, y4, y5, y6, y7, y8, y9, y10, y11⟩ := box_cm (HY.out.below hb2 G2.out)
 replace HB := h! (HB.out.trans (hb2.mono HB.out.size))
 clear D2 hb2 HX HY G1 G2
 by_cases h4 : ams = bms
 rotate_left
 ·have HF := h! (HNO.out (fun h => h4 h.2.2.2.2.1))
  have e4 : decide (ams = bms) = false := by simpa using h4
  rw [e4]
  clear HNO HYES
  go_wp2_with fail
  go_ret
  exact bool_ret HF.out HB.out
 rw [decide_eq_true h4]
 by_cases h5 : atp = btp
 rotate_left
 ·have HF := h! (HNO.out (fun h => h5 h.2.2.2.2.2.1))
  have e5 : (atp == btp) = false := by simpa using h5
  clear HNO HYES
  go_wp2_with fail
  go_ret
  exact bool_ret HF.out HB.out
 have e5 : (atp == btp) = true := by simpa using h5
 by_cases h6 : awh = bwh
 rotate_left
 ·have HF := h! (HNO.out (fun h => h6 h.2.2.2.2.2.2.1))
  have e6 : (awh == bwh) = false := by simpa using h6
  clear HNO HYES
  go_wp2_with fail
  go_ret
  exact bool_ret HF.out HB.out
 have e6 : (awh == bwh) = true := by simpa using h6
 by_cases h7 : an = bn
 rotate_left
 ·have HF := h! (HNO.out (fun h => h7 h.2.2.2.2.2.2.2))
  have e7 : (an == bn) = false := by simpa using h7
  clear HNO HYES
  go_wp2_with fail
  go_ret
  exact bool_ret HF.out HB.out
 have e7 : (an == bn) = true := by simpa using h7
 have HF := h! (HYES.out ⟨h0, h1, h2, h3, h4, h5, h6, h7⟩)
 clear HNO HYES
 go_wp2_with fail
 go_ret
 exact bool_ret HF.out HB.out
end CP
end Go.Proofs.YteebeiaokfenmaaGreat
