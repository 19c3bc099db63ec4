/- Contracts of functions of towncrier, layers 5 to 9, and of the document's own ones, part 24; each as its theorem says. -/
import Derived.Test.YtiiobafcgdelmaaGreatL01
import Derived.Test.YtiiobafcgdelmaaGreatL20
import Derived.Test.YtiiobafcgdelmaaGreatL14
import Derived.Test.YtiiobafcgdelmaaGreatL06
set_option linter.unusedVariables false
set_option linter.unusedSimpArgs false
namespace Go.Proofs.YtiiobafcgdelmaaGreat.PD
open Go.RowKit Go.Shelf
theorem info_vt : (Tryz.prog.info? 59).map (fun i => (i.zero, i.size, i.bytes)) = some (some (.agg #[.int .i64 0, .int .i64 0, .string ⟨#[]⟩]), 3, 32) := by kernel_rfl
theorem info_try : (Tryz.prog.info? 57).map (fun i => (i.zero, i.size, i.bytes)) = some (some (.agg #[.int .u8 0, .int .i64 0, .slice none 0 0, .string ⟨#[]⟩, .string ⟨#[]⟩, .slice none 0 0, .slice none 0 0]), 7, 120) := by kernel_rfl
set_option maxHeartbeats 1000000 in
theorem cloneV_any (B : Option Addr) (m d : Nat) (xs : List Value) (w : World) (hr : RdG w 3 B m xs) (h1 : ∀ u ∈ xs, u.oneCell' = true) (hm : m ≤ 2000) :
  Calls Tryz.prog 30 #[.slice B m d] w (RowIs 59 3 m xs w) := by
 obtain ⟨i0, hi, hz0, hz1, hz2⟩ := info_parts info_vt
 have HR := h! hr
 have H1 := h! h1
 clear hr h1
 rcases B with _ | ad
 ·have hn0 : m = 0 := by
   rcases Nat.eq_zero_or_pos m with h0 | h0
   ·exact h0
   ·obtain ⟨ad, h, _⟩ := HR.out.2 h0; cases h
  subst hn0
  have hl0 : xs = [] := List.eq_nil_of_length_eq_zero (by simpa using HR.out.1)
  have hfin : RowIs 59 3 0 xs w (.returned (.slice none 0 0)) w := ⟨_, _, rfl, by rw [hl0]; exact World.ownsRow_nil _ _ _ _, Below.refl _ _⟩
  have HF := h! hfin; clear hfin hl0
  have hnil : ∀ W, (binOp .eql 23 (.slice none 0 d) (.slice none 0 0)).run Tryz.prog W = .ok (.bool true) W := fun W => Lib.run_eql_slice_nil W _ _ _ _ _ _ _ Tryz.underlying23
  go_enter Tryz.func30, Tryz.ntmps30
  go_wp2_with fail
  go_ret
  exact HF.out
 ·have hown0 : (w.alloc (.cells #[] 59)).ownsRow w.heap.size 59 3 (.slice (some ⟨w.heap.size, 0, none⟩) 0 0) 0 [] := World.ownsRow_made w #[] 0 n! (by unfold maxLen; omega) (by simp)
  have hr0 : RdG (w.alloc (.cells #[] 59)) 3 (some ad) m xs := RdG.alloc HR.out _
  have HO := h! hown0
  have HR0 := h! hr0
  clear hown0 hr0
  have hnil : ∀ W, (binOp .eql 23 (.slice (some ad) m d) (.slice none 0 0)).run Tryz.prog W = .ok (.bool false) W := fun W => Lib.run_eql_slice_nil W _ _ _ _ _ _ _ Tryz.underlying23
  go_enter Tryz.func30, Tryz.ntmps30
  go_wp2_with (at_builtin; refine wpList_append_g _ rfl _ _ 23 rfl w.heap.size 59 i0 _ 3 32 Tryz.underlying23 hi hz0 hz1 hz2 rfl (by omega) _ _ _ rfl HO.out (some ad) m d xs rfl HR0.out H1.out (by unfold maxLen; omega) (by omega) (by simp) ?_; intro v2 w2 hown2 hg2 hob2)
  go_ret
  simp only [Nat.zero_add, List.nil_append] at hown2
  obtain ⟨A', c', rfl, _, _⟩ := own_form hown2
  exact ⟨_, _, rfl, hown2, below_row ((Below.refl _ _).alloc n! _) HO.out (by simp) hg2⟩
set_option maxHeartbeats 1000000 in
theorem cloneT_any (B : Option Addr) (m d : Nat) (xs : List Value) (w : World) (hr : RdG w 7 B m xs) (h1 : ∀ u ∈ xs, u.oneCell' = true) (hm : m ≤ 2000) :
  Calls Tryz.prog 31 #[.slice B m d] w (RowIs 57 7 m xs w) := by
 obtain ⟨i0, hi, hz0, hz1, hz2⟩ := info_parts info_try
 have HR := h! hr
 have H1 := h! h1
 clear hr h1
 rcases B with _ | ad
 ·have hn0 : m = 0 := by
   rcases Nat.eq_zero_or_pos m with h0 | h0
   ·exact h0
   ·obtain ⟨ad, h, _⟩ := HR.out.2 h0; cases h
  subst hn0
  have hl0 : xs = [] := List.eq_nil_of_length_eq_zero (by simpa using HR.out.1)
  have hfin : RowIs 57 7 0 xs w (.returned (.slice none 0 0)) w := ⟨_, _, rfl, by rw [hl0]; exact World.ownsRow_nil _ _ _ _, Below.refl _ _⟩
  have HF := h! hfin; clear hfin hl0
  have hnil : ∀ W, (binOp .eql 24 (.slice none 0 d) (.slice none 0 0)).run Tryz.prog W = .ok (.bool true) W := fun W => Lib.run_eql_slice_nil W _ _ _ _ _ _ _ Tryz.underlying24
  go_enter Tryz.func31, Tryz.ntmps31
  go_wp2_with fail
  go_ret
  exact HF.out
 ·have hown0 : (w.alloc (.cells #[] 57)).ownsRow w.heap.size 57 7 (.slice (some ⟨w.heap.size, 0, none⟩) 0 0) 0 [] := World.ownsRow_made w #[] 0 n! (by unfold maxLen; omega) (by simp)
  have hr0 : RdG (w.alloc (.cells #[] 57)) 7 (some ad) m xs := RdG.alloc HR.out _
  have HO := h! hown0
  have HR0 := h! hr0
  clear hown0 hr0
  have hnil : ∀ W, (binOp .eql 24 (.slice (some ad) m d) (.slice none 0 0)).run Tryz.prog W = .ok (.bool false) W := fun W => Lib.run_eql_slice_nil W _ _ _ _ _ _ _ Tryz.underlying24
  go_enter Tryz.func31, Tryz.ntmps31
  go_wp2_with (at_builtin; refine wpList_append_g _ rfl _ _ 24 rfl w.heap.size 57 i0 _ 7 120 Tryz.underlying24 hi hz0 hz1 hz2 rfl (by omega) _ _ _ rfl HO.out (some ad) m d xs rfl HR0.out H1.out (by unfold maxLen; omega) (by omega) (by simp) ?_; intro v2 w2 hown2 hg2 hob2)
  go_ret
  simp only [Nat.zero_add, List.nil_append] at hown2
  obtain ⟨A', c', rfl, _, _⟩ := own_form hown2
  exact ⟨_, _, rfl, hown2, below_row ((Below.refl _ _).alloc n! _) HO.out (by simp) hg2⟩
set_option maxHeartbeats 1000000 in
theorem cloneM_any (B : Option Addr) (m d : Nat) (xs : List Value) (w : World) (hr : RdG w 10 B m xs) (h1 : ∀ u ∈ xs, u.oneCell' = true) (hm : m ≤ 2000) :
  Calls Tryz.prog 33 #[.slice B m d] w (RowIs 51 10 m xs w) := by
 obtain ⟨i0, hi, hz0, hz1, hz2⟩ := info_parts info_mail
 have HR := h! hr
 have H1 := h! h1
 clear hr h1
 rcases B with _ | ad
 ·have hn0 : m = 0 := by
   rcases Nat.eq_zero_or_pos m with h0 | h0
   ·exact h0
   ·obtain ⟨ad, h, _⟩ := HR.out.2 h0; cases h
  subst hn0
  have hl0 : xs = [] := List.eq_nil_of_length_eq_zero (by simpa using HR.out.1)
  have hfin : RowIs 51 10 0 xs w (.returned (.slice none 0 0)) w := ⟨_, _, rfl, by rw [hl0]; exact World.ownsRow_nil _ _ _ _, Below.refl _ _⟩
  have HF := h! hfin; clear hfin hl0
  have hnil : ∀ W, (binOp .eql 25 (.slice none 0 d) (.slice none 0 0)).run Tryz.prog W = .ok (.bool true) W := fun W => Lib.run_eql_slice_nil W _ _ _ _ _ _ _ Tryz.underlying25
  go_enter Tryz.func33, Tryz.ntmps33
  go_wp2_with fail
  go_ret
  exact HF.out
 ·have hown0 : (w.alloc (.cells #[] 51)).ownsRow w.heap.size 51 10 (.slice (some ⟨w.heap.size, 0, none⟩) 0 0) 0 [] := World.ownsRow_made w #[] 0 n! (by unfold maxLen; omega) (by simp)
  have hr0 : RdG (w.alloc (.cells #[] 51)) 10 (some ad) m xs := RdG.alloc HR.out _
  have HO := h! hown0
  have HR0 := h! hr0
  clear hown0 hr0
  have hnil : ∀ W, (binOp .eql 25 (.slice (some ad) m d) (.slice none 0 0)).run Tryz.prog W = .ok (.bool false) W := fun W => Lib.run_eql_slice_nil W _ _ _ _ _ _ _ Tryz.underlying25
  go_enter Tryz.func33, Tryz.ntmps33
  go_wp2_with (at_builtin; refine wpList_append_g _ rfl _ _ 25 rfl w.heap.size 51 i0 _ 10 88 Tryz.underlying25 hi hz0 hz1 hz2 rfl (by omega) _ _ _ rfl HO.out (some ad) m d xs rfl HR0.out H1.out (by unfold maxLen; omega) (by omega) (by simp) ?_; intro v2 w2 hown2 hg2 hob2)
  go_ret
  simp only [Nat.zero_add, List.nil_append] at hown2
  obtain ⟨A', c', rfl, _, _⟩ := own_form hown2
  exact ⟨_, _, rfl, hown2, below_row ((Below.refl _ _).alloc n! _) HO.out (by simp) hg2⟩
set_option maxHeartbeats 1000000 in
theorem cloneC_any (B : Option Addr) (m d : Nat) (xs : List Value) (w : World) (hr : RdG w 2 B m xs) (h1 : ∀ u ∈ xs, u.oneCell' = true) (hm : m ≤ 2000) :
  Calls Tryz.prog 34 #[.slice B m d] w (RowIs 53 2 m xs w) := by
 obtain ⟨i0, hi, hz0, hz1, hz2⟩ := info_parts info_choice
 have HR := h! hr
 have H1 := h! h1
 clear hr h1
 rcases B with _ | ad
 ·have hn0 : m = 0 := by
   rcases Nat.eq_zero_or_pos m with h0 | h0
   ·exact h0
   ·obtain ⟨ad, h, _⟩ := HR.out.2 h0; cases h
  subst hn0
  have hl0 : xs = [] := List.eq_nil_of_length_eq_zero (by simpa using HR.out.1)
  have hfin : RowIs 53 2 0 xs w (.returned (.slice none 0 0)) w := ⟨_, _, rfl, by rw [hl0]; exact World.ownsRow_nil _ _ _ _, Below.refl _ _⟩
  have HF := h! hfin; clear hfin hl0
  have hnil : ∀ W, (binOp .eql 26 (.slice none 0 d) (.slice none 0 0)).run Tryz.prog W = .ok (.bool true) W := fun W => Lib.run_eql_slice_nil W _ _ _ _ _ _ _ Tryz.underlying26
  go_enter Tryz.func34, Tryz.ntmps34
  go_wp2_with fail
  go_ret
  exact HF.out
 ·have hown0 : (w.alloc (.cells #[] 53)).ownsRow w.heap.size 53 2 (.slice (some ⟨w.heap.size, 0, none⟩) 0 0) 0 [] := World.ownsRow_made w #[] 0 n! (by unfold maxLen; omega) (by simp)
  have hr0 : RdG (w.alloc (.cells #[] 53)) 2 (some ad) m xs := RdG.alloc HR.out _
  have HO := h! hown0
  have HR0 := h! hr0
  clear hown0 hr0
  have hnil : ∀ W, (binOp .eql 26 (.slice (some ad) m d) (.slice none 0 0)).run Tryz.prog W = .ok (.bool false) W := fun W => Lib.run_eql_slice_nil W _ _ _ _ _ _ _ Tryz.underlying26
  go_enter Tryz.func34, Tryz.ntmps34
  go_wp2_with (at_builtin; refine wpList_append_g _ rfl _ _ 26 rfl w.heap.size 53 i0 _ 2 24 Tryz.underlying26 hi hz0 hz1 hz2 rfl (by omega) _ _ _ rfl HO.out (some ad) m d xs rfl HR0.out H1.out (by unfold maxLen; omega) (by omega) (by simp) ?_; intro v2 w2 hown2 hg2 hob2)
  go_ret
  simp only [Nat.zero_add, List.nil_append] at hown2
  obtain ⟨A', c', rfl, _, _⟩ := own_form hown2
  exact ⟨_, _, rfl, hown2, below_row ((Below.refl _ _).alloc n! _) HO.out (by simp) hg2⟩
def TsMid (V W : World) (base k : Nat) (xs : List Value) (ts : List AM.At) : Prop :=
 ∃ vs : List Value, vs.length = ts.length ∧ xs = flat tcell vs ∧ (∀ (i : Nat) t, ts[i]? = some t → i < k → ∃ v, vs[i]? = some v ∧ AtOwn W base v t) ∧
  (∀ (i : Nat) t, ts[i]? = some t → k ≤ i → ∃ A n c B m d C q f, vs[i]? = some (.agg #[.int .u8 t.ph, .int .i64 t.ba, .slice A n c, .string t.wi, .string t.va, .slice B m d, .slice C q f]) ∧ Rd V A n (ic t.ms) ∧ RdP V B m t.ps ∧ Rd V C q (ic t.ac))
theorem TsMid.start {V W : World} {base : Nat} {xs : List Value} {ts : List AM.At} (h : TsIs V xs ts) : TsMid V W base 0 xs ts := by
 obtain ⟨vs, hl, e, hall⟩ := h
 exact ⟨vs, hl, e, fun i t _ h => absurd h (by omega), fun i t ht _ => hall i t ht⟩
theorem TsMid.below {V W W' : World} {base k : Nat} {xs : List Value} {ts : List AM.At} (h : TsMid V W base k xs ts) (hb : Below W.heap.size W W') : TsMid V W' base k xs ts := by
 obtain ⟨vs, hl, e, h1, h2⟩ := h
 refine ⟨vs, hl, e, fun i t ht hk => ?_, h2⟩
 obtain ⟨v, hv, ho⟩ := h1 i t ht hk
 exact ⟨v, hv, ho.below hb⟩
theorem TsMid.kept {V W W' : World} {base k : Nat} {xs : List Value} {ts : List AM.At} {S : TypeId → Prop} (h : TsMid V W base k xs ts) (kk : Kept S W W') (h1 : ¬ S 3) (h2 : ¬ S 86) : TsMid V W' base k xs ts := by
 obtain ⟨vs, hl, e, h3, h4⟩ := h
 refine ⟨vs, hl, e, fun i t ht hk => ?_, h4⟩
 obtain ⟨v, hv, ho⟩ := h3 i t ht hk
 exact ⟨v, hv, kk.at_ ho h1 h2⟩
theorem TsMid.end_ {V W : World} {base : Nat} {xs : List Value} {ts : List AM.At} (h : TsMid V W base ts.length xs ts) : TsRow W base xs ts := by
 obtain ⟨vs, hl, e, h1, h2⟩ := h
 exact ⟨vs, hl, e, fun i t ht => h1 i t ht (List.getElem?_eq_some_iff.1 ht).1⟩
theorem TsMid.len {V W : World} {base k : Nat} {vs : List Value} {ts : List AM.At} (hl : vs.length = ts.length) (h1 : ∀ (i : Nat) t, ts[i]? = some t → i < k → ∃ v, vs[i]? = some v ∧ AtOwn W base v t)
  (h2 : ∀ (i : Nat) t, ts[i]? = some t → k ≤ i → ∃ A n c B m d C q f, vs[i]? = some (.agg #[.int .u8 t.ph, .int .i64 t.ba, .slice A n c, .string t.wi, .string t.va, .slice B m d, .slice C q f]) ∧ Rd V A n (ic t.ms) ∧ RdP V B m t.ps ∧ Rd V C q (ic t.ac)) : ∀ v ∈ vs, (tcell v).length = 7 := by
 intro v hv
 obtain ⟨i, hi⟩ := List.getElem?_of_mem hv
 have hi' : i < ts.length := by rw [← hl]; exact (List.getElem?_eq_some_iff.1 hi).1
 rcases Nat.lt_or_ge i k with hk | hk
 ·obtain ⟨v', hv', ho⟩ := h1 i _ (List.getElem?_eq_getElem hi') hk
  rw [hi] at hv'
  injection hv' with hv'
  subst hv'
  exact tcell_at ho
 ·obtain ⟨_, _, _, _, _, _, _, _, _, hv', _⟩ := h2 i _ (List.getElem?_eq_getElem hi') hk
  rw [hi] at hv'
  injection hv' with hv'
  subst hv'
  rfl
theorem TsMid.at_ {V W : World} {base k : Nat} {xs : List Value} {ts : List AM.At} {t : AM.At} (h : TsMid V W base k xs ts) (ht : ts[k]? = some t) :
  ∃ A n c B m d C q f, (∀ j, j < 7 → xs[k * 7 + j]? = (tcell (.agg #[.int .u8 t.ph, .int .i64 t.ba, .slice A n c, .string t.wi, .string t.va, .slice B m d, .slice C q f]))[j]?) ∧ Rd V A n (ic t.ms) ∧ RdP V B m t.ps ∧ Rd V C q (ic t.ac) := by
 obtain ⟨vs, hl, rfl, h1, h2⟩ := h
 obtain ⟨A, n, c, B, m, d, C, q, f, hv, r⟩ := h2 k t ht n!
 exact ⟨A, n, c, B, m, d, C, q, f, flat_get (TsMid.len hl h1 h2) hv, r⟩
theorem TsMid.put {V W : World} {base k : Nat} {xs : List Value} {ts : List AM.At} {t : AM.At} {v : Value} (h : TsMid V W base k xs ts) (ht : ts[k]? = some t) (ho : AtOwn W base v t) : TsMid V W base (k + 1) (puts xs (k * 7) (tcell v)) ts := by
 have hkl : k < ts.length := (List.getElem?_eq_some_iff.1 ht).1
 obtain ⟨vs, hl, rfl, h1, h2⟩ := h
 refine ⟨vs.set k v, by simp [hl], (flat_set (TsMid.len hl h1 h2) (tcell_at ho) (by omega)).symm, fun i x hx hi => ?_, fun i x hx hi => ?_⟩
 ·by_cases e : k = i
  ·subst e
   rw [ht] at hx
   injection hx with hx
   subst hx
   exact ⟨v, List.getElem?_set_self (by omega), ho⟩
  ·obtain ⟨v', hv', ho'⟩ := h1 i x hx (by omega)
   exact ⟨v', by rw [List.getElem?_set_ne e]; exact hv', ho'⟩
 ·obtain ⟨A, n, c, B, m, d, C, q, f, hv, r⟩ := h2 i x hx (by omega)
  exact ⟨A, n, c, B, m, d, C, q, f, by rw [List.getElem?_set_ne (by omega)]; exact hv, r⟩
theorem ts_one {W : World} {xs : List Value} {ts : List AM.At} (h : TsIs W xs ts) : ∀ u ∈ xs, u.oneCell' = true := by
 obtain ⟨vs, hl, rfl, hall⟩ := h
 intro u hu
 unfold flat at hu
 obtain ⟨v, hv, hu⟩ := List.mem_flatMap.1 hu
 obtain ⟨i, hi⟩ := List.getElem?_of_mem hv
 have hi' : i < ts.length := by rw [← hl]; exact (List.getElem?_eq_some_iff.1 hi).1
 obtain ⟨_, _, _, _, _, _, _, _, _, hv', _⟩ := hall i _ (List.getElem?_eq_getElem hi')
 rw [hi] at hv'
 injection hv' with hv'
 subst hv'
 simp [tcell, fs] at hu
 rcases hu with rfl | rfl | rfl | rfl | rfl | rfl | rfl <;> rfl
structure TwSt (W wx : World) (gb gr : Nat) (a b c d e : Value) : Prop where
 bx : Box wx gb 28 #[a, b, c, d, e]
 br : Box wx gr 28 #[.slice none 0 0, .slice none 0 0, .slice none 0 0, .slice none 0 0, .slice none 0 0]
 bl : Below W.heap.size W wx
 hb : W.heap.size ≤ gb
 hr : W.heap.size ≤ gr
 ne : gr ≠ gb
section
variable {W wx wy : World} {gb gr : Nat} {a b c d e : Value}
theorem TwSt.below (h : TwSt W wx gb gr a b c d e) (k : Below wx.heap.size wx wy) : TwSt W wy gb gr a b c d e :=
 ⟨h.bx.below k h.bx.lt, h.br.below k h.br.lt, bmore h.bl k n!, h.hb, h.hr, h.ne⟩
theorem TwSt.kept {S : TypeId → Prop} (h : TwSt W wx gb gr a b c d e) (k : Kept S wx wy) (hS : ¬ S 28) (hbl : Below W.heap.size W wy) : TwSt W wy gb gr a b c d e :=
 ⟨k.box _ _ _ hS h.bx, k.box _ _ _ hS h.br, hbl, h.hb, h.hr, h.ne⟩
theorem TwSt.s0 (h : TwSt W wx gb gr a b c d e) (x : Value) : TwSt W (wx.setCell ⟨gb, 0, none⟩ x) gb gr x b c d e :=
 ⟨by simpa using h.bx.stored 0 x, h.br.far (p := ⟨gb, 0, none⟩) h.ne x, h.bl.setCell (p := ⟨gb, 0, none⟩) h.hb x, h.hb, h.hr, h.ne⟩
theorem TwSt.s1 (h : TwSt W wx gb gr a b c d e) (x : Value) : TwSt W (wx.setCell ⟨gb, 1, none⟩ x) gb gr a x c d e :=
 ⟨by simpa using h.bx.stored 1 x, h.br.far (p := ⟨gb, 1, none⟩) h.ne x, h.bl.setCell (p := ⟨gb, 1, none⟩) h.hb x, h.hb, h.hr, h.ne⟩
theorem TwSt.s2 (h : TwSt W wx gb gr a b c d e) (x : Value) : TwSt W (wx.setCell ⟨gb, 2, none⟩ x) gb gr a b x d e :=
 ⟨by simpa using h.bx.stored 2 x, h.br.far (p := ⟨gb, 2, none⟩) h.ne x, h.bl.setCell (p := ⟨gb, 2, none⟩) h.hb x, h.hb, h.hr, h.ne⟩
theorem TwSt.s3 (h : TwSt W wx gb gr a b c d e) (x : Value) : TwSt W (wx.setCell ⟨gb, 3, none⟩ x) gb gr a b c x e :=
 ⟨by simpa using h.bx.stored 3 x, h.br.far (p := ⟨gb, 3, none⟩) h.ne x, h.bl.setCell (p := ⟨gb, 3, none⟩) h.hb x, h.hb, h.hr, h.ne⟩
theorem TwSt.s4 (h : TwSt W wx gb gr a b c d e) (x : Value) : TwSt W (wx.setCell ⟨gb, 4, none⟩ x) gb gr a b c d x :=
 ⟨by simpa using h.bx.stored 4 x, h.br.far (p := ⟨gb, 4, none⟩) h.ne x, h.bl.setCell (p := ⟨gb, 4, none⟩) h.hb x, h.hb, h.hr, h.ne⟩
end
def WRet (w : DC.Wd) (W : World) (e : Ending) (W' : World) : Prop := ∃ v, e = .returned v ∧ WOwn W' W.heap.size v w ∧ Below W.heap.size W W'
def TwRel (W : World) (gb gr : Nat) (w : DC.Wd) (A0 A1 A2 A3 A4 : Option Addr) (c0 c1 c2 c3 c4 k : Nat) (wr : World) : Prop :=
 TwSt W wr gb gr (.slice A0 w.ms.length c0) (.slice A1 w.vs.length c1) (.slice A2 w.ts.length c2) (.slice A3 w.ml.length c3) (.slice A4 w.ch.length c4) ∧
 wr.ownsRow W.heap.size 3 1 (.slice A0 w.ms.length c0) w.ms.length (ic w.ms) ∧ wr.ownsRow W.heap.size 59 3 (.slice A1 w.vs.length c1) w.vs.length (flat vcell w.vs) ∧
 ∃ xs, wr.ownsRow W.heap.size 57 7 (.slice A2 w.ts.length c2) w.ts.length xs ∧ TsMid W wr W.heap.size k xs w.ts
theorem TwRel.below {W wx wy : World} {gb gr : Nat} {w : DC.Wd} {A0 A1 A2 A3 A4 : Option Addr} {c0 c1 c2 c3 c4 k : Nat} (h : TwRel W gb gr w A0 A1 A2 A3 A4 c0 c1 c2 c3 c4 k wx) (hb : Below wx.heap.size wx wy) : TwRel W gb gr w A0 A1 A2 A3 A4 c0 c1 c2 c3 c4 k wy := by
 obtain ⟨h1, h2, h3, xs, h4, h5⟩ := h
 exact ⟨h1.below hb, own_below3 h2 hb, own_below3 h3 hb, xs, own_below3 h4 hb, h5.below hb⟩
def isW (e : TypeId) : Prop := e = 28
theorem isW_w : isW 28 := rfl
set_option maxRecDepth 100000 in
set_option maxHeartbeats 8000000 in
theorem wtwin_any (v : Value) (w : DC.Wd) (W : World) (H : WIs W v w) (F : WFit w) :
  Calls Tryz.prog 9 #[v] W (WRet w W) := by
 obtain ⟨A0, c0, A1, c1, A2, c2, A3, c3, A4, c4, xs, rfl, R⟩ := H
 have HC0 := h! (fun (U : World) (hU : Below W.heap.size W U) => cloneI_any A0 w.ms.length c0 (ic w.ms) U (R.h0.below hU).g (ic_one _) F.l0)
 have HC1 := h! (fun (U : World) (hU : Below W.heap.size W U) => cloneV_any A1 w.vs.length c1 (flat vcell w.vs) U (R.h1.below hU) (one_flat v_one _) F.l1)
 have HC2 := h! (fun (U : World) (hU : Below W.heap.size W U) => cloneT_any A2 w.ts.length c2 xs U (R.h2.below hU) (ts_one R.ht) F.l2)
 have HC3 := h! (fun (U : World) (hU : Below W.heap.size W U) => cloneM_any A3 w.ml.length c3 (flat mcell w.ml) U (R.h3.below hU) (one_flat m_one _) F.l3)
 have HC4 := h! (fun (U : World) (hU : Below W.heap.size W U) => cloneC_any A4 w.ch.length c4 (flat ccell w.ch) U (R.h4.below hU) (one_flat c_one _) F.l4)
 have HTS := h! R.ht
 have HFT := h! F.ts
 have hL2 := F.l2
 obtain ⟨W0, hW0⟩ : ∃ W0, W0 = (W.alloc (.cells #[.slice A0 w.ms.length c0, .slice A1 w.vs.length c1, .slice A2 w.ts.length c2, .slice A3 w.ml.length c3, .slice A4 w.ch.length c4] 28)).alloc (.cells #[.slice none 0 0, .slice none 0 0, .slice none 0 0, .slice none 0 0, .slice none 0 0] 28) := ⟨_, rfl⟩
 have hs0 : TwSt W W0 W.heap.size (W.heap.size + 1) (.slice A0 w.ms.length c0) (.slice A1 w.vs.length c1) (.slice A2 w.ts.length c2) (.slice A3 w.ml.length c3) (.slice A4 w.ch.length c4) := by
  refine ⟨?_, ?_, ?_, Nat.le_refl _, by omega, by omega⟩
  ·rw [hW0]; exact (Box.new _ _ _).below ((Below.refl _ _).alloc n! _) (by simp)
  ·rw [hW0]
   have := Box.new (W.alloc (.cells #[.slice A0 w.ms.length c0, .slice A1 w.vs.length c1, .slice A2 w.ts.length c2, .slice A3 w.ml.length c3, .slice A4 w.ch.length c4] 28)) 28 #[.slice none 0 0, .slice none 0 0, .slice none 0 0, .slice none 0 0, .slice none 0 0]
   rwa [show (W.alloc (.cells #[.slice A0 w.ms.length c0, .slice A1 w.vs.length c1, .slice A2 w.ts.length c2, .slice A3 w.ml.length c3, .slice A4 w.ch.length c4] 28)).heap.size = W.heap.size + 1 by simp] at this
  ·rw [hW0]; exact ((Below.refl _ _).alloc n! _).alloc (by simp) _
 have HS0 := h! hs0
 have mixed : Tryz.prog.follows Departure.mixedOrders = true := by kernel_rfl
 clear hs0 R F
 go_enter Tryz.func9, Tryz.ntmps9
 go_wp2_with fail
 rw [← hW0]
 clear hW0
 obtain ⟨gr, hgr⟩ : ∃ gr, gr = W.heap.size + 1 := ⟨_, rfl⟩
 rw [← hgr] at HS0 ⊢
 clear hgr
 obtain ⟨gb, hgb⟩ : ∃ gb, gb = W.heap.size := ⟨_, rfl⟩
 rw [← hgb] at HS0
 rw [← hgb]
 clear hgb
 refine (HC0.out _ HS0.out.bl).mono ?_
 rintro e w1 ⟨B0, d0, rfl, o0, b1⟩
 have st := HS0.out.below b1
 obtain ⟨⟨x0, x1, x2, x3, x4⟩, z0, z1, z2, z3, z4⟩ := st.bx.five
 have HS1 := h! (st.s0 (.slice B0 w.ms.length d0))
 have O0 := h! (own_base (base' := W.heap.size) (own_setother (i := 0) o0 st.bx (by decide) (.slice B0 w.ms.length d0)) HS0.out.bl.size)
 clear st o0 b1 HS0 HC0
 go_wp2_with fail
 generalize w1.setCell ⟨gb, 0, none⟩ (.slice B0 w.ms.length d0) = u1 at HS1 O0 ⊢
 clear x0 x1 x2 x3 x4 z0 z1 z2 z3 z4
 refine (HC1.out _ HS1.out.bl).mono ?_
 rintro e w2 ⟨B1, d1, rfl, o1, b2⟩
 have st := HS1.out.below b2
 obtain ⟨⟨x0, x1, x2, x3, x4⟩, z0, z1, z2, z3, z4⟩ := st.bx.five
 have HS2 := h! (st.s1 (.slice B1 w.vs.length d1))
 have O1 := h! (own_base (base' := W.heap.size) (own_setother (i := 1) o1 st.bx (by decide) (.slice B1 w.vs.length d1)) HS1.out.bl.size)
 have O0x := h! (own_setother (i := 1) (own_below3 O0.out b2) st.bx (by decide) (.slice B1 w.vs.length d1))
 clear st o1 b2 HS1 HC1 O0
 go_wp2_with fail
 generalize w2.setCell ⟨gb, 1, none⟩ (.slice B1 w.vs.length d1) = u2 at HS2 O1 O0x ⊢
 clear x0 x1 x2 x3 x4 z0 z1 z2 z3 z4
 have O0 := O0x
 clear O0x
 refine (HC2.out _ HS2.out.bl).mono ?_
 rintro e w3 ⟨B2, d2, rfl, o2, b3⟩
 have st := HS2.out.below b3
 obtain ⟨⟨x0, x1, x2, x3, x4⟩, z0, z1, z2, z3, z4⟩ := st.bx.five
 have HS3 := h! (st.s2 (.slice B2 w.ts.length d2))
 have O2 := h! (own_base (base' := W.heap.size) (own_setother (i := 2) o2 st.bx (by decide) (.slice B2 w.ts.length d2)) HS2.out.bl.size)
 have O0x := h! (own_setother (i := 2) (own_below3 O0.out b3) st.bx (by decide) (.slice B2 w.ts.length d2))
 have O1x := h! (own_setother (i := 2) (own_below3 O1.out b3) st.bx (by decide) (.slice B2 w.ts.length d2))
 clear st o2 b3 HS2 HC2 O0 O1
 go_wp2_with fail
 generalize w3.setCell ⟨gb, 2, none⟩ (.slice B2 w.ts.length d2) = u3 at HS3 O2 O0x O1x ⊢
 clear x0 x1 x2 x3 x4 z0 z1 z2 z3 z4
 have O0 := O0x
 clear O0x
 have O1 := O1x
 clear O1x
 have HR := h! (show TwRel W gb gr w B0 B1 B2 A3 A4 d0 d1 d2 c3 c4 0 u3 from ⟨HS3.out, O0.out, O1.out, xs, O2.out, TsMid.start HTS.out⟩)
 clear HS3 O0 O1 O2 HTS
 go_loopw [20] (fun i wr => ∃ k : Nat, k ≤ w.ts.length ∧ i = .int .i64 k ∧ Hid (TwRel W gb gr w B0 B1 B2 A3 A4 d0 d1 d2 c3 c4 k wr)) (fun i _ => w.ts.length - (intOf i).toNat)
 case atStart => exact ⟨0, by omega, rfl, HR⟩
 case round =>
  clear HR
  obtain ⟨k, hk, rfl, HR⟩ := hrel
  by_cases hlt : k < w.ts.length
  ·have ht : w.ts[k]? = some w.ts[k] := List.getElem?_eq_getElem hlt
   have hF : Fit w.ts[k] := HFT.out _ (List.getElem_mem ..)
   obtain ⟨st, r0, r1, ys, r2, hmid⟩ := HR.out
   obtain ⟨q, rfl, hqb, hc⟩ := own_some r2 (by omega)
   have hqlt : q < wr.heap.size := by obtain ⟨_, cur, hx⟩ := own_block r2 (show (Value.slice (some ⟨q, 0, none⟩) w.ts.length d2).ownBlock = some q from rfl); exact hx.lt
   obtain ⟨A, n, c, B, m, d, C, qq, f, hcells, e1, e2, e3⟩ := hmid.at_ ht
   obtain ⟨t, htt⟩ : ∃ t, t = w.ts[k] := ⟨_, rfl⟩
   rw [← htt] at ht hF hcells e1 e2 e3
   clear htt
   have t0 := hc _ _ (hcells 0 (by omega))
   have t1 := hc _ _ (hcells 1 (by omega))
   have t2 := hc _ _ (hcells 2 (by omega))
   have t3 := hc _ _ (hcells 3 (by omega))
   have t4 := hc _ _ (hcells 4 (by omega))
   have t5 := hc _ _ (hcells 5 (by omega))
   have t6 := hc _ _ (hcells 6 (by omega))
   simp only [Nat.add_zero] at t0
   have HTW := h! (fun (U : World) (hU : Below W.heap.size W U) => twin_any _ t U (show AtIs U (.agg #[.int .u8 t.ph, .int .i64 t.ba, .slice A n c, .string t.wi, .string t.va, .slice B m d, .slice C qq f]) t from ⟨A, n, c, B, m, d, C, qq, f, rfl, e1.below hU, e2.below hU, e3.below hU⟩) hF)
   have hal : Below wr.heap.size wr (wr.alloc (.cells #[.int .u8 t.ph, .int .i64 t.ba, .slice A n c, .string t.wi, .string t.va, .slice B m d, .slice C qq f] 57)) := b!
   have HRA := h! (HR.out.below hal)
   have HBX := h! (Box.new wr 57 #[.int .u8 t.ph, .int .i64 t.ba, .slice A n c, .string t.wi, .string t.va, .slice B m d, .slice C qq f])
   have hqne : wr.heap.size ≠ q := by omega
   have HT := h! ht
   have HQ := h! hqb
   have i0 : (0 : Int) ≤ (k : Int) := by omega
   have i1 : (k : Int) < (w.ts.length : Int) := by omega
   clear hcells e1 e2 e3 hc st r0 r1 r2 hmid HR hal ht hF hqb hqlt
   go_upto_region 7 with (fail)
   clear t0 t1 t2 t3 t4 t5 t6
   generalize wr.alloc (.cells #[.int .u8 t.ph, .int .i64 t.ba, .slice A n c, .string t.wi, .string t.va, .slice B m d, .slice C qq f] 57) = u at HRA HBX ⊢
   generalize wr.heap.size = gM at HBX hqne ⊢
   have hd : Below u.heap.size u u.drew := (Below.refl _ _).drew
   have RD := h! (HRA.out.below hd)
   have hbx : Box u.drew gM 57 #[.int .u8 t.ph, .int .i64 t.ba, .slice A n c, .string t.wi, .string t.va, .slice B m d, .slice C qq f] := HBX.out
   have HS : Hid (∀ w', Below u.drew.heap.size u.drew w' → w'.cell? ⟨gb, 2, none⟩ = some (.slice (some ⟨q, 0, none⟩) w.ts.length d2) ∧ w'.cell? ⟨gM, 0, none⟩ = some (.int .u8 t.ph) ∧ w'.cell? ⟨gM, 1, none⟩ = some (.int .i64 t.ba) ∧ w'.cell? ⟨gM, 2, none⟩ = some (.slice A n c) ∧ w'.cell? ⟨gM, 3, none⟩ = some (.string t.wi) ∧ w'.cell? ⟨gM, 4, none⟩ = some (.string t.va) ∧ w'.cell? ⟨gM, 5, none⟩ = some (.slice B m d) ∧ w'.cell? ⟨gM, 6, none⟩ = some (.slice C qq f)) := h! (fun w' hb => by
    obtain ⟨⟨_, _, x2, _, _⟩, _⟩ := (RD.out.1.below hb).bx.five
    obtain ⟨⟨s0, s1, s2, s3, s4, s5, s6⟩, _⟩ := (hbx.below hb hbx.lt).seven
    exact ⟨x2, s0, s1, s2, s3, s4, s5, s6⟩)
   have HBX2 := h! hbx
   have htw := HTW.out u.drew RD.out.1.bl
   have HTW2 := h! htw
   clear HTW htw HRA HBX hbx hd
   refine wp_region_held_drew (S := fun w' => w'.cell? ⟨gb, 2, none⟩ = some (.slice (some ⟨q, 0, none⟩) w.ts.length d2) ∧ w'.cell? ⟨gM, 0, none⟩ = some (.int .u8 t.ph) ∧ w'.cell? ⟨gM, 1, none⟩ = some (.int .i64 t.ba) ∧ w'.cell? ⟨gM, 2, none⟩ = some (.slice A n c) ∧ w'.cell? ⟨gM, 3, none⟩ = some (.string t.wi) ∧ w'.cell? ⟨gM, 4, none⟩ = some (.string t.va) ∧ w'.cell? ⟨gM, 5, none⟩ = some (.slice B m d) ∧ w'.cell? ⟨gM, 6, none⟩ = some (.slice C qq f)) (by kernel_rfl) (HS.out _ (Below.refl _ _)) (fun hHeld => ?_)
   refine qT 0 ?_
   try simp only [Act.put, qq]
   refine qT 1 ?_
   try simp only [Act.put, qq]
   refine qT 2 ?_
   try simp only [Act.put, qq]
   refine qT 3 ?_
   try simp only [Act.put, qq]
   refine qR 4 fun K hK => ?_
   go_simp
   refine HTW2.out.mono ?_
   rintro e wa ⟨v5, rfl, hnew, hba⟩
   have hown := hnew.own
   obtain ⟨A5, c5, D5, q5, C5, f5, rfl⟩ := hown.form
   clear HTW2 hnew
   obtain ⟨st, r0, r1, ys, r2, hmid⟩ := RD.out.below hba
   have hthere := there_own (o := k * 7) (k := 7) r2 (by omega)
   obtain ⟨r2', kk⟩ := own_at7 (o := k * 7) (S := isA) r2 (by omega) rfl (.int .u8 t.ph) (.int .i64 t.ba) (.slice A5 t.ms.length c5) (.string t.wi) (.string t.va) (.slice D5 t.ps.length q5) (.slice C5 t.ac.length f5)
   have hbl2 : Below W.heap.size W (putAt7 wa q (k * 7) (.int .u8 t.ph) (.int .i64 t.ba) (.slice A5 t.ms.length c5) (.string t.wi) (.string t.va) (.slice D5 t.ps.length q5) (.slice C5 t.ac.length f5)) := below_at7 st.bl HQ.out ..
   have hmid2 := hmid.kept kk (by unfold isA; decide) (by unfold isA; decide)
   have hown2 := kk.at_ (hown.mono RD.out.1.bl.size) (by unfold isA; decide) (by unfold isA; decide)
   have NX : Hid (TwRel W gb gr w B0 B1 (some ⟨q, 0, none⟩) A3 A4 d0 d1 d2 c3 c4 (k + 1) (putAt7 wa q (k * 7) (.int .u8 t.ph) (.int .i64 t.ba) (.slice A5 t.ms.length c5) (.string t.wi) (.string t.va) (.slice D5 t.ps.length q5) (.slice C5 t.ac.length f5))) :=
    h! ⟨st.kept kk (by unfold isA; decide) hbl2, kk.own r0 (by unfold isA; decide), kk.own r1 (by unfold isA; decide), _, r2', hmid2.put HT.out hown2⟩
   have hS1 := HS.out _ hba
   have hx2 := (st.kept kk (by unfold isA; decide) hbl2).bx.five.1.2.2.1
   have hxM := box_at7 (o := k * 7) (HBX2.out.below hba HBX2.out.lt) hqne (.int .u8 t.ph) (.int .i64 t.ba) (.slice A5 t.ms.length c5) (.string t.wi) (.string t.va) (.slice D5 t.ps.length q5) (.slice C5 t.ac.length f5)
   obtain ⟨⟨s0, s1, s2, s3, s4, s5, s6⟩, _⟩ := hxM.seven
   have hS2 := And.intro hx2 (And.intro s0 (And.intro s1 (And.intro s2 (And.intro s3 (And.intro s4 (And.intro s5 s6))))))
   clear hown hba st r0 r1 r2 hmid r2' kk hbl2 hmid2 hown2 hx2 hxM s0 s1 s2 s3 s4 s5 s6 RD HS HBX2
   refine hK.out _ _ (hS1) (fun hHeld => ?_)
   clear hK
   try simp only [Act.put, qq]
   refine qT 5 ?_
   try simp only [Act.put, qq]
   refine qR 6 fun K hK => ?_
   refine step_store_mid rfl 57 _ _ rfl q (k * 7) #[.int .u8 t.ph, .int .i64 t.ba, .slice A5 t.ms.length c5, .string t.wi, .string t.va, .slice D5 t.ps.length q5, .slice C5 t.ac.length f5] (by simp [Act.eval, Act.put]) (by simp [Act.eval, Act.put]) hthere (by kernel_rfl) (by simp [Value.oneCell']) ?_
   refine hK.out _ _ (hS2) (fun hHeld => ?_)
   clear hK
   try simp only [Act.put, qq]
   refine wpAnyH_done (by kernel_rfl) ?_ _
   clear hS1 hS2 hthere
   go_wp2_with fail
   go_roundw
   case rel => exact ⟨k + 1, by omega, by go_num, NX⟩
   case measure => simp [intOf]; omega
  ·obtain rfl : k = w.ts.length := by omega
   have hd : Hid (TsRow wr W.heap.size _ w.ts) := h! HR.out.2.2.2.choose_spec.2.end_
   obtain ⟨st, r0, r1, ys, r2, hmid⟩ := HR.out
   have hts := hmid.end_
   obtain ⟨⟨x0, x1, x2, x3, x4⟩, z0, z1, z2, z3, z4⟩ := st.bx.five
   have HS3 := h! st
   have O0 := h! r0
   have O1 := h! r1
   have O2 := h! r2
   have OT := h! hts
   clear hd st r0 r1 r2 hmid hts HR HFT
   go_wp2_with fail
   refine (HC3.out _ HS3.out.bl).mono ?_
   rintro e w4 ⟨B3, d3, rfl, o3, b4⟩
   have st := HS3.out.below b4
   clear x0 x1 x2 x3 x4 z0 z1 z2 z3 z4
   obtain ⟨⟨x0, x1, x2, x3, x4⟩, z0, z1, z2, z3, z4⟩ := st.bx.five
   have HS4 := h! (st.s3 (.slice B3 w.ml.length d3))
   have kk : Kept isW wr (w4.setCell ⟨gb, 3, none⟩ (.slice B3 w.ml.length d3)) := (Kept.of_below b4).trans (Kept.set (S := isW) st.bx isW_w _)
   have O3 := h! (own_base (base' := W.heap.size) (own_setother (i := 3) o3 st.bx (by decide) (.slice B3 w.ml.length d3)) HS3.out.bl.size)
   have O0x := h! (kk.own O0.out (by unfold isW; decide))
   have O1x := h! (kk.own O1.out (by unfold isW; decide))
   have O2x := h! (kk.own O2.out (by unfold isW; decide))
   have OTx := h! (OT.out.kept kk (by unfold isW; decide) (by unfold isW; decide))
   clear st o3 b4 HS3 HC3 kk OT O0 O1 O2
   go_upto_region 10 with (fail)
   generalize w4.setCell ⟨gb, 3, none⟩ (.slice B3 w.ml.length d3) = u4 at HS4 O3 O0x O1x O2x OTx ⊢
   clear x0 x1 x2 x3 x4 z0 z1 z2 z3 z4
   have O0 := O0x
   clear O0x
   have O1 := O1x
   clear O1x
   have O2 := O2x
   clear O2x
   have OT := OTx
   clear OTx
   obtain ⟨⟨x0, x1, x2, x3, x4⟩, z0, z1, z2, z3, z4⟩ := HS4.out.bx.five
   go_wp2_with fail
   refine (HC4.out _ HS4.out.bl).mono ?_
   rintro e w5 ⟨B4, d4, rfl, o4, b5⟩
   have st := HS4.out.below b5
   clear x0 x1 x2 x3 x4 z0 z1 z2 z3 z4
   obtain ⟨⟨x0, x1, x2, x3, x4⟩, z0, z1, z2, z3, z4⟩ := st.bx.five
   have HS5 := h! (st.s4 (.slice B4 w.ch.length d4))
   have kk : Kept isW u4 (w5.setCell ⟨gb, 4, none⟩ (.slice B4 w.ch.length d4)) := (Kept.of_below b5).trans (Kept.set (S := isW) st.bx isW_w _)
   have O4 := h! (own_base (base' := W.heap.size) (own_setother (i := 4) o4 st.bx (by decide) (.slice B4 w.ch.length d4)) HS4.out.bl.size)
   have O0x := h! (kk.own O0.out (by unfold isW; decide))
   have O1x := h! (kk.own O1.out (by unfold isW; decide))
   have O2x := h! (kk.own O2.out (by unfold isW; decide))
   have O3x := h! (kk.own O3.out (by unfold isW; decide))
   have OTx := h! (OT.out.kept kk (by unfold isW; decide) (by unfold isW; decide))
   clear st o4 b5 HS4 HC4 kk OT O0 O1 O2 O3
   go_upto_region 11 with (fail)
   generalize w5.setCell ⟨gb, 4, none⟩ (.slice B4 w.ch.length d4) = u5 at HS5 O4 O0x O1x O2x O3x OTx ⊢
   clear x0 x1 x2 x3 x4 z0 z1 z2 z3 z4
   have O0 := O0x
   clear O0x
   have O1 := O1x
   clear O1x
   have O2 := O2x
   clear O2x
   have O3 := O3x
   clear O3x
   have OT := OTx
   clear OTx
   obtain ⟨⟨x0, x1, x2, x3, x4⟩, z0, z1, z2, z3, z4⟩ := HS5.out.bx.five
   obtain ⟨⟨_, _, _, _, _⟩, y0, y1, y2, y3, y4⟩ := HS5.out.br.five
   have k6 : Kept isW u5 (u5.setCells gr 0 [.slice B0 w.ms.length d0, .slice B1 w.vs.length d1, .slice B2 w.ts.length d2, .slice B3 w.ml.length d3, .slice B4 w.ch.length d4]) := kept_setCells (S := isW) isW_w _ _ HS5.out.br
   have b6 : Below W.heap.size W (u5.setCells gr 0 [.slice B0 w.ms.length d0, .slice B1 w.vs.length d1, .slice B2 w.ts.length d2, .slice B3 w.ml.length d3, .slice B4 w.ch.length d4]) := below_setCells _ _ HS5.out.bl HS5.out.hr
   have x6 := box_setAll HS5.out.br [.slice B0 w.ms.length d0, .slice B1 w.vs.length d1, .slice B2 w.ts.length d2, .slice B3 w.ml.length d3, .slice B4 w.ch.length d4] rfl
   have HF : Hid (WOwn (u5.setCells gr 0 [.slice B0 w.ms.length d0, .slice B1 w.vs.length d1, .slice B2 w.ts.length d2, .slice B3 w.ml.length d3, .slice B4 w.ch.length d4]) W.heap.size (.agg #[.slice B0 w.ms.length d0, .slice B1 w.vs.length d1, .slice B2 w.ts.length d2, .slice B3 w.ml.length d3, .slice B4 w.ch.length d4]) w) :=
    h! ⟨B0, d0, B1, d1, B2, d2, B3, d3, B4, d4, _, rfl, k6.own O0.out (by unfold isW; decide), k6.own O1.out (by unfold isW; decide), k6.own O2.out (by unfold isW; decide), OT.out.kept k6 (by unfold isW; decide) (by unfold isW; decide), k6.own O3.out (by unfold isW; decide), k6.own O4.out (by unfold isW; decide)⟩
   have HB6 := h! b6
   have HX6 := h! x6
   clear k6 b6 x6 HS5 O0 O1 O2 O3 O4 OT
   go_wp2_with fail
   obtain ⟨⟨s0, s1, s2, s3, s4⟩, _⟩ := (show Box _ gr 28 #[.slice B0 w.ms.length d0, .slice B1 w.vs.length d1, .slice B2 w.ts.length d2, .slice B3 w.ml.length d3, .slice B4 w.ch.length d4] from HX6.out).five
   have hF := HF.out
   have hB := HB6.out
   simp only [World.setCells, Nat.zero_add, Nat.reduceAdd] at s0 s1 s2 s3 s4 hF hB
   exact bodyPost_ret (v := .agg #[.slice B0 w.ms.length d0, .slice B1 w.vs.length d1, .slice B2 w.ts.length d2, .slice B3 w.ml.length d3, .slice B4 w.ch.length d4]) (by simp [results, Tryz.results9, go_sem, s0, s1, s2, s3, s4]) rfl ⟨_, rfl, hF, hB⟩
end Go.Proofs.YtiiobafcgdelmaaGreat.PD
