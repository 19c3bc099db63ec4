/-
  Package decree's Twin: a world in new memory. Conditions: the world fits.
-/
import Derived.Test.YtiiobafcgdelmaaK29
import Derived.Test.YtiiobafcgdelmaaK19
import Derived.Test.YtiiobafcgdelmaaK09
namespace Go.Proofs.Ytiiobafcgdelmaa.PD
open Go.RowKit Go.Shelf
set_option linter.unusedVariables false
set_option linter.unusedSimpArgs false

theorem info_vt : (Try.prog.info? 53).map (fun i => (i.zero, i.size, i.bytes)) = some (some (.agg #[.int .i64 0, .int .i64 0, .string ⟨#[]⟩]), 3, 32) := by kernel_rfl
theorem info_try : (Try.prog.info? 49).map (fun i => (i.zero, i.size, i.bytes)) = some (some (.agg #[.int .u8 0, .int .i64 0, .slice none 0 0, .string ⟨#[]⟩, .string ⟨#[]⟩, .slice none 0 0, .slice none 0 0]), 7, 120) := by kernel_rfl
set_option maxHeartbeats 1000000 in
theorem cloneV_any (B : Option Addr) (m d : Nat) (xs : List Value) (w : World) (hr : RdG w 3 B m xs) (h1 : ∀ u ∈ xs, u.oneCell' = true) (hm : m ≤ 2000) :
    Calls Try.prog 28 #[.slice B m d] w (RowIs 53 3 m xs w) := by
  obtain ⟨i0, hi, hz0, hz1, hz2⟩ := info_parts info_vt
  have HR := Lib.hid hr
  have H1 := Lib.hid h1
  clear hr h1
  rcases B with _ | ad
  · have hn0 : m = 0 := by
      rcases Nat.eq_zero_or_pos m with h0 | h0
      · exact h0
      · obtain ⟨ad, h, _⟩ := HR.out.2 h0; cases h
    subst hn0
    have hl0 : xs = [] := List.eq_nil_of_length_eq_zero (by simpa using HR.out.1)
    have hfin : RowIs 53 3 0 xs w (.returned (.slice none 0 0)) w := ⟨_, _, rfl, by rw [hl0]; exact World.ownsRow_nil _ _ _ _, Below.refl _ _⟩
    have HF := Lib.hid hfin; clear hfin hl0
    have hnil : ∀ W, (binOp .eql 23 (.slice none 0 d) (.slice none 0 0)).run Try.prog W = .ok (.bool true) W := fun W => Lib.run_eql_slice_nil W _ _ _ _ _ _ _ Try.underlying23
    go_enter Try.func28, Try.ntmps28
    go_wp2_with fail
    go_ret
    exact HF.out
  · have hown0 : (w.alloc (.cells #[] 53)).ownsRow w.heap.size 53 3 (.slice (some ⟨w.heap.size, 0, none⟩) 0 0) 0 [] := World.ownsRow_made w #[] 0 (Nat.le_refl _) (by unfold maxLen; omega) (by simp)
    have hr0 : RdG (w.alloc (.cells #[] 53)) 3 (some ad) m xs := RdG.alloc HR.out _
    have HO := Lib.hid hown0
    have HR0 := Lib.hid hr0
    clear hown0 hr0
    have hnil : ∀ W, (binOp .eql 23 (.slice (some ad) m d) (.slice none 0 0)).run Try.prog W = .ok (.bool false) W := fun W => Lib.run_eql_slice_nil W _ _ _ _ _ _ _ Try.underlying23
    go_enter Try.func28, Try.ntmps28
    go_wp2_with (at_builtin; refine wpList_append_g _ rfl _ _ 23 rfl w.heap.size 53 i0 _ 3 32 Try.underlying23 hi hz0 hz1 hz2 rfl (by omega) _ _ _ rfl HO.out (some ad) m d xs rfl HR0.out H1.out (by unfold maxLen; omega) (by omega) (by simp) ?_; intro v2 w2 hown2 hg2 hob2)
    go_ret
    simp only [Nat.zero_add, List.nil_append] at hown2
    obtain ⟨A', c', rfl, _, _⟩ := own_form hown2
    exact ⟨_, _, rfl, hown2, below_row ((Below.refl _ _).alloc (Nat.le_refl _) _) HO.out (by simp) hg2⟩
set_option maxHeartbeats 1000000 in
theorem cloneT_any (B : Option Addr) (m d : Nat) (xs : List Value) (w : World) (hr : RdG w 7 B m xs) (h1 : ∀ u ∈ xs, u.oneCell' = true) (hm : m ≤ 2000) :
    Calls Try.prog 29 #[.slice B m d] w (RowIs 49 7 m xs w) := by
  obtain ⟨i0, hi, hz0, hz1, hz2⟩ := info_parts info_try
  have HR := Lib.hid hr
  have H1 := Lib.hid h1
  clear hr h1
  rcases B with _ | ad
  · have hn0 : m = 0 := by
      rcases Nat.eq_zero_or_pos m with h0 | h0
      · exact h0
      · obtain ⟨ad, h, _⟩ := HR.out.2 h0; cases h
    subst hn0
    have hl0 : xs = [] := List.eq_nil_of_length_eq_zero (by simpa using HR.out.1)
    have hfin : RowIs 49 7 0 xs w (.returned (.slice none 0 0)) w := ⟨_, _, rfl, by rw [hl0]; exact World.ownsRow_nil _ _ _ _, Below.refl _ _⟩
    have HF := Lib.hid hfin; clear hfin hl0
    have hnil : ∀ W, (binOp .eql 24 (.slice none 0 d) (.slice none 0 0)).run Try.prog W = .ok (.bool true) W := fun W => Lib.run_eql_slice_nil W _ _ _ _ _ _ _ Try.underlying24
    go_enter Try.func29, Try.ntmps29
    go_wp2_with fail
    go_ret
    exact HF.out
  · have hown0 : (w.alloc (.cells #[] 49)).ownsRow w.heap.size 49 7 (.slice (some ⟨w.heap.size, 0, none⟩) 0 0) 0 [] := World.ownsRow_made w #[] 0 (Nat.le_refl _) (by unfold maxLen; omega) (by simp)
    have hr0 : RdG (w.alloc (.cells #[] 49)) 7 (some ad) m xs := RdG.alloc HR.out _
    have HO := Lib.hid hown0
    have HR0 := Lib.hid hr0
    clear hown0 hr0
    have hnil : ∀ W, (binOp .eql 24 (.slice (some ad) m d) (.slice none 0 0)).run Try.prog W = .ok (.bool false) W := fun W => Lib.run_eql_slice_nil W _ _ _ _ _ _ _ Try.underlying24
    go_enter Try.func29, Try.ntmps29
    go_wp2_with (at_builtin; refine wpList_append_g _ rfl _ _ 24 rfl w.heap.size 49 i0 _ 7 120 Try.underlying24 hi hz0 hz1 hz2 rfl (by omega) _ _ _ rfl HO.out (some ad) m d xs rfl HR0.out H1.out (by unfold maxLen; omega) (by omega) (by simp) ?_; intro v2 w2 hown2 hg2 hob2)
    go_ret
    simp only [Nat.zero_add, List.nil_append] at hown2
    obtain ⟨A', c', rfl, _, _⟩ := own_form hown2
    exact ⟨_, _, rfl, hown2, below_row ((Below.refl _ _).alloc (Nat.le_refl _) _) HO.out (by simp) hg2⟩
set_option maxHeartbeats 1000000 in
theorem cloneM_any (B : Option Addr) (m d : Nat) (xs : List Value) (w : World) (hr : RdG w 10 B m xs) (h1 : ∀ u ∈ xs, u.oneCell' = true) (hm : m ≤ 2000) :
    Calls Try.prog 31 #[.slice B m d] w (RowIs 40 10 m xs w) := by
  obtain ⟨i0, hi, hz0, hz1, hz2⟩ := info_parts info_mail
  have HR := Lib.hid hr
  have H1 := Lib.hid h1
  clear hr h1
  rcases B with _ | ad
  · have hn0 : m = 0 := by
      rcases Nat.eq_zero_or_pos m with h0 | h0
      · exact h0
      · obtain ⟨ad, h, _⟩ := HR.out.2 h0; cases h
    subst hn0
    have hl0 : xs = [] := List.eq_nil_of_length_eq_zero (by simpa using HR.out.1)
    have hfin : RowIs 40 10 0 xs w (.returned (.slice none 0 0)) w := ⟨_, _, rfl, by rw [hl0]; exact World.ownsRow_nil _ _ _ _, Below.refl _ _⟩
    have HF := Lib.hid hfin; clear hfin hl0
    have hnil : ∀ W, (binOp .eql 25 (.slice none 0 d) (.slice none 0 0)).run Try.prog W = .ok (.bool true) W := fun W => Lib.run_eql_slice_nil W _ _ _ _ _ _ _ Try.underlying25
    go_enter Try.func31, Try.ntmps31
    go_wp2_with fail
    go_ret
    exact HF.out
  · have hown0 : (w.alloc (.cells #[] 40)).ownsRow w.heap.size 40 10 (.slice (some ⟨w.heap.size, 0, none⟩) 0 0) 0 [] := World.ownsRow_made w #[] 0 (Nat.le_refl _) (by unfold maxLen; omega) (by simp)
    have hr0 : RdG (w.alloc (.cells #[] 40)) 10 (some ad) m xs := RdG.alloc HR.out _
    have HO := Lib.hid hown0
    have HR0 := Lib.hid hr0
    clear hown0 hr0
    have hnil : ∀ W, (binOp .eql 25 (.slice (some ad) m d) (.slice none 0 0)).run Try.prog W = .ok (.bool false) W := fun W => Lib.run_eql_slice_nil W _ _ _ _ _ _ _ Try.underlying25
    go_enter Try.func31, Try.ntmps31
    go_wp2_with (at_builtin; refine wpList_append_g _ rfl _ _ 25 rfl w.heap.size 40 i0 _ 10 88 Try.underlying25 hi hz0 hz1 hz2 rfl (by omega) _ _ _ rfl HO.out (some ad) m d xs rfl HR0.out H1.out (by unfold maxLen; omega) (by omega) (by simp) ?_; intro v2 w2 hown2 hg2 hob2)
    go_ret
    simp only [Nat.zero_add, List.nil_append] at hown2
    obtain ⟨A', c', rfl, _, _⟩ := own_form hown2
    exact ⟨_, _, rfl, hown2, below_row ((Below.refl _ _).alloc (Nat.le_refl _) _) HO.out (by simp) hg2⟩
set_option maxHeartbeats 1000000 in
theorem cloneC_any (B : Option Addr) (m d : Nat) (xs : List Value) (w : World) (hr : RdG w 2 B m xs) (h1 : ∀ u ∈ xs, u.oneCell' = true) (hm : m ≤ 2000) :
    Calls Try.prog 32 #[.slice B m d] w (RowIs 43 2 m xs w) := by
  obtain ⟨i0, hi, hz0, hz1, hz2⟩ := info_parts info_choice
  have HR := Lib.hid hr
  have H1 := Lib.hid h1
  clear hr h1
  rcases B with _ | ad
  · have hn0 : m = 0 := by
      rcases Nat.eq_zero_or_pos m with h0 | h0
      · exact h0
      · obtain ⟨ad, h, _⟩ := HR.out.2 h0; cases h
    subst hn0
    have hl0 : xs = [] := List.eq_nil_of_length_eq_zero (by simpa using HR.out.1)
    have hfin : RowIs 43 2 0 xs w (.returned (.slice none 0 0)) w := ⟨_, _, rfl, by rw [hl0]; exact World.ownsRow_nil _ _ _ _, Below.refl _ _⟩
    have HF := Lib.hid hfin; clear hfin hl0
    have hnil : ∀ W, (binOp .eql 26 (.slice none 0 d) (.slice none 0 0)).run Try.prog W = .ok (.bool true) W := fun W => Lib.run_eql_slice_nil W _ _ _ _ _ _ _ Try.underlying26
    go_enter Try.func32, Try.ntmps32
    go_wp2_with fail
    go_ret
    exact HF.out
  · have hown0 : (w.alloc (.cells #[] 43)).ownsRow w.heap.size 43 2 (.slice (some ⟨w.heap.size, 0, none⟩) 0 0) 0 [] := World.ownsRow_made w #[] 0 (Nat.le_refl _) (by unfold maxLen; omega) (by simp)
    have hr0 : RdG (w.alloc (.cells #[] 43)) 2 (some ad) m xs := RdG.alloc HR.out _
    have HO := Lib.hid hown0
    have HR0 := Lib.hid hr0
    clear hown0 hr0
    have hnil : ∀ W, (binOp .eql 26 (.slice (some ad) m d) (.slice none 0 0)).run Try.prog W = .ok (.bool false) W := fun W => Lib.run_eql_slice_nil W _ _ _ _ _ _ _ Try.underlying26
    go_enter Try.func32, Try.ntmps32
    go_wp2_with (at_builtin; refine wpList_append_g _ rfl _ _ 26 rfl w.heap.size 43 i0 _ 2 24 Try.underlying26 hi hz0 hz1 hz2 rfl (by omega) _ _ _ rfl HO.out (some ad) m d xs rfl HR0.out H1.out (by unfold maxLen; omega) (by omega) (by simp) ?_; intro v2 w2 hown2 hg2 hob2)
    go_ret
    simp only [Nat.zero_add, List.nil_append] at hown2
    obtain ⟨A', c', rfl, _, _⟩ := own_form hown2
    exact ⟨_, _, rfl, hown2, below_row ((Below.refl _ _).alloc (Nat.le_refl _) _) HO.out (by simp) hg2⟩

/-- a row of attempts, the first k of them in new memory, the others as they are in V -/
def TsMid (V W : World) (base k : Nat) (xs : List Value) (ts : List AM.At) : Prop :=
  ∃ vs : List Value, vs.length = ts.length ∧ xs = flat tcell vs ∧ (∀ (i : Nat) t, ts[i]? = some t → i < k → ∃ v, vs[i]? = some v ∧ AtOwn W base v t) ∧
    (∀ (i : Nat) t, ts[i]? = some t → k ≤ i → ∃ A n c B m d C q f, vs[i]? = some (.agg #[.int .u8 t.ph, .int .i64 t.ba, .slice A n c, .string t.wi, .string t.va, .slice B m d, .slice C q f]) ∧ Rd V A n (ic t.ms) ∧ RdP V B m t.ps ∧ Rd V C q (ic t.ac))
theorem TsMid.start {V W : World} {base : Nat} {xs : List Value} {ts : List AM.At} (h : TsIs V xs ts) : TsMid V W base 0 xs ts := by
  obtain ⟨vs, hl, e, hall⟩ := h
  exact ⟨vs, hl, e, fun i t _ h => absurd h (by omega), fun i t ht _ => hall i t ht⟩
theorem TsMid.below {V W W' : World} {base k : Nat} {xs : List Value} {ts : List AM.At} (h : TsMid V W base k xs ts) (hb : Below W.heap.size W W') : TsMid V W' base k xs ts := by
  obtain ⟨vs, hl, e, h1, h2⟩ := h
  refine ⟨vs, hl, e, fun i t ht hk => ?_, h2⟩
  obtain ⟨v, hv, ho⟩ := h1 i t ht hk
  exact ⟨v, hv, ho.below hb⟩
theorem TsMid.kept {V W W' : World} {base k : Nat} {xs : List Value} {ts : List AM.At} {S : TypeId → Prop} (h : TsMid V W base k xs ts) (kk : Kept S W W') (h1 : ¬ S 3) (h2 : ¬ S 79) : TsMid V W' base k xs ts := by
  obtain ⟨vs, hl, e, h3, h4⟩ := h
  refine ⟨vs, hl, e, fun i t ht hk => ?_, h4⟩
  obtain ⟨v, hv, ho⟩ := h3 i t ht hk
  exact ⟨v, hv, kk.at_ ho h1 h2⟩
theorem TsMid.end_ {V W : World} {base : Nat} {xs : List Value} {ts : List AM.At} (h : TsMid V W base ts.length xs ts) : TsRow W base xs ts := by
  obtain ⟨vs, hl, e, h1, h2⟩ := h
  exact ⟨vs, hl, e, fun i t ht => h1 i t ht (List.getElem?_eq_some_iff.1 ht).1⟩
theorem TsMid.len {V W : World} {base k : Nat} {vs : List Value} {ts : List AM.At} (hl : vs.length = ts.length) (h1 : ∀ (i : Nat) t, ts[i]? = some t → i < k → ∃ v, vs[i]? = some v ∧ AtOwn W base v t)
    (h2 : ∀ (i : Nat) t, ts[i]? = some t → k ≤ i → ∃ A n c B m d C q f, vs[i]? = some (.agg #[.int .u8 t.ph, .int .i64 t.ba, .slice A n c, .string t.wi, .string t.va, .slice B m d, .slice C q f]) ∧ Rd V A n (ic t.ms) ∧ RdP V B m t.ps ∧ Rd V C q (ic t.ac)) : ∀ v ∈ vs, (tcell v).length = 7 := by
  intro v hv
  obtain ⟨i, hi⟩ := List.getElem?_of_mem hv
  have hi' : i < ts.length := by rw [← hl]; exact (List.getElem?_eq_some_iff.1 hi).1
  rcases Nat.lt_or_ge i k with hk | hk
  · obtain ⟨v', hv', ho⟩ := h1 i _ (List.getElem?_eq_getElem hi') hk
    rw [hi] at hv'
    injection hv' with hv'
    subst hv'
    exact tcell_at ho
  · obtain ⟨_, _, _, _, _, _, _, _, _, hv', _⟩ := h2 i _ (List.getElem?_eq_getElem hi') hk
    rw [hi] at hv'
    injection hv' with hv'
    subst hv'
    rfl
/-- the k-th one, not yet in new memory -/
theorem TsMid.at_ {V W : World} {base k : Nat} {xs : List Value} {ts : List AM.At} {t : AM.At} (h : TsMid V W base k xs ts) (ht : ts[k]? = some t) :
    ∃ A n c B m d C q f, (∀ j, j < 7 → xs[k * 7 + j]? = (tcell (.agg #[.int .u8 t.ph, .int .i64 t.ba, .slice A n c, .string t.wi, .string t.va, .slice B m d, .slice C q f]))[j]?) ∧ Rd V A n (ic t.ms) ∧ RdP V B m t.ps ∧ Rd V C q (ic t.ac) := by
  obtain ⟨vs, hl, rfl, h1, h2⟩ := h
  obtain ⟨A, n, c, B, m, d, C, q, f, hv, r⟩ := h2 k t ht (Nat.le_refl _)
  exact ⟨A, n, c, B, m, d, C, q, f, flat_get (TsMid.len hl h1 h2) hv, r⟩
/-- it is put into new memory -/
theorem TsMid.put {V W : World} {base k : Nat} {xs : List Value} {ts : List AM.At} {t : AM.At} {v : Value} (h : TsMid V W base k xs ts) (ht : ts[k]? = some t) (ho : AtOwn W base v t) : TsMid V W base (k + 1) (puts xs (k * 7) (tcell v)) ts := by
  have hkl : k < ts.length := (List.getElem?_eq_some_iff.1 ht).1
  obtain ⟨vs, hl, rfl, h1, h2⟩ := h
  refine ⟨vs.set k v, by simp [hl], (flat_set (TsMid.len hl h1 h2) (tcell_at ho) (by omega)).symm, fun i x hx hi => ?_, fun i x hx hi => ?_⟩
  · by_cases e : k = i
    · subst e
      rw [ht] at hx
      injection hx with hx
      subst hx
      exact ⟨v, List.getElem?_set_self (by omega), ho⟩
    · obtain ⟨v', hv', ho'⟩ := h1 i x hx (by omega)
      exact ⟨v', by rw [List.getElem?_set_ne e]; exact hv', ho'⟩
  · obtain ⟨A, n, c, B, m, d, C, q, f, hv, r⟩ := h2 i x hx (by omega)
    exact ⟨A, n, c, B, m, d, C, q, f, by rw [List.getElem?_set_ne (by omega)]; exact hv, r⟩
theorem ts_one {W : World} {xs : List Value} {ts : List AM.At} (h : TsIs W xs ts) : ∀ u ∈ xs, u.oneCell' = true := by
  obtain ⟨vs, hl, rfl, hall⟩ := h
  intro u hu
  unfold flat at hu
  obtain ⟨v, hv, hu⟩ := List.mem_flatMap.1 hu
  obtain ⟨i, hi⟩ := List.getElem?_of_mem hv
  have hi' : i < ts.length := by rw [← hl]; exact (List.getElem?_eq_some_iff.1 hi).1
  obtain ⟨_, _, _, _, _, _, _, _, _, hv', _⟩ := hall i _ (List.getElem?_eq_getElem hi')
  rw [hi] at hv'
  injection hv' with hv'
  subst hv'
  simp [tcell, fs] at hu
  rcases hu with rfl | rfl | rfl | rfl | rfl | rfl | rfl <;> rfl
/-- a block of five slices is turned, and another one beside it is not -/
structure TwSt (W wx : World) (gb gr : Nat) (a b c d e : Value) : Prop where
  bx : Box wx gb 28 #[a, b, c, d, e]
  br : Box wx gr 28 #[.slice none 0 0, .slice none 0 0, .slice none 0 0, .slice none 0 0, .slice none 0 0]
  bl : Below W.heap.size W wx
  hb : W.heap.size ≤ gb
  hr : W.heap.size ≤ gr
  ne : gr ≠ gb
section
variable {W wx wy : World} {gb gr : Nat} {a b c d e : Value}
theorem TwSt.below (h : TwSt W wx gb gr a b c d e) (k : Below wx.heap.size wx wy) : TwSt W wy gb gr a b c d e :=
  ⟨h.bx.below k h.bx.lt, h.br.below k h.br.lt, bmore h.bl k (Nat.le_refl _), h.hb, h.hr, h.ne⟩
theorem TwSt.kept {S : TypeId → Prop} (h : TwSt W wx gb gr a b c d e) (k : Kept S wx wy) (hS : ¬ S 28) (hbl : Below W.heap.size W wy) : TwSt W wy gb gr a b c d e :=
  ⟨k.box _ _ _ hS h.bx, k.box _ _ _ hS h.br, hbl, h.hb, h.hr, h.ne⟩
theorem TwSt.s0 (h : TwSt W wx gb gr a b c d e) (x : Value) : TwSt W (wx.setCell ⟨gb, 0, none⟩ x) gb gr x b c d e :=
  ⟨by simpa using h.bx.stored 0 x, h.br.far (p := ⟨gb, 0, none⟩) h.ne x, h.bl.setCell (p := ⟨gb, 0, none⟩) h.hb x, h.hb, h.hr, h.ne⟩
theorem TwSt.s1 (h : TwSt W wx gb gr a b c d e) (x : Value) : TwSt W (wx.setCell ⟨gb, 1, none⟩ x) gb gr a x c d e :=
  ⟨by simpa using h.bx.stored 1 x, h.br.far (p := ⟨gb, 1, none⟩) h.ne x, h.bl.setCell (p := ⟨gb, 1, none⟩) h.hb x, h.hb, h.hr, h.ne⟩
theorem TwSt.s2 (h : TwSt W wx gb gr a b c d e) (x : Value) : TwSt W (wx.setCell ⟨gb, 2, none⟩ x) gb gr a b x d e :=
  ⟨by simpa using h.bx.stored 2 x, h.br.far (p := ⟨gb, 2, none⟩) h.ne x, h.bl.setCell (p := ⟨gb, 2, none⟩) h.hb x, h.hb, h.hr, h.ne⟩
theorem TwSt.s3 (h : TwSt W wx gb gr a b c d e) (x : Value) : TwSt W (wx.setCell ⟨gb, 3, none⟩ x) gb gr a b c x e :=
  ⟨by simpa using h.bx.stored 3 x, h.br.far (p := ⟨gb, 3, none⟩) h.ne x, h.bl.setCell (p := ⟨gb, 3, none⟩) h.hb x, h.hb, h.hr, h.ne⟩
theorem TwSt.s4 (h : TwSt W wx gb gr a b c d e) (x : Value) : TwSt W (wx.setCell ⟨gb, 4, none⟩ x) gb gr a b c d x :=
  ⟨by simpa using h.bx.stored 4 x, h.br.far (p := ⟨gb, 4, none⟩) h.ne x, h.bl.setCell (p := ⟨gb, 4, none⟩) h.hb x, h.hb, h.hr, h.ne⟩
end
/-- an answer that is a world in new memory -/
def WRet (w : DC.Wd) (W : World) (e : Ending) (W' : World) : Prop := ∃ v, e = .returned v ∧ WOwn W' W.heap.size v w ∧ Below W.heap.size W W'
/-- the word of Twin's loop -/
def TwRel (W : World) (gb gr : Nat) (w : DC.Wd) (A0 A1 A2 A3 A4 : Option Addr) (c0 c1 c2 c3 c4 k : Nat) (wr : World) : Prop :=
  TwSt W wr gb gr (.slice A0 w.ms.length c0) (.slice A1 w.vs.length c1) (.slice A2 w.ts.length c2) (.slice A3 w.ml.length c3) (.slice A4 w.ch.length c4) ∧
  wr.ownsRow W.heap.size 3 1 (.slice A0 w.ms.length c0) w.ms.length (ic w.ms) ∧ wr.ownsRow W.heap.size 53 3 (.slice A1 w.vs.length c1) w.vs.length (flat vcell w.vs) ∧
  ∃ xs, wr.ownsRow W.heap.size 49 7 (.slice A2 w.ts.length c2) w.ts.length xs ∧ TsMid W wr W.heap.size k xs w.ts
theorem TwRel.below {W wx wy : World} {gb gr : Nat} {w : DC.Wd} {A0 A1 A2 A3 A4 : Option Addr} {c0 c1 c2 c3 c4 k : Nat} (h : TwRel W gb gr w A0 A1 A2 A3 A4 c0 c1 c2 c3 c4 k wx) (hb : Below wx.heap.size wx wy) : TwRel W gb gr w A0 A1 A2 A3 A4 c0 c1 c2 c3 c4 k wy := by
  obtain ⟨h1, h2, h3, xs, h4, h5⟩ := h
  exact ⟨h1.below hb, own_below3 h2 hb, own_below3 h3 hb, xs, own_below3 h4 hb, h5.below hb⟩
/-- what was there ahead of the call is not turned by a store into a new row -/
theorem rd_keep {W wx : World} {q : Nat} (hq : W.heap.size ≤ q) {A : Option Addr} {n : Nat} {l : List Value} (h : Rd W A n l) (hb : Below W.heap.size W wx) : Rd wx A n l := h.below hb
end Go.Proofs.Ytiiobafcgdelmaa.PD
