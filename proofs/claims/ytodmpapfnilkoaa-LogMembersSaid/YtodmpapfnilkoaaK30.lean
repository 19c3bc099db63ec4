/-
  Package log: Members. Conditions: the slices read as ints, as texts.
  Package log: Members. Conditions: the slices read as ints, as texts.
-/
import Derived.Test.YtodmpapfnilkoaaK29
import Derived.Test.YtodmpapfnilkoaaK28
namespace Go.Proofs.Ytodmpapfnilkoaa.LP
open Go.RowKit Go.Shelf CP
open CM (Cm Mg)
set_option linter.unusedVariables false
set_option linter.unusedSimpArgs false
set_option maxRecDepth 100000

set_option maxHeartbeats 1000000 in
theorem cloneI13 (B : Option Addr) (m d : Nat) (ms : List Int) (w : World) (h : Rd w B m (ic ms)) (hm : m ≤ 2000) :
    Calls Try.prog 37 #[.slice B m d] w (fun e w' => ∃ v, e = .returned v ∧ MbG w' w.heap.size v ms ∧ Below w.heap.size w w') := by
  obtain ⟨i0, hi, hz0, hz1, hz2⟩ := info_parts info_i13
  have hl : ms.length = m := by have := h.1; rwa [ic_length] at this
  have HL := Lib.hid hl
  have HR := Lib.hid h
  rcases B with _ | ad
  · have hn0 : m = 0 := by
      rcases Nat.eq_zero_or_pos m with h0 | h0
      · exact h0
      · obtain ⟨ad, h, _⟩ := HR.out.2 h0; cases h
    subst hn0
    have hl0 : ms = [] := List.eq_nil_of_length_eq_zero hl
    have HF := Lib.hid (show MbG w w.heap.size (.slice none 0 0) ms from ⟨none, 0, by rw [hl0]; rfl, by rw [hl0]; exact RowGe.none _ _⟩)
    clear h hl hl0 HR HL
    have hnil : ∀ W, (binOp .eql 25 (.slice none 0 d) (.slice none 0 0)).run Try.prog W = .ok (.bool true) W := fun W => Lib.run_eql_slice_nil W _ _ _ _ _ _ _ Try.underlying25
    go_enter Try.func37, Try.ntmps37
    go_wp2_with fail
    go_ret
    exact ⟨_, rfl, HF.out, Below.refl _ _⟩
  · have hown0 : (w.alloc (.cells #[] 3)).ownsRow w.heap.size 3 1 (.slice (some ⟨w.heap.size, 0, none⟩) 0 0) 0 [] := World.ownsRow_made w #[] 0 (Nat.le_refl _) (by unfold maxLen; omega) (by simp)
    have HO := Lib.hid hown0
    have HR0 := Lib.hid (h.alloc (.cells #[] 3))
    clear hown0 h hl HR
    have hnil : ∀ W, (binOp .eql 25 (.slice (some ad) m d) (.slice none 0 0)).run Try.prog W = .ok (.bool false) W := fun W => Lib.run_eql_slice_nil W _ _ _ _ _ _ _ Try.underlying25
    go_enter Try.func37, Try.ntmps37
    go_wp2_with (at_builtin; refine wpList_append_rd _ rfl _ _ 25 rfl w.heap.size 3 i0 (.int .i64 0) 8 Try.underlying25 hi hz0 hz1 hz2 rfl _ _ _ rfl HO.out (some ad) m d (ic ms) rfl HR0.out (by intro u hu; simp [ic] at hu; obtain ⟨z, _, rfl⟩ := hu; rfl) (by unfold maxLen; omega) (by omega) (by simp) ?_; intro v2 w2 hown2 hg2 hob2)
    go_ret
    refine ⟨_, rfl, ?_, below_row ((Below.refl _ _).alloc (Nat.le_refl _) _) HO.out (by simp) hg2⟩
    refine MbG.of ?_
    unfold MbO
    rw [HL.out]
    simpa using hown2

/-- all blocks below B but two stay -/
structure Ke (B a b : Nat) (W W' : World) : Prop where
  os : W'.os = W.os
  tape : W'.tape = W.tape
  output : W'.output = W.output
  size : W.heap.size ≤ W'.heap.size
  block : ∀ k, k < B → k ≠ a → k ≠ b → W'.heap[k]? = W.heap[k]?
theorem Ke.of {B a b : Nat} {W W' : World} (h : Below B W W') : Ke B a b W W' := ⟨h.os, h.tape, h.output, h.size, fun k hk _ _ => h.block k hk⟩
theorem Ke.trans {B a b : Nat} {X Y Z : World} (h : Ke B a b X Y) (k : Ke B a b Y Z) : Ke B a b X Z :=
  ⟨k.os.trans h.os, k.tape.trans h.tape, k.output.trans h.output, Nat.le_trans h.size k.size, fun i hi h1 h2 => (k.block i hi h1 h2).trans (h.block i hi h1 h2)⟩
theorem Ke.below {B B0 a b : Nat} {W W' : World} (h : Ke B a b W W') (ha : B0 ≤ a) (hb : B0 ≤ b) (hB : B0 ≤ B) : Below B0 W W' := ⟨h.os, h.tape, h.output, h.size, fun k hk => h.block k (by omega) (by omega) (by omega)⟩
theorem ke_row {B a b b0 : Nat} {W W' : World} {A : Option Addr} {c : Nat} {l : List Int} (hk : Ke B a b W W') (hB : W.heap.size ≤ B) (h : RowGe W b0 A c l) (ha : a < b0) (hb : b < b0) : RowGe W' b0 A c l := by
  refine ⟨⟨⟨h.1.1.1, fun hn => ?_⟩, h.1.2⟩, h.2, fun h0 => ?_⟩
  · obtain ⟨ad, e, hlt, hc⟩ := h.1.1.2 hn
    have hge := h.2 ad e hn
    refine ⟨ad, e, Nat.lt_of_lt_of_le hlt hk.size, fun j u hu => ?_⟩
    exact (World.cell?_of_block (hk.block (ad.add j).block (by rw [block_of_add]; omega) (by rw [block_of_add]; omega) (by rw [block_of_add]; omega))).trans (hc j u hu)
  · obtain ⟨g', cur, e, h1, h2, h3⟩ := h.3 h0
    have := h2.lt
    exact ⟨g', cur, e, h1, (hk.block g' (by omega) (by omega) (by omega)).trans h2, h3⟩
end Go.Proofs.Ytodmpapfnilkoaa.LP

namespace Go.Proofs.Ytodmpapfnilkoaa.LP
open Go.RowKit Go.Shelf CP
open CM (Cm Mg)
set_option linter.unusedVariables false
set_option linter.unusedSimpArgs false
set_option maxRecDepth 100000
attribute [local go_sem] Oper.semAt_some

/-- the two results, stored -/
theorem res_two {W : World} {g t t' : Nat} {u v : Value} (hR : Box W (g + 1) t #[u]) (hE : Box W (g + 1 + 1) t' #[v]) (x y : Value) :
    Box ((W.setCell ⟨g + 1, 0, none⟩ x).setCell ⟨g + 1 + 1, 0, none⟩ y) (g + 1) t #[x] ∧ Box ((W.setCell ⟨g + 1, 0, none⟩ x).setCell ⟨g + 1 + 1, 0, none⟩ y) (g + 1 + 1) t' #[y] := by
  have a := (hR.stored 0 x).far (p := ⟨g + 1 + 1, 0, none⟩) (by simp) y
  have b := (hE.far (p := ⟨g + 1, 0, none⟩) (by simp) x).stored 0 y
  simpa using And.intro a b
theorem res_below {W0 W : World} {g : Nat} (hb : Below g W0 W) (x y : Value) : Below g W0 ((W.setCell ⟨g + 1, 0, none⟩ x).setCell ⟨g + 1 + 1, 0, none⟩ y) :=
  (hb.setCell (p := ⟨g + 1, 0, none⟩) (by simp) x).setCell (p := ⟨g + 1 + 1, 0, none⟩) (by simp; omega) y
set_option maxHeartbeats 1000000 in
theorem pmem_bad (A : Option Addr) (n c : Nat) (ros : List Int) (B : Option Addr) (m d : Nat) (ms : List Int) (C : Option Addr) (k e : Nat) (l : List ByteArray) (yg : Int) (w : World) (h1 : Rd w A n (ic ros)) (hn : n ≤ maxLen) (h2 : Rd w B m (ic ms)) (hm : m ≤ maxLen) (h3 : TxIs w C k e l) (hy : QM.GrpIs ros ms yg) (h0 : yg ≠ 0) :
    Calls Try.prog 8 #[.agg #[.slice A n c, .slice B m d], .slice C k e] w (MbIs yg ros ms l w) := by
  have CG := Lib.hid (fun W (hb : Below w.heap.size w W) => checkGroup_any A n c ros B m d ms yg W (h1.below hb) (by unfold maxLen at hn; omega) (h2.below hb) (by unfold maxLen at hm; omega) hy)
  have HB := Lib.hid (show Below w.heap.size w (((w.alloc (.cells #[.slice A n c, .slice B m d] 33)).alloc (.cells #[.slice none 0 0] 25)).alloc (.cells #[.int .i64 0] 22)) from (((Below.refl _ _).alloc (Nat.le_refl _) _).alloc (by simp) _).alloc (by simp; omega) _)
  have HX := Lib.hid (((Box.new w 33 #[.slice A n c, .slice B m d]).alloc (.cells #[.slice none 0 0] 25)).alloc (.cells #[.int .i64 0] 22))
  have HR := Lib.hid (show Box (((w.alloc (.cells #[.slice A n c, .slice B m d] 33)).alloc (.cells #[.slice none 0 0] 25)).alloc (.cells #[.int .i64 0] 22)) (w.heap.size + 1) 25 #[.slice none 0 0] from (Box.new_at _ (by simp)).alloc _)
  have HE := Lib.hid (show Box (((w.alloc (.cells #[.slice A n c, .slice B m d] 33)).alloc (.cells #[.slice none 0 0] 25)).alloc (.cells #[.int .i64 0] 22)) (w.heap.size + 1 + 1) 22 #[.int .i64 0] from Box.new_at _ (by simp))
  have hg := grp_cases hy
  clear h1 h2 h3 hy
  refine (callsIn_wide (n := 4)).1 ?_
  refine callsIn_of_wp_marks Try.func8 rfl trivial ?_ rfl
  simp only [Try.ntmps8, List.size_toArray, List.length_cons, List.length_nil, Nat.reduceAdd, Nat.reduceSub, Array.replicate_succ, Array.replicate_zero, List.push_toArray, List.append_toArray, List.nil_append, List.cons_append]
  rcases hg with rfl | rfl | rfl
  · exact absurd rfl h0
  all_goals
    gi_wp2_with (refine ⟨trivial, ?_⟩; gi_at_call 34; refine (callsIn_wide.2 (CG.out _ HB.out)).mono ?_; rintro e w1 ⟨rfl, hb⟩; have HB1 := Lib.hid (bmore HB.out hb (Nat.le_refl _)); have HX1 := Lib.hid (HX.out.below hb HX.out.lt); have HR1 := Lib.hid (HR.out.below hb HR.out.lt); have HE1 := Lib.hid (HE.out.below hb HE.out.lt); clear hb CG HX HB HR HE; have r0 := HR1.out.cell 0; have r1 := HR1.out.frozen 0; have e0 := HE1.out.cell 0; have e1 := HE1.out.frozen 0; simp at r0 e0)
    have q := res_two HR1.out HE1.out (.slice none 0 0)
    first
    | (obtain ⟨q4, q5⟩ := q (.int .i64 4)
       have z4 := q4.cell 0
       have z5 := q5.cell 0
       simp at z4 z5
       refine ⟨_, ?_, res_below HB1.out _ _, .inl ⟨h0, rfl⟩⟩
       simp [results, Try.results8, go_sem, z4, z5]
       done)
    | (obtain ⟨q4, q5⟩ := q (.int .i64 60)
       have z4 := q4.cell 0
       have z5 := q5.cell 0
       simp at z4 z5
       refine ⟨_, ?_, res_below HB1.out _ _, .inl ⟨h0, rfl⟩⟩
       simp [results, Try.results8, go_sem, z4, z5]
       done)
theorem lastF_none {ros ms : List Int} : ∀ {cs : List Cm}, (∀ c ∈ cs, ¬ (c.k = 3 ∧ QM.within c.ms ros = true)) → LM.lastF ros ms cs = ms
  | [], _ => rfl
  | c :: cs, h => by
    unfold LM.lastF
    rw [if_neg (h c (List.mem_cons_self ..)), lastF_none (fun c hc => h c (List.mem_cons_of_mem _ hc))]
theorem lastF_hit {ros ms : List Int} {x : Cm} (hx : x.k = 3 ∧ QM.within x.ms ros = true) : ∀ {cs r : List Cm}, (∀ c ∈ cs, ¬ (c.k = 3 ∧ QM.within c.ms ros = true)) → LM.lastF ros ms (cs ++ x :: r) = x.ms
  | [], r, _ => by
    show LM.lastF ros ms (x :: r) = _
    unfold LM.lastF
    rw [if_pos hx]
  | c :: cs, r, h => by
    show LM.lastF ros ms (c :: (cs ++ x :: r)) = _
    unfold LM.lastF
    rw [if_neg (h c (List.mem_cons_self ..)), lastF_hit hx (fun c hc => h c (List.mem_cons_of_mem _ hc))]
def Cnt (ros : List Int) (es : List El) (x : Fin es.length) : Prop := (es[x.1]).x.k = 3 ∧ QM.within (es[x.1]).x.ms ros = true
theorem bk_none {ros ms : List Int} {es : List El} (h : ∀ x ∈ bk es 0, ¬ Cnt ros es x) : LM.next ros ms (es.map fun e => e.x) = ms := by
  rw [← LM.last_next, ← bk_cs]
  refine lastF_none fun c hc => ?_
  obtain ⟨x, hx, rfl⟩ := List.mem_map.1 hc
  exact h x hx
theorem bk_hit {ros ms : List Int} {es : List El} {j : Nat} {pr : List (Fin es.length)} {x : Fin es.length} (hj : bk es j = pr ++ [x]) (h : ∀ x ∈ pr, ¬ Cnt ros es x) (hx : Cnt ros es x) : LM.next ros ms (es.map fun e => e.x) = (es[x.1]).x.ms := by
  obtain ⟨r, hr⟩ := bk_pre es j
  rw [← LM.last_next, ← bk_cs, hr, hj, List.append_assoc, List.map_append, List.singleton_append, List.map_cons]
  refine lastF_hit hx fun c hc => ?_
  obtain ⟨x, hx, rfl⟩ := List.mem_map.1 hc
  exact h x hx
theorem Row.mono {n₀ n₁ : Nat} {W : World} {sv : Value} {es : List El} (h : Row n₀ W sv es) (hn : n₀ ≤ n₁) : Row n₁ W sv es := by
  rcases h with e | ⟨b, off, cap, e, hb, hc⟩
  · exact .inl e
  · exact .inr ⟨b, off, cap, e, by omega, hc⟩
theorem box_own {β : Type} (B g t : Nat) (cs : Array Value) : OwnFrom B (fun (_ : β) W => Box W g t cs) := fun s X Y row hs hg hr => hs.grown hg (fun e => by
  obtain ⟨_, o, ho, hc⟩ := hr g e.symm
  rw [show X.heap[g]? = _ from hs] at ho; cases ho; cases hc)
theorem ke_own {β : Type} {B a b : Nat} {W0 : World} (hB : W0.heap.size = B) : OwnFrom B (fun (_ : β) W => Ke B a b W0 W) := fun _ X Y row hs hg hr =>
  ⟨hg.os.trans hs.os, hg.tape.trans hs.tape, hg.output.trans hs.output, Nat.le_trans hs.size hg.size, fun k hk h1 h2 => (hg.block k (by have := hs.size; omega) (fun e => by have := (hr k e.symm).1; omega)).trans (hs.block k hk h1 h2)⟩
theorem keepsFrom_below {B n₀ : Nat} {W W' : World} (h : Below n₀ W W') (hn : n₀ = W.heap.size) : KeepsFrom B W W' := ⟨h.size, fun k o _ hk _ => (h.block k (by rw [hn]; exact (Array.getElem?_eq_some_iff.1 hk).1)).trans hk⟩
theorem ke_put {B a b : Nat} {W X : World} (h : Ke B a b W X) (x y : Value) : Ke B a b W ((X.setCell ⟨a, 0, none⟩ x).setCell ⟨b, 0, none⟩ y) := by
  refine ⟨h.os, h.tape, h.output, by simpa using h.size, fun k hk h1 h2 => ?_⟩
  exact ((Below.heap_setCell _ ⟨b, 0, none⟩ y k h2).trans (Below.heap_setCell _ ⟨a, 0, none⟩ x k h1)).trans (h.block k hk h1 h2)
theorem bmore2 {g : Nat} {W0 W1 W2 : World} (h : Below g W0 W1) (k : Ke W1.heap.size (g + 1) (g + 1 + 1) W1 W2) (hg : g ≤ W1.heap.size) : Below g W0 W2 := h.trans (k.below (by omega) (by omega) hg)
set_option maxHeartbeats 4000000 in
theorem pmem_ok (A : Option Addr) (n c : Nat) (ros : List Int) (B : Option Addr) (m d : Nat) (ms : List Int) (C : Option Addr) (k e : Nat) (l : List ByteArray) (w : World) (h1 : Rd w A n (ic ros)) (hn : n ≤ maxLen) (h2 : Rd w B m (ic ms)) (hm : m ≤ maxLen) (h3 : TxIs w C k e l) (hy : QM.GrpIs ros ms 0) :
    Calls Try.prog 8 #[.agg #[.slice A n c, .slice B m d], .slice C k e] w (MbIs (LM.chk l) ros ms l w) := by
  have CG := Lib.hid (fun W (hb : Below w.heap.size w W) => checkGroup_any A n c ros B m d ms 0 W (h1.below hb) (by unfold maxLen at hn; omega) (h2.below hb) (by unfold maxLen at hm; omega) hy)
  have CC := Lib.hid (fun W (hb : Below w.heap.size w W) => pcommands_any C k e l W (h3.below hb))
  have hml := (QM.may_len (grp_ms hy)).2.1
  have hm6 : m ≤ 6 := by have := h2.1; rw [ic_length] at this; omega
  have CL := Lib.hid (fun W (hb : Below w.heap.size w W) => cloneI13 B m d ms W (h2.below hb) (by omega))
  have CN := Lib.hid (fun W x (hb : Below w.heap.size w W) (hx : CM.may x.x) (hr : RowIs W x.B x.d x.x.ms) => counts_any A n c ros B m d ms x W (h1.below hb) (by unfold maxLen at hn; omega) hy hx hr)
  have HB := Lib.hid (show Below w.heap.size w (((w.alloc (.cells #[.slice A n c, .slice B m d] 33)).alloc (.cells #[.slice none 0 0] 25)).alloc (.cells #[.int .i64 0] 22)) from (((Below.refl _ _).alloc (Nat.le_refl _) _).alloc (by simp) _).alloc (by simp; omega) _)
  have HX := Lib.hid (((Box.new w 33 #[.slice A n c, .slice B m d]).alloc (.cells #[.slice none 0 0] 25)).alloc (.cells #[.int .i64 0] 22))
  have HR := Lib.hid (show Box (((w.alloc (.cells #[.slice A n c, .slice B m d] 33)).alloc (.cells #[.slice none 0 0] 25)).alloc (.cells #[.int .i64 0] 22)) (w.heap.size + 1) 25 #[.slice none 0 0] from (Box.new_at _ (by simp)).alloc _)
  have HE := Lib.hid (show Box (((w.alloc (.cells #[.slice A n c, .slice B m d] 33)).alloc (.cells #[.slice none 0 0] 25)).alloc (.cells #[.int .i64 0] 22)) (w.heap.size + 1 + 1) 22 #[.int .i64 0] from Box.new_at _ (by simp))
  have hc := LM.chk_cases l
  have HMay := Lib.hid (fun (h : LM.chk l = 0) (x : Cm) (hx : x ∈ LM.cmds l) => (show CM.may x by
    obtain ⟨s, hs, rfl⟩ := List.mem_map.1 hx
    exact (LM.cm_may ((LM.chk_zero.1 h).2 s hs)).1))
  have HLen := Lib.hid (fun (h : LM.chk l = 0) => (show (LM.cmds l).length ≤ 200 by rw [LM.cmds, List.length_map]; exact (LM.chk_zero.1 h).1))
  unfold CoIs at CC
  obtain ⟨y, hyy⟩ : ∃ y, y = LM.chk l := ⟨_, rfl⟩
  rw [← hyy] at CC HMay HLen hc ⊢
  obtain ⟨cs, hcs⟩ : ∃ cs, cs = LM.cmds l := ⟨_, rfl⟩
  rw [← hcs] at CC HMay HLen
  have HCS := Lib.hid hcs
  clear h1 h2 h3 hy hyy hml hcs hn hm hm6
  refine (callsIn_wide (n := 4)).1 ?_
  refine callsIn_of_wp_marks Try.func8 rfl trivial ?_ rfl
  simp only [Try.ntmps8, List.size_toArray, List.length_cons, List.length_nil, Nat.reduceAdd, Nat.reduceSub, Array.replicate_succ, Array.replicate_zero, List.push_toArray, List.append_toArray, List.nil_append, List.cons_append]
  rcases hc with rfl | rfl | rfl
  rotate_left
  · gi_wp2_with (first | (refine ⟨trivial, ?_⟩; gi_at_call 34; refine (callsIn_wide.2 (CG.out _ HB.out)).mono ?_; rintro e w1 ⟨rfl, hb⟩; have HB1 := Lib.hid (bmore HB.out hb (Nat.le_refl _)); have HX1 := Lib.hid (HX.out.below hb HX.out.lt); have HR1 := Lib.hid (HR.out.below hb HR.out.lt); have HE1 := Lib.hid (HE.out.below hb HE.out.lt); clear hb CG HX HB HR HE) | (refine ⟨trivial, ?_⟩; gi_at_call 12; refine (callsIn_wide.2 (CC.out _ HB1.out)).mono ?_; rintro e w2 ⟨hb, ⟨_, rfl⟩ | ⟨h0, _⟩⟩; rotate_left; exact absurd h0 (by decide); have HB2 := Lib.hid (bmore HB1.out hb (Nat.le_refl _)); have HR2 := Lib.hid (HR1.out.below hb HR1.out.lt); have HE2 := Lib.hid (HE1.out.below hb HE1.out.lt); clear hb CC HX1 HB1 HR1 HE1; have r0 := HR2.out.cell 0; have r1 := HR2.out.frozen 0; have e0 := HE2.out.cell 0; have e1 := HE2.out.frozen 0; simp at r0 e0))
    obtain ⟨q4, q5⟩ := res_two HR2.out HE2.out (.slice none 0 0) (.int .i64 4)
    have z4 := q4.cell 0
    have z5 := q5.cell 0
    simp at z4 z5
    refine ⟨_, ?_, res_below HB2.out _ _, .inl ⟨by decide, rfl⟩⟩
    simp [results, Try.results8, go_sem, z4, z5]
  · gi_wp2_with (first | (refine ⟨trivial, ?_⟩; gi_at_call 34; refine (callsIn_wide.2 (CG.out _ HB.out)).mono ?_; rintro e w1 ⟨rfl, hb⟩; have HB1 := Lib.hid (bmore HB.out hb (Nat.le_refl _)); have HX1 := Lib.hid (HX.out.below hb HX.out.lt); have HR1 := Lib.hid (HR.out.below hb HR.out.lt); have HE1 := Lib.hid (HE.out.below hb HE.out.lt); clear hb CG HX HB HR HE) | (refine ⟨trivial, ?_⟩; gi_at_call 12; refine (callsIn_wide.2 (CC.out _ HB1.out)).mono ?_; rintro e w2 ⟨hb, ⟨_, rfl⟩ | ⟨h0, _⟩⟩; rotate_left; exact absurd h0 (by decide); have HB2 := Lib.hid (bmore HB1.out hb (Nat.le_refl _)); have HR2 := Lib.hid (HR1.out.below hb HR1.out.lt); have HE2 := Lib.hid (HE1.out.below hb HE1.out.lt); clear hb CC HX1 HB1 HR1 HE1; have r0 := HR2.out.cell 0; have r1 := HR2.out.frozen 0; have e0 := HE2.out.cell 0; have e1 := HE2.out.frozen 0; simp at r0 e0))
    obtain ⟨q4, q5⟩ := res_two HR2.out HE2.out (.slice none 0 0) (.int .i64 8)
    have z4 := q4.cell 0
    have z5 := q5.cell 0
    simp at z4 z5
    refine ⟨_, ?_, res_below HB2.out _ _, .inl ⟨by decide, rfl⟩⟩
    simp [results, Try.results8, go_sem, z4, z5]
  · gi_wp2_with (first | (refine ⟨trivial, ?_⟩; gi_at_call 34; refine (callsIn_wide.2 (CG.out _ HB.out)).mono ?_; rintro e w1 ⟨rfl, hb⟩; have HB1 := Lib.hid (bmore HB.out hb (Nat.le_refl _)); have HX1 := Lib.hid (HX.out.below hb HX.out.lt); have HR1 := Lib.hid (HR.out.below hb HR.out.lt); have HE1 := Lib.hid (HE.out.below hb HE.out.lt); clear hb CG HX HB HR HE) | (refine ⟨trivial, ?_⟩; gi_at_call 12; refine (callsIn_wide.2 (CC.out _ HB1.out)).mono ?_; rintro e w2 ⟨hb, ⟨h0, _⟩ | ⟨_, v, rfl, hv⟩⟩; exact absurd rfl h0; obtain ⟨es, hes, hRow, hRs⟩ := cmsO_row hv; obtain ⟨AA, cap, rfl, hAt⟩ := hRow.any; have HB2 := Lib.hid (bmore HB1.out hb (Nat.le_refl _)); have HX2 := Lib.hid (HX1.out.below hb HX1.out.lt); have HR2 := Lib.hid (HR1.out.below hb HR1.out.lt); have HE2 := Lib.hid (HE1.out.below hb HE1.out.lt); have HLT := Lib.hid HE1.out.lt; have HRow := Lib.hid hRow; have HRs := Lib.hid hRs; have HES := Lib.hid hes; clear hb CC HX1 HB1 HR1 HE1 hv hRow hRs hes hAt) | (refine ⟨trivial, ?_⟩; gi_at_call 35; refine (backward_in Fence.wide 3 trivial rfl _ _ _ _).mono ?_; rintro e w3 ⟨rfl, hw3⟩; have HW3 := Lib.hid hw3; clear hw3))
    have hw3 := HW3.out
    have hB23 : Below w2.heap.size w2 w3 := by rw [hw3]; exact (Below.refl _ _).alloc (Nat.le_refl _) _
    have HX3 := Lib.hid (HX2.out.below hB23 HX2.out.lt)
    have HR3 := Lib.hid (HR2.out.below hB23 HR2.out.lt)
    have HE3 := Lib.hid (HE2.out.below hB23 HE2.out.lt)
    have HB3 := Lib.hid (bmore HB2.out hB23 (Nat.le_refl _))
    have HRs3 := Lib.hid (HRs.out.below hB23)
    have hBk : w2.heap.size < w3.heap.size := by rw [hw3]; simp
    have hcell : w3.cell? ⟨w2.heap.size, 0, none⟩ = some (.slice AA es.length cap) := by rw [hw3]; simp
    have hRow3 : Row w3.heap.size w3 (.slice AA es.length cap) es := (HRow.out.below hB23).mono (by omega)
    have hes : es.map (fun e => e.x) = cs := HES.out
    have hel : es.length ≤ 200 := by have := HLen.out trivial; rw [← hes] at this; simpa using this
    have hlt1 : w.heap.size + 1 + 1 < w1.heap.size := HLT.out
    have hlt3 : w.heap.size + 1 + 1 < w3.heap.size := HE3.out.lt
    clear HX2 HR2 HE2 HB2 HRs HRow HW3 hw3 hB23 HLen
    refine wpIn_rangeFunc_ownH rfl (by decide) (gf := 55) (lb := #[.pointer (some ⟨w2.heap.size, 0, none⟩)]) rfl trivial (enters_of Try.func55 (by kernel_rfl) rfl)
      (back_stops Fence.wide 3 trivial rfl (by decide) w2.heap.size w3.heap.size (.slice AA es.length cap) es (by omega) w3 hBk (Nat.le_refl _) hcell hRow3) belowK_t (belowK_b (Nat.le_refl _)) (Below.refl _ _) (fun _ => rfl)
      (fun pre W => (∀ x ∈ pre, ¬ Cnt ros es x) ∧ Below w3.heap.size w3 W)
      (fun c pre W => (c = .ret ∧ ∃ pr x, pre = pr ++ [x] ∧ (∀ x ∈ pr, ¬ Cnt ros es x) ∧ Cnt ros es x ∧ Box W (w.heap.size + 1) 25 #[.slice (es[x.1]).B (es[x.1]).x.ms.length (es[x.1]).d] ∧ Box W (w.heap.size + 1 + 1) 22 #[.int .i64 0]) ∧ Ke w3.heap.size (w.heap.size + 1) (w.heap.size + 1 + 1) w3 W)
      (OwnFrom.and (ownFrom_pure _ _) (ownFrom_below (Nat.le_refl _) (Nat.le_refl _)))
      (fun c => OwnFrom.and (fun s X Y row hs hg hr => by
        obtain ⟨e, pr, x, h1, h2, h3, h4, h5⟩ := hs
        exact ⟨e, pr, x, h1, h2, h3, box_own _ _ _ _ () X Y row h4 hg hr, box_own _ _ _ _ () X Y row h5 hg hr⟩) (ke_own rfl))
      ⟨by simp, Below.refl _ _⟩
      (fun x a' W => ∃ Bx, w3.heap.size ≤ Bx ∧ Box W Bx 29 (ccells (es[x.1]).A (es[x.1]).c (es[x.1]).B (es[x.1]).d (es[x.1]).x) ∧ a' = { tmps := #[.agg #[.slice A n c, .slice B m d], .slice C k e, .pointer (some ⟨w.heap.size, 0, none⟩), undef, .pointer (some ⟨w.heap.size + 1, 0, none⟩), .pointer (some ⟨w.heap.size + 1 + 1, 0, none⟩), .int .i64 0, .slice AA es.length cap, .int .i64 0, undef, .pointer (some ⟨Bx, 0, none⟩),
          .agg #[.slice A n c, .slice B m d], .int .i64 0, .int .i64 0, .bool false, undef, .tuple #[.slice AA es.length cap, .int .i64 0], .slice C k e, .tuple #[.slice AA es.length cap, .int .i64 0], .slice AA es.length cap, .int .i64 0, .int .i64 0, .bool false, undef, .slice AA es.length cap,
          .func (.func 55) #[] #[.pointer (some ⟨w2.heap.size, 0, none⟩)], .int .i64 (x.1 : Int), .agg (ccells (es[x.1]).A (es[x.1]).c (es[x.1]).B (es[x.1]).d (es[x.1]).x), undef, undef, undef, undef, undef, undef, undef, undef], defers := [] })
      (fun x a' _ X Y row hs hg hr => by
        obtain ⟨Bx, h1, h2, h3⟩ := hs
        exact ⟨Bx, h1, box_own _ _ _ _ () X Y row h2 hg hr, h3⟩)
      ?assign ?body ?done ?stop
    case assign =>
      rintro l2 pre x W K ⟨hp, hB⟩ hK
      simp only [encB, encE, ccells] at hK ⊢
      generalize es[x.1] = el at hK ⊢
      gi_wp2
      exact hK _ _ ((KeepsOthers.alloc _ _).from _) ((Below.refl _ W).alloc hB.size _) ⟨hp, hB.alloc hB.size _⟩ ⟨W.heap.size, hB.size, Box.new _ _ _, rfl⟩
    case body =>
      rintro l2 pre x a' W hl2 ⟨r, hr⟩ ⟨hp, hB⟩ ⟨Bx, hBx, bX, rfl⟩ hltN
      have hmem : es[x.1] ∈ es := List.getElem_mem _
      have hmay := HMay.out trivial (es[x.1]).x (by rw [← hes]; exact List.mem_map.2 ⟨_, hmem, rfl⟩)
      have hrw := (HRs3.out _ hmem).2.1.below hB
      have CNx := Lib.hid (CN.out W es[x.1] (bmore HB3.out hB (Nat.le_refl _)) hmay hrw)
      have HCn := Lib.hid (show Cnt ros es x ↔ decide ((es[x.1]).x.k = 3 ∧ QM.within (es[x.1]).x.ms ros = true) = true by unfold Cnt; simp)
      have HXW := Lib.hid (HX3.out.below hB HX3.out.lt)
      have HRW := Lib.hid (HR3.out.below hB HR3.out.lt)
      have HEW := Lib.hid (HE3.out.below hB HE3.out.lt)
      have HBW := Lib.hid hB
      have HP := Lib.hid hp
      have BX := Lib.hid bX
      obtain ⟨el, hel2⟩ : ∃ el, el = es[x.1] := ⟨_, rfl⟩
      rw [← hel2] at BX CNx HCn
      simp only [ccells] at BX CNx ⊢
      rw [← hel2]
      have HEL := Lib.hid hel2
      clear hmem hmay hrw hB hp bX hel2
      obtain ⟨EA, ec, EB, ed, ⟨k0, ⟨mi, mg, mt, mk, mb⟩, aid, atm, ams, atp, awh, an⟩⟩ := el
      simp only at BX CNx HCn ⊢
      generalize decide (k0 = 3 ∧ QM.within ams ros = true) = cb at CNx HCn
      obtain ⟨x0, x1, x2, x3, x4, x5, x6, x7, x8, x9, x10, x11⟩ := box_cm BX.out
      have y0 := HXW.out.cell 0
      have y1 := HXW.out.cell 1
      simp at y0 y1
      cases cb
      · gi_wp2_with (refine ⟨trivial, ?_⟩; gi_at_call 36; refine (CallsIn.inRound l2 (callsIn_wide.2 CNx.out)).mono ?_; rintro e w4 ⟨rfl, hb⟩; have HB4 := Lib.hid hb; clear hb)
        refine ⟨keepsFrom_below HB4.out rfl, HB4.out.mono HBW.out.size, fun z hz => ?_, bmore HBW.out HB4.out (Nat.le_refl _)⟩
        rcases List.mem_append.1 hz with hz | hz
        · exact HP.out z hz
        · obtain rfl := List.mem_singleton.1 hz
          exact fun hc => absurd (HCn.out.1 hc) (by decide)
      · gi_wp2_with (refine ⟨trivial, ?_⟩; gi_at_call 36; refine (CallsIn.inRound l2 (callsIn_wide.2 CNx.out)).mono ?_; rintro e w4 ⟨rfl, hb⟩; have HB4 := Lib.hid hb; have HR4 := Lib.hid (HRW.out.below hb HRW.out.lt); have HE4 := Lib.hid (HEW.out.below hb HEW.out.lt); have z8 := (BX.out.below hb BX.out.lt).cell 8; clear hb x0 x1 x2 x3 x4 x5 x6 x7 x8 x9 x10 x11 y0 y1; simp at z8; have r0 := HR4.out.cell 0; have r1 := HR4.out.frozen 0; have e0 := HE4.out.cell 0; have e1 := HE4.out.frozen 0; simp at r0 e0)
        obtain ⟨q4, q5⟩ := res_two HR4.out HE4.out (.slice EB ams.length ed) (.int .i64 0)
        exact ⟨(keepsFrom_below HB4.out rfl).trans (((KeepsOthers.setCell _ _ _).trans (KeepsOthers.setCell _ _ _)).from _), ⟨rfl, pre, x, rfl, HP.out, HCn.out.2 trivial, by rw [← HEL.out]; exact q4, q5⟩, ke_put (Ke.of (bmore HBW.out HB4.out (Nat.le_refl _))) _ _⟩
    case done =>
      rintro D ys W hD rfl ⟨hp, hB⟩ hK
      have HXW := Lib.hid (HX3.out.below hB HX3.out.lt)
      have HRW := Lib.hid (HR3.out.below hB HR3.out.lt)
      have HEW := Lib.hid (HE3.out.below hB HE3.out.lt)
      have HCL := Lib.hid (CL.out W (bmore HB3.out hB (Nat.le_refl _)))
      have HP := Lib.hid (bk_none (ms := ms) hp)
      have HBW := Lib.hid (bmore HB3.out hB (Nat.le_refl _))
      have HK := Lib.hid hK
      have hDW : D < W.heap.size := (Array.getElem?_eq_some_iff.1 hK).1
      have y0 := HXW.out.cell 0
      have y1 := HXW.out.cell 1
      simp at y0 y1
      clear hp hB hK
      gi_wp2_with (refine ⟨trivial, ?_⟩; gi_at_call 37; refine (callsIn_wide.2 HCL.out).mono ?_; rintro e w4 ⟨v, rfl, ⟨M, c5, rfl, hM⟩, hb⟩; have HM := Lib.hid hM; have HB4 := Lib.hid hb; have HR4 := Lib.hid (HRW.out.below hb HRW.out.lt); have HE4 := Lib.hid (HEW.out.below hb HEW.out.lt); clear hb hM y0 y1; have r0 := HR4.out.cell 0; have r1 := HR4.out.frozen 0; have e0 := HE4.out.cell 0; have e1 := HE4.out.frozen 0; simp at r0 e0)
      obtain ⟨q4, q5⟩ := res_two HR4.out HE4.out (.slice M ms.length c5) (.int .i64 0)
      have hK4 := ((KeepsOthers.setCell w4 ⟨w.heap.size + 1, 0, none⟩ (.slice M ms.length c5)).trans (KeepsOthers.setCell _ ⟨w.heap.size + 1 + 1, 0, none⟩ (.int .i64 0))).same D _ ((HB4.out.block D hDW).trans HK.out) rfl
      have k0 := ke_put (a := w.heap.size + 1) (b := w.heap.size + 1 + 1) (Ke.of (Below.refl w4.heap.size w4)) (.slice M ms.length c5) (.int .i64 0)
      have hr1 := ke_row k0 (Nat.le_refl _) HM.out (by have := HEW.out.lt; omega) (by have := HEW.out.lt; omega)
      have hb1 := res_below (g := w.heap.size) (bmore HBW.out HB4.out (Nat.le_refl _)) (.slice M ms.length c5) (.int .i64 0)
      clear k0 r0 r1 e0 e1
      generalize ((w4.setCell ⟨w.heap.size + 1, 0, none⟩ (.slice M ms.length c5)).setCell ⟨w.heap.size + 1 + 1, 0, none⟩ (.int .i64 0)) = w5 at q4 q5 hK4 hr1 hb1 ⊢
      refine ⟨by simp, .inl ⟨_, _, rfl, run_takeDeferred hK4, ?_⟩⟩
      have hgr := grownBy_putObj' w5 D (.deferred none)
      have z4 := (q4.grown hgr (fun e => by injection e with e; omega)).cell 0
      have z5 := (q5.grown hgr (fun e => by injection e with e; omega)).cell 0
      simp only [List.getElem?_toArray, List.getElem?_cons_zero] at z4 z5
      have hkD : Ke w5.heap.size D D w5 (w5.putObj D (.deferred none)) := ⟨hgr.os, hgr.tape, hgr.output, hgr.size, fun i hi h1 _ => hgr.block i hi (fun e => by injection e with e; exact h1 e)⟩
      have hr2 := ke_row hkD (Nat.le_refl _) hr1 hDW hDW
      refine ⟨_, ?_, hb1.trans (belowK_b (w := w3) (by have := HB3.out.size; omega) w5 D _ _ hD hK4 rfl rfl), .inr ⟨rfl, .slice M ms.length c5, rfl, ?_⟩⟩
      · simp [results, Try.results8, go_sem, z4, z5]
      · rw [← HCS.out, ← hes, HP.out]
        exact ⟨M, c5, rfl, hr2.mono (by have := HEW.out.lt; omega)⟩
    case stop =>
      rintro D c0 pre W hD ⟨j, hj, hpj⟩ ⟨⟨rfl, pr, x, hpre, hno, hcx, b4, b5⟩, hKe⟩ hK
      have HN := Lib.hid (bk_hit (ms := ms) (hpj.symm.trans hpre) hno hcx)
      have hmem : es[x.1] ∈ es := List.getElem_mem _
      have HRG := Lib.hid (show RowGe w3 w1.heap.size (es[x.1]).B (es[x.1]).d (es[x.1]).x.ms from by
        obtain ⟨_, g2, _, g4, _, g6⟩ := HRs3.out _ hmem
        exact ⟨g2, fun ad e hn => (g4 ad e hn).1, g6⟩)
      have hDW : D < W.heap.size := (Array.getElem?_eq_some_iff.1 hK).1
      gi_wp2
      refine ⟨by simp, .inl ⟨_, _, rfl, run_takeDeferred hK, ?_⟩⟩
      have hgr := grownBy_putObj' W D (.deferred none)
      have z4 := (b4.grown hgr (fun e => by injection e with e; omega)).cell 0
      have z5 := (b5.grown hgr (fun e => by injection e with e; omega)).cell 0
      simp only [List.getElem?_toArray, List.getElem?_cons_zero] at z4 z5
      have hk2 : Ke w3.heap.size (w.heap.size + 1) (w.heap.size + 1 + 1) w3 (W.putObj D (.deferred none)) := ke_own (β := Unit) rfl () W _ (some D) hKe hgr (fun r e => by cases e; exact ⟨hD, _, hK, rfl⟩)
      have hr2 := ke_row hk2 (Nat.le_refl _) HRG.out (by omega) (by omega)
      refine ⟨_, ?_, bmore2 HB3.out hk2 (by omega), .inr ⟨rfl, .slice (es[x.1]).B (es[x.1]).x.ms.length (es[x.1]).d, rfl, ?_⟩⟩
      · simp [results, Try.results8, go_sem, z4, z5]
      · rw [← HCS.out, ← hes, HN.out]
        exact ⟨_, _, rfl, hr2.mono (by omega)⟩
theorem pmem : PMem := by
  intro A n c ros B m d ms C k e l yg w h1 hn h2 hm h3 hy
  by_cases h0 : yg = 0
  · subst h0
    rw [if_pos rfl]
    exact pmem_ok A n c ros B m d ms C k e l w h1 hn h2 hm h3 hy
  · rw [if_neg h0]
    exact pmem_bad A n c ros B m d ms C k e l yg w h1 hn h2 hm h3 hy h0
end Go.Proofs.Ytodmpapfnilkoaa.LP
