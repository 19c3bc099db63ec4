/- Contracts of functions of towncrier, layers 5 to 9, and of the document's own ones, part 9; each as its theorem says. -/
import Derived.Test.YtiiobafcgdelmaaGreatL01
import Derived.Test.YtiiobafcgdelmaaGreatL08
import Derived.Test.YtiiobafcgdelmaaGreatL06
set_option linter.unusedVariables false
set_option linter.unusedSimpArgs false
namespace Go.Proofs.YtiiobafcgdelmaaGreat
open Go.RowKit Go.Lib Go.Shelf
set_option maxHeartbeats 4000000 in
set_option maxRecDepth 100000 in
theorem insI_shift (base b n c i vb : Nat) (xs vs : List Value) (cur : Array Value) (w : World) (hi : i < n) (hn : n ≤ 2000) (hroom : n + 1 ≤ c) (hc : c ≤ maxLen)
  (hbase : base ≤ b) (hx : Box w b 3 cur) (hsz : cur.size = c * 1) (htk : cur.toList.take (n * 1) = xs) (hl : xs.length = n * 1)
  (hv : Box w vb 3 vs.toArray) (hvl : vs.length = 1) (hvb : vb ≠ b) (h1 : ∀ u ∈ xs, u.oneCell' = true) (h1v : ∀ u ∈ vs, u.oneCell' = true) :
  Calls Tryz.prog 113 #[.slice (some ⟨b, 0, none⟩) n c, .int .i64 i, .slice (some ⟨vb, 0, none⟩) 1 1] w (InsIs base 3 1 n (xs.take (i) ++ vs ++ xs.drop (i)) (some b) w) := by
 obtain ⟨i0, hi0, hz0, hz1, hz2⟩ := info_parts info_ai
 unfold maxLen at hc
 have hinfo : (Tryz.prog.info? 3).map (·.size) = some 1 := by rw [hi0]; simp [hz1]
 have hxc : ∀ j v, xs[j]? = some v → w.cell? ⟨b, j, none⟩ = some v := by
  intro j v hj
  have hjl := (List.getElem?_eq_some_iff.1 hj).1
  rw [hx.cell j, ← Array.getElem?_toList, ← hj, ← htk, List.getElem?_take, if_pos (by omega)]
 have hvc : ∀ j v, vs[j]? = some v → w.cell? ⟨vb, j, none⟩ = some v := by
  intro j v hj
  rw [hv.cell j]
  simpa using hj
 have hdl : (xs.drop (i)).length = (n - i) := by rw [List.length_drop, hl]; omega
 have hov : ∀ lb cb, (callFunc 122 #[.slice (some ⟨vb, 0, none⟩) 1 1, .slice (some ⟨b, i + 1, none⟩) lb cb]).run Tryz.prog w = .ok (.value (.bool false)) w := fun lb cb => by
  rw [run_callFunc_extern Tryz.func122 (by kernel_rfl) (by kernel_rfl) (by kernel_rfl) (e := Extern.SlicesOverlaps.overlaps #[22, 22] #[4]) (by kernel_rfl),
   Lib.run_overlaps_apart w 22 4 3 Tryz.underlying22 1 Tryz.sizeOf3 ⟨vb, 0, none⟩ ⟨b, i + 1, none⟩ 1 1 lb cb hvb 3 3 vs.toArray.size cur.size (by simp [World.shape?, hv, Box] at *; simp [hv]) (by simp [World.shape?, Box] at *; simp [hx]) (by omega) (hv.frozen 0) (hv.frozen _)]
  rfl
 have hcp1 : ∀ ty dc sc, (Builtin.copy_ #[22, 22] ty #[.slice (some ⟨b, i + 1, none⟩) (n - i) dc, .slice (some ⟨b, i, none⟩) (n + 1 - i) sc]).run Tryz.prog w.drew = .ok (goInt (n - i)) (w.drew.setCells b (i + 1) (xs.drop (i))) := fun ty dc sc => by
  have := run_copy_s (P := Tryz.prog) w.drew 22 22 ty 3 1 b (i + 1) (n - i) dc ⟨b, i, none⟩ (n + 1 - i) sc (xs.drop (i)) Tryz.underlying22 hinfo (by rw [hdl]; simp only [Nat.min_def]; split <;> omega)
   (fun j v hj => by rw [Addr.add_lit]; exact hxc _ v (by rw [List.getElem?_drop] at hj; simpa using hj))
   (fun j hj => Box.isSome (w := w.drew) hx (by rw [hdl] at hj; omega)) (fun j hj => Box.frozen (w := w.drew) hx _) (fun v hv => h1 v (List.mem_of_mem_drop hv))
  rw [this]
  congr 2
  simp only [Nat.min_def]; split <;> omega
 obtain ⟨cu1, bx1, e1⟩ := box_setCells (xs.drop (i)) (i + 1) w.drew cur hx (by rw [hdl, hsz]; omega)
 have g1 := grown_setCells b (xs.drop (i)) (i + 1) w.drew
 obtain ⟨W1, hW1⟩ : ∃ W1, W1 = w.drew.setCells b (i + 1) (xs.drop (i)) := ⟨_, rfl⟩
 rw [← hW1] at hcp1 bx1 g1
 clear hW1
 have hv1 : Box W1 vb 3 vs.toArray := Box.grown (w := w.drew) hv g1 (by simpa using hvb)
 have hsz1 : cu1.size = cur.size := by rw [← Array.length_toList, e1]; simp [hdl]; omega
 have hcp2 : ∀ ty dc, (Builtin.copy_ #[22, 22] ty #[.slice (some ⟨b, i, none⟩) (n + 1 - i) dc, .slice (some ⟨vb, 0, none⟩) 1 1]).run Tryz.prog W1 = .ok (goInt 1) (W1.setCells b (i) vs) := fun ty dc => by
  have := run_copy_s (P := Tryz.prog) W1 22 22 ty 3 1 b (i) (n + 1 - i) dc ⟨vb, 0, none⟩ 1 1 vs Tryz.underlying22 hinfo (by rw [hvl]; simp only [Nat.min_def]; split <;> omega)
   (fun j v hj => by rw [Addr.add_lit, hv1.cell]; simpa using hj)
   (fun j hj => bx1.isSome (by omega)) (fun j hj => bx1.frozen _) h1v
  rw [this]
  congr 2
  simp only [Nat.min_def]; split <;> omega
 obtain ⟨cu2, bx2, e2⟩ := box_setCells vs (i) W1 cu1 bx1 (by rw [hvl, hsz1, hsz]; omega)
 have g2 := grown_setCells b vs (i) W1
 obtain ⟨W2, hW2⟩ : ∃ W2, W2 = W1.setCells b (i) vs := ⟨_, rfl⟩
 rw [← hW2] at hcp2 bx2 g2
 clear hW2
 have hfin := set_tail_first (L := cur.toList) (xs := xs.take (i)) (ys := xs.drop (i)) (vs := vs) (a := i) (s := 1) (r := (n - i)) (L1 := cu1.toList) (L2 := cu2.toList)
  (by rw [← htk, List.take_take, Nat.min_eq_left (by omega)]) hvl hdl (by simp [hsz]; omega) (by rw [List.length_take, hl]; omega) (by have := e1; rwa [show i + 1 = i + 1 by omega] at this) e2
 have hret : InsIs base 3 1 n (xs.take (i) ++ vs ++ xs.drop (i)) (some b) w (.returned (.slice (some ⟨b, 0, none⟩) (n + 1) c)) W2 :=
  ⟨_, c, rfl, ⟨by simp [hl, hvl]; omega, .inr ⟨b, c, cu2, rfl, hbase, bx2, hroom, hc, by rw [← Array.length_toList, hfin.2]; simpa using hsz, by rw [← hfin.1]; congr 1; omega⟩⟩, grown_more (a := w) ⟨g1.os, g1.tape, g1.output, g1.size, g1.block⟩ g2 (.inl rfl), .inl rfl⟩
 have HRET := h! hret
 clear hret hfin bx2 g2 e2 e1 bx1 g1 hv1 hsz1 hx hsz htk hv hvc hxc
 have hz3 : ¬ ((i : Int) = (n : Int)) := by omega
 have hw1 : IntKind.i64.wrap ((i : Int) + 1) = (i : Int) + 1 := by rw [IntKind.wrap_i64]; omega
 have htn : ((i : Int) + 1).toNat = i + 1 := by omega
 have hb2 : ¬ (c = i + 1) := by omega
 have hb4 : ¬ (c = i) := by omega
 have hin : i ≤ n := by omega
 have hb1 : (0 : Int) ≤ (i : Int) + 1 := by omega
 have mixed : Tryz.prog.follows Departure.mixedOrders = true := by kernel_rfl
 have hb3 : (i : Int) ≤ (n : Int) + 1 := by omega
 have hb5 : (i : Int) < (n : Int) := by omega
 go_enter Tryz.func113, Tryz.ntmps113
 go_wp2_with (simp only [hov])
 go_region_law_o (refine step_copy_go rfl _ _ 22 22 rfl _ _ (by simp [Act.eval, Act.put]) (by simp [Act.eval, Act.put]) (hcp1 _ _ _) ?_)
 go_wp2_with (at_builtin; refine wpList_copy_go _ rfl _ _ 22 22 rfl _ _ rfl rfl (hcp2 _ _) ?_)
 go_ret
 exact HRET.out
set_option maxHeartbeats 4000000 in
set_option maxRecDepth 100000 in
theorem insP_shift (base b n c i vb : Nat) (xs vs : List Value) (cur : Array Value) (w : World) (hi : i < n) (hn : n ≤ 2000) (hroom : n + 1 ≤ c) (hc : c ≤ maxLen)
  (hbase : base ≤ b) (hx : Box w b 86 cur) (hsz : cur.size = c * 3) (htk : cur.toList.take (n * 3) = xs) (hl : xs.length = n * 3)
  (hv : Box w vb 86 vs.toArray) (hvl : vs.length = 3) (hvb : vb ≠ b) (h1 : ∀ u ∈ xs, u.oneCell' = true) (h1v : ∀ u ∈ vs, u.oneCell' = true) :
  Calls Tryz.prog 111 #[.slice (some ⟨b, 0, none⟩) n c, .int .i64 i, .slice (some ⟨vb, 0, none⟩) 1 1] w (InsIs base 86 3 n (xs.take (i * 3) ++ vs ++ xs.drop (i * 3)) (some b) w) := by
 obtain ⟨i0, hi0, hz0, hz1, hz2⟩ := info_parts info_apr
 unfold maxLen at hc
 have hinfo : (Tryz.prog.info? 86).map (·.size) = some 3 := by rw [hi0]; simp [hz1]
 have hxc : ∀ j v, xs[j]? = some v → w.cell? ⟨b, j, none⟩ = some v := by
  intro j v hj
  have hjl := (List.getElem?_eq_some_iff.1 hj).1
  rw [hx.cell j, ← Array.getElem?_toList, ← hj, ← htk, List.getElem?_take, if_pos (by omega)]
 have hvc : ∀ j v, vs[j]? = some v → w.cell? ⟨vb, j, none⟩ = some v := by
  intro j v hj
  rw [hv.cell j]
  simpa using hj
 have hdl : (xs.drop (i * 3)).length = ((n - i) * 3) := by rw [List.length_drop, hl]; omega
 have hov : ∀ lb cb, (callFunc 118 #[.slice (some ⟨vb, 0, none⟩) 1 1, .slice (some ⟨b, (i + 1) * 3, none⟩) lb cb]).run Tryz.prog w = .ok (.value (.bool false)) w := fun lb cb => by
  rw [run_callFunc_extern Tryz.func118 (by kernel_rfl) (by kernel_rfl) (by kernel_rfl) (e := Extern.SlicesOverlaps.overlaps #[55, 55] #[4]) (by kernel_rfl),
   Lib.run_overlaps_apart w 55 4 86 Tryz.underlying55 3 Tryz.sizeOf86 ⟨vb, 0, none⟩ ⟨b, (i + 1) * 3, none⟩ 1 1 lb cb hvb 86 86 vs.toArray.size cur.size (by simp [World.shape?, hv, Box] at *; simp [hv]) (by simp [World.shape?, Box] at *; simp [hx]) (by omega) (hv.frozen 0) (hv.frozen _)]
  rfl
 have hcp1 : ∀ ty dc sc, (Builtin.copy_ #[55, 55] ty #[.slice (some ⟨b, (i + 1) * 3, none⟩) (n - i) dc, .slice (some ⟨b, i * 3, none⟩) (n + 1 - i) sc]).run Tryz.prog w.drew = .ok (goInt (n - i)) (w.drew.setCells b ((i + 1) * 3) (xs.drop (i * 3))) := fun ty dc sc => by
  have := run_copy_s (P := Tryz.prog) w.drew 55 55 ty 86 3 b ((i + 1) * 3) (n - i) dc ⟨b, i * 3, none⟩ (n + 1 - i) sc (xs.drop (i * 3)) Tryz.underlying55 hinfo (by rw [hdl]; simp only [Nat.min_def]; split <;> omega)
   (fun j v hj => by rw [Addr.add_lit]; exact hxc _ v (by rw [List.getElem?_drop] at hj; simpa using hj))
   (fun j hj => Box.isSome (w := w.drew) hx (by rw [hdl] at hj; omega)) (fun j hj => Box.frozen (w := w.drew) hx _) (fun v hv => h1 v (List.mem_of_mem_drop hv))
  rw [this]
  congr 2
  simp only [Nat.min_def]; split <;> omega
 obtain ⟨cu1, bx1, e1⟩ := box_setCells (xs.drop (i * 3)) ((i + 1) * 3) w.drew cur hx (by rw [hdl, hsz]; omega)
 have g1 := grown_setCells b (xs.drop (i * 3)) ((i + 1) * 3) w.drew
 obtain ⟨W1, hW1⟩ : ∃ W1, W1 = w.drew.setCells b ((i + 1) * 3) (xs.drop (i * 3)) := ⟨_, rfl⟩
 rw [← hW1] at hcp1 bx1 g1
 clear hW1
 have hv1 : Box W1 vb 86 vs.toArray := Box.grown (w := w.drew) hv g1 (by simpa using hvb)
 have hsz1 : cu1.size = cur.size := by rw [← Array.length_toList, e1]; simp [hdl]; omega
 have hcp2 : ∀ ty dc, (Builtin.copy_ #[55, 55] ty #[.slice (some ⟨b, i * 3, none⟩) (n + 1 - i) dc, .slice (some ⟨vb, 0, none⟩) 1 1]).run Tryz.prog W1 = .ok (goInt 1) (W1.setCells b (i * 3) vs) := fun ty dc => by
  have := run_copy_s (P := Tryz.prog) W1 55 55 ty 86 3 b (i * 3) (n + 1 - i) dc ⟨vb, 0, none⟩ 1 1 vs Tryz.underlying55 hinfo (by rw [hvl]; simp only [Nat.min_def]; split <;> omega)
   (fun j v hj => by rw [Addr.add_lit, hv1.cell]; simpa using hj)
   (fun j hj => bx1.isSome (by omega)) (fun j hj => bx1.frozen _) h1v
  rw [this]
  congr 2
  simp only [Nat.min_def]; split <;> omega
 obtain ⟨cu2, bx2, e2⟩ := box_setCells vs (i * 3) W1 cu1 bx1 (by rw [hvl, hsz1, hsz]; omega)
 have g2 := grown_setCells b vs (i * 3) W1
 obtain ⟨W2, hW2⟩ : ∃ W2, W2 = W1.setCells b (i * 3) vs := ⟨_, rfl⟩
 rw [← hW2] at hcp2 bx2 g2
 clear hW2
 have hfin := set_tail_first (L := cur.toList) (xs := xs.take (i * 3)) (ys := xs.drop (i * 3)) (vs := vs) (a := i * 3) (s := 3) (r := ((n - i) * 3)) (L1 := cu1.toList) (L2 := cu2.toList)
  (by rw [← htk, List.take_take, Nat.min_eq_left (by omega)]) hvl hdl (by simp [hsz]; omega) (by rw [List.length_take, hl]; omega) (by have := e1; rwa [show (i + 1) * 3 = i * 3 + 3 by omega] at this) e2
 have hret : InsIs base 86 3 n (xs.take (i * 3) ++ vs ++ xs.drop (i * 3)) (some b) w (.returned (.slice (some ⟨b, 0, none⟩) (n + 1) c)) W2 :=
  ⟨_, c, rfl, ⟨by simp [hl, hvl]; omega, .inr ⟨b, c, cu2, rfl, hbase, bx2, hroom, hc, by rw [← Array.length_toList, hfin.2]; simpa using hsz, by rw [← hfin.1]; congr 1; omega⟩⟩, grown_more (a := w) ⟨g1.os, g1.tape, g1.output, g1.size, g1.block⟩ g2 (.inl rfl), .inl rfl⟩
 have HRET := h! hret
 clear hret hfin bx2 g2 e2 e1 bx1 g1 hv1 hsz1 hx hsz htk hv hvc hxc
 have hz3 : ¬ ((i : Int) = (n : Int)) := by omega
 have hw1 : IntKind.i64.wrap ((i : Int) + 1) = (i : Int) + 1 := by rw [IntKind.wrap_i64]; omega
 have htn : ((i : Int) + 1).toNat = i + 1 := by omega
 have hb2 : ¬ (c = i + 1) := by omega
 have hb4 : ¬ (c = i) := by omega
 have hin : i ≤ n := by omega
 have hb1 : (0 : Int) ≤ (i : Int) + 1 := by omega
 have mixed : Tryz.prog.follows Departure.mixedOrders = true := by kernel_rfl
 have hb3 : (i : Int) ≤ (n : Int) + 1 := by omega
 have hb5 : (i : Int) < (n : Int) := by omega
 go_enter Tryz.func111, Tryz.ntmps111
 go_wp2_with (simp only [hov])
 go_region_law_o (refine step_copy_go rfl _ _ 55 55 rfl _ _ (by simp [Act.eval, Act.put]) (by simp [Act.eval, Act.put]) (hcp1 _ _ _) ?_)
 go_wp2_with (at_builtin; refine wpList_copy_go _ rfl _ _ 55 55 rfl _ _ rfl rfl (hcp2 _ _) ?_)
 go_ret
 exact HRET.out
set_option maxHeartbeats 4000000 in
set_option maxRecDepth 100000 in
theorem insI_end (base n c vb : Nat) (A : Option Addr) (xs vs : List Value) (w : World) (hn : n ≤ 2000) (hnc : n ≤ c) (hcm : c ≤ maxLen) (hbase : base ≤ w.heap.size) (ho : w.ownsRow base 3 1 (.slice A n c) n xs)
  (hv : Box w vb 3 vs.toArray) (hvl : vs.length = 1) (h1v : ∀ u ∈ vs, u.oneCell' = true) :
  Calls Tryz.prog 113 #[.slice A n c, .int .i64 n, .slice (some ⟨vb, 0, none⟩) 1 1] w (InsIs base 3 1 n (xs ++ vs) (Value.ownBlock (.slice A n c)) w) := by
 obtain ⟨i0, hi, hz0, hz1, hz2⟩ := info_parts info_ai
 unfold maxLen at hcm
 have hr := rdG_box (n := 1) (s := 1) (xs := vs) hv rfl (by omega)
 have HO := h! ho
 have HR := h! hr
 have H1 := h! h1v
 clear ho hr h1v hv hvl
 go_enter Tryz.func113, Tryz.ntmps113
 go_wp2_with (at_builtin; refine wpList_append_g _ rfl _ _ 22 rfl base 3 i0 _ 1 8 Tryz.underlying22 hi hz0 hz1 hz2 rfl (by omega) (.slice A n c) _ _ rfl HO.out (some ⟨vb, 0, none⟩) 1 1 vs rfl HR.out H1.out (by unfold maxLen; omega) (by omega) hbase ?_; intro v2 w2 hown2 hg2 hob2)
 all_goals
  obtain ⟨A', c', rfl, _, _⟩ := own_form hown2
  go_ret
  refine ⟨A', c', rfl, hown2, ?_, ?_⟩
  ·rcases A with _ | _ <;> exact hg2
  ·rcases A with _ | _ <;> exact hob2
set_option maxHeartbeats 4000000 in
set_option maxRecDepth 100000 in
theorem insP_end (base n c vb : Nat) (A : Option Addr) (xs vs : List Value) (w : World) (hn : n ≤ 2000) (hnc : n ≤ c) (hcm : c ≤ maxLen) (hbase : base ≤ w.heap.size) (ho : w.ownsRow base 86 3 (.slice A n c) n xs)
  (hv : Box w vb 86 vs.toArray) (hvl : vs.length = 3) (h1v : ∀ u ∈ vs, u.oneCell' = true) :
  Calls Tryz.prog 111 #[.slice A n c, .int .i64 n, .slice (some ⟨vb, 0, none⟩) 1 1] w (InsIs base 86 3 n (xs ++ vs) (Value.ownBlock (.slice A n c)) w) := by
 obtain ⟨i0, hi, hz0, hz1, hz2⟩ := info_parts info_apr
 unfold maxLen at hcm
 have hr := rdG_box (n := 1) (s := 3) (xs := vs) hv rfl (by omega)
 have HO := h! ho
 have HR := h! hr
 have H1 := h! h1v
 clear ho hr h1v hv hvl
 go_enter Tryz.func111, Tryz.ntmps111
 go_wp2_with (at_builtin; refine wpList_append_g _ rfl _ _ 55 rfl base 86 i0 _ 3 32 Tryz.underlying55 hi hz0 hz1 hz2 rfl (by omega) (.slice A n c) _ _ rfl HO.out (some ⟨vb, 0, none⟩) 1 1 vs rfl HR.out H1.out (by unfold maxLen; omega) (by omega) hbase ?_; intro v2 w2 hown2 hg2 hob2)
 all_goals
  obtain ⟨A', c', rfl, _, _⟩ := own_form hown2
  go_ret
  refine ⟨A', c', rfl, hown2, ?_, ?_⟩
  ·rcases A with _ | _ <;> exact hg2
  ·rcases A with _ | _ <;> exact hob2
set_option maxHeartbeats 4000000 in
set_option maxRecDepth 100000 in
theorem insI_grow (base b n i vb : Nat) (xs vs : List Value) (cur : Array Value) (w : World) (hi : i < n) (hn : n ≤ 2000) (hbw : base ≤ w.heap.size)
  (hx : Box w b 3 cur) (htk : cur.toList.take (n * 1) = xs) (hl : xs.length = n * 1)
  (hv : Box w vb 3 vs.toArray) (hvl : vs.length = 1) (h1 : ∀ u ∈ xs, u.oneCell' = true) (h1v : ∀ u ∈ vs, u.oneCell' = true) :
  Calls Tryz.prog 113 #[.slice (some ⟨b, 0, none⟩) n n, .int .i64 i, .slice (some ⟨vb, 0, none⟩) 1 1] w (InsIs base 3 1 n (xs.take (i) ++ vs ++ xs.drop (i)) (some b) w) := by
 obtain ⟨i0, hi0, hz0, hz1, hz2⟩ := info_parts info_ai
 have hinfo : (Tryz.prog.info? 3).map (·.size) = some 1 := by rw [hi0]; simp [hz1]
 have hxc : ∀ j v, xs[j]? = some v → w.cell? ⟨b, j, none⟩ = some v := by
  intro j v hj
  have hjl := (List.getElem?_eq_some_iff.1 hj).1
  rw [hx.cell j, ← Array.getElem?_toList, ← hj, ← htk, List.getElem?_take, if_pos (by omega)]
 have hdl : (xs.drop (i)).length = (n - i) := by rw [List.length_drop, hl]; omega
 have hold : (Builtin.firstCells i0.size i (.slice (some ⟨b, 0, none⟩) i n)).run Tryz.prog w.drew = .ok (xs.take (i)).toArray w.drew := by
  rw [hz1]
  exact run_firstCells_some w.drew 1 i ⟨b, 0, none⟩ i n (xs.take (i)) (by rw [List.length_take, hl]; omega) (fun j v hj => by
   rw [Addr.add_lit]
   rw [List.getElem?_take] at hj
   split at hj
   ·rw [Nat.zero_add]; exact hxc j v hj
   ·cases hj)
 have hcur : ∀ (j : Nat) (v : Value), xs[j]? = some v → cur[j]? = some v := by
  intro j v hj
  rw [← hx.cell j]
  exact hxc j v hj
 obtain ⟨G, hG⟩ : ∃ G, G = grownCap w (n + 1) n 3 := ⟨_, rfl⟩
 obtain ⟨zc, hzc⟩ : ∃ zc : Array Value, zc = (.int .i64 0 : Value).cells := ⟨_, rfl⟩
 have hzs : zc.size = 1 := by rw [hzc]; rfl
 have hsz0 : ∀ k, (Builtin.zeroCells zc k).size = k * 1 := fun k => by simp [Builtin.zeroCells, hzs]
 have hrz : ∀ ty, (Builtin.append_ #[22, 3] ty #[.slice (some ⟨b, 0, none⟩) i n, .int .i64 ((n : Int) + 1 - (i : Int))]).run Tryz.prog w =
   .ok (.slice (some ⟨w.heap.size, 0, none⟩) (n + 1) G) (w.drew.alloc (.cells ((xs.take (i)).toArray ++ Builtin.zeroCells zc (n + 1 - i) ++ Builtin.zeroCells zc (G - (n + 1))) 3)) := fun ty => by
  have h := Lib.run_append_grow_zeros (P := Tryz.prog) w 22 3 ty 3 i0 _ .i64 .i64 Tryz.underlying22 Tryz.underlying3 hi0 hz0 (some ⟨b, 0, none⟩) i n (xs.take (i)) hold (n + 1 - i) (by omega) (by omega) (by omega) (by omega) (by rw [hz2]; omega)
   (by rw [hz2, show i + (n + 1 - i) = n + 1 by omega]; exact growslice_fits (by omega) (by omega))
  rw [show i + (n + 1 - i) = n + 1 by omega, ← hG, ← hzc] at h
  rw [show (n : Int) + 1 - (i : Int) = ((n + 1 - i : Nat) : Int) by omega]
  exact h
 have hGn : n + 1 ≤ G := by rw [hG]; exact grownCap_ge w _ _ _
 have hGm : G ≤ maxLen := by rw [hG]; exact grownCap_le_maxLen w (n + 1) n 3 (by unfold maxLen; omega)
 obtain ⟨ROW, hROW⟩ : ∃ ROW : Array Value, ROW = (xs.take (i)).toArray ++ Builtin.zeroCells zc (n + 1 - i) ++ Builtin.zeroCells zc (G - (n + 1)) := ⟨_, rfl⟩
 have hRs : ROW.size = G * 1 := by
  rw [hROW]
  simp only [Array.size_append, hsz0, List.size_toArray, List.length_take, hl]
  omega
 have hRt : ROW.toList.take (i) = xs.take (i) := by
  rw [hROW]
  simp only [Array.toList_append, List.append_assoc]
  rw [List.take_append_of_le_length (by simp [hl]; omega), List.take_take, Nat.min_self]
 rw [← hROW] at hrz
 clear hROW hzc hsz0 hzs hold
 obtain ⟨g, hg⟩ : ∃ g, g = w.heap.size := ⟨_, rfl⟩
 obtain ⟨W1, hW1⟩ : ∃ W1, W1 = w.drew.alloc (.cells ROW 3) := ⟨_, rfl⟩
 have bN : Box W1 g 3 ROW := by rw [hW1]; exact Box.new_at (w := w.drew) g hg.symm
 have bB : Box W1 b 3 cur := by rw [hW1]; exact Box.alloc (w := w.drew) hx _
 have bV : Box W1 vb 3 vs.toArray := by rw [hW1]; exact Box.alloc (w := w.drew) hv _
 have hbg : b ≠ g := by have := hx.lt; omega
 have hg0 : w.grownBy W1 (some b) := by rw [hW1]; exact grown_alloc (a := w) (b := w.drew) ⟨rfl, rfl, rfl, Nat.le_refl _, fun _ _ _ => rfl⟩ _
 have hs1 : w.heap.size ≤ W1.heap.size := hg0.size
 rw [← hW1, ← hg] at hrz
 clear hW1 hx hv htk
 obtain ⟨cu1, bx1, e1⟩ := box_setCells vs (i) W1 ROW bN (by rw [hvl, hRs]; omega)
 have g1 := grown_setCells g vs (i) W1
 have hcp1 : ∀ ty dc, (Builtin.copy_ #[22, 22] ty #[.slice (some ⟨g, i, none⟩) (n + 1 - i) dc, .slice (some ⟨vb, 0, none⟩) 1 1]).run Tryz.prog W1 = .ok (goInt 1) (W1.setCells g (i) vs) := fun ty dc => by
  have := run_copy_s (P := Tryz.prog) W1 22 22 ty 3 1 g (i) (n + 1 - i) dc ⟨vb, 0, none⟩ 1 1 vs Tryz.underlying22 hinfo (by rw [hvl]; simp only [Nat.min_def]; split <;> omega)
   (fun j v hj => by rw [Addr.add_lit, bV.cell]; simpa using hj)
   (fun j hj => bN.isSome (by omega)) (fun j hj => bN.frozen _) h1v
  rw [this]
  congr 2
  simp only [Nat.min_def]; split <;> omega
 obtain ⟨W2, hW2⟩ : ∃ W2, W2 = W1.setCells g (i) vs := ⟨_, rfl⟩
 rw [← hW2] at hcp1 bx1 g1
 clear hW2
 have bB2 : Box W2 b 3 cur := Box.grown bB g1 (by simpa using hbg)
 have hsz1 : cu1.size = ROW.size := by rw [← Array.length_toList, e1]; simp [hvl]; omega
 have hcp2 : ∀ ty dc sc, (Builtin.copy_ #[22, 22] ty #[.slice (some ⟨g, i + 1, none⟩) (n - i) dc, .slice (some ⟨b, i, none⟩) (n - i) sc]).run Tryz.prog W2.drew = .ok (goInt (n - i)) (W2.drew.setCells g (i + 1) (xs.drop (i))) := fun ty dc sc => by
  have := run_copy_s (P := Tryz.prog) W2.drew 22 22 ty 3 1 g (i + 1) (n - i) dc ⟨b, i, none⟩ (n - i) sc (xs.drop (i)) Tryz.underlying22 hinfo (by rw [hdl]; simp only [Nat.min_def]; split <;> omega)
   (fun j v hj => by rw [Addr.add_lit, Box.cell (w := W2.drew) bB2]; exact hcur _ v (by rw [List.getElem?_drop] at hj; simpa using hj))
   (fun j hj => Box.isSome (w := W2.drew) bx1 (by rw [hdl] at hj; omega)) (fun j hj => Box.frozen (w := W2.drew) bx1 _) (fun v hv => h1 v (List.mem_of_mem_drop hv))
  rw [this]
  congr 2
  simp only [Nat.min_def]; split <;> omega
 obtain ⟨cu2, bx2, e2⟩ := box_setCells (xs.drop (i)) (i + 1) W2.drew cu1 bx1 (by rw [hdl, hsz1, hRs]; omega)
 have g2 := grown_setCells g (xs.drop (i)) (i + 1) W2.drew
 obtain ⟨W3, hW3⟩ : ∃ W3, W3 = W2.drew.setCells g (i + 1) (xs.drop (i)) := ⟨_, rfl⟩
 rw [← hW3] at hcp2 bx2 g2
 clear hW3
 have hfin := set_new_first (L := ROW.toList) (xs := xs.take (i)) (ys := xs.drop (i)) (vs := vs) (a := i) (s := 1) (r := (n - i)) (L1 := cu1.toList) (L2 := cu2.toList)
  hRt hvl hdl (by simp [hRs]; omega) (by rw [List.length_take, hl]; omega) e1 (by have := e2; rwa [show i + 1 = i + 1 by omega] at this)
 have hret : InsIs base 3 1 n (xs.take (i) ++ vs ++ xs.drop (i)) (some b) w (.returned (.slice (some ⟨g, 0, none⟩) (n + 1) G)) W3 :=
  ⟨_, G, rfl, ⟨by simp [hl, hvl]; omega, .inr ⟨g, G, cu2, rfl, by omega, bx2, hGn, hGm, by rw [← Array.length_toList, hfin.2]; simpa using hRs, by rw [← hfin.1]; congr 1; omega⟩⟩,
   grown_more hg0 (grown_more (a := W1) (r := some g) g1 (b := W2) ⟨g2.os, g2.tape, g2.output, g2.size, g2.block⟩ (.inl rfl)) (.inr fun k hk => by injection hk with hk; omega), .inr (by rw [← hg]; rfl)⟩
 have HRET := h! hret
 clear hret hfin bx2 g2 e2 e1 bx1 g1 hsz1 bB bB2 bV bN hcur hRt hRs hg0 hs1 hdl hl hG hg
 have hz3 : ¬ ((i : Int) = (n : Int)) := by omega
 have hw1 : IntKind.i64.wrap ((i : Int) + 1) = (i : Int) + 1 := by rw [IntKind.wrap_i64]; omega
 have htn : ((i : Int) + 1).toNat = i + 1 := by omega
 have hb2 : ¬ (G = i + 1) := by omega
 have hb4 : ¬ (G = i) := by omega
 have hb6 : ¬ (n = i) := by omega
 have hin : i ≤ n := by omega
 have hb1 : (0 : Int) ≤ (i : Int) + 1 := by omega
 have hb3 : (i : Int) ≤ (n : Int) + 1 := by omega
 have hb5 : (i : Int) < (n : Int) := by omega
 have hb7 : (i : Int) ≤ (n : Int) := by omega
 have mixed : Tryz.prog.follows Departure.mixedOrders = true := by kernel_rfl
 unfold maxLen at hGm
 go_enter Tryz.func113, Tryz.ntmps113
 go_wp2_with (first
  | (at_builtin; refine Lib.wpList_append_run _ rfl _ _ _ _ rfl _ _ rfl rfl _ _ (hrz _) ?_)
  | (at_builtin; refine wpList_copy_go _ rfl _ _ 22 22 rfl _ _ rfl rfl (hcp1 _ _) ?_))
 go_region_law_o (refine step_copy_go rfl _ _ 22 22 rfl _ _ (by simp [Act.eval, Act.put]) (by simp [Act.eval, Act.put]) (hcp2 _ _ _) ?_)
 go_wp2_with fail
 go_ret
 exact HRET.out
set_option maxHeartbeats 4000000 in
set_option maxRecDepth 100000 in
theorem insP_grow (base b n i vb : Nat) (xs vs : List Value) (cur : Array Value) (w : World) (hi : i < n) (hn : n ≤ 2000) (hbw : base ≤ w.heap.size)
  (hx : Box w b 86 cur) (htk : cur.toList.take (n * 3) = xs) (hl : xs.length = n * 3)
  (hv : Box w vb 86 vs.toArray) (hvl : vs.length = 3) (h1 : ∀ u ∈ xs, u.oneCell' = true) (h1v : ∀ u ∈ vs, u.oneCell' = true) :
  Calls Tryz.prog 111 #[.slice (some ⟨b, 0, none⟩) n n, .int .i64 i, .slice (some ⟨vb, 0, none⟩) 1 1] w (InsIs base 86 3 n (xs.take (i * 3) ++ vs ++ xs.drop (i * 3)) (some b) w) := by
 obtain ⟨i0, hi0, hz0, hz1, hz2⟩ := info_parts info_apr
 have hinfo : (Tryz.prog.info? 86).map (·.size) = some 3 := by rw [hi0]; simp [hz1]
 have hxc : ∀ j v, xs[j]? = some v → w.cell? ⟨b, j, none⟩ = some v := by
  intro j v hj
  have hjl := (List.getElem?_eq_some_iff.1 hj).1
  rw [hx.cell j, ← Array.getElem?_toList, ← hj, ← htk, List.getElem?_take, if_pos (by omega)]
 have hdl : (xs.drop (i * 3)).length = ((n - i) * 3) := by rw [List.length_drop, hl]; omega
 have hold : (Builtin.firstCells i0.size i (.slice (some ⟨b, 0, none⟩) i n)).run Tryz.prog w.drew = .ok (xs.take (i * 3)).toArray w.drew := by
  rw [hz1]
  exact run_firstCells_some w.drew 3 i ⟨b, 0, none⟩ i n (xs.take (i * 3)) (by rw [List.length_take, hl]; omega) (fun j v hj => by
   rw [Addr.add_lit]
   rw [List.getElem?_take] at hj
   split at hj
   ·rw [Nat.zero_add]; exact hxc j v hj
   ·cases hj)
 have hcur : ∀ (j : Nat) (v : Value), xs[j]? = some v → cur[j]? = some v := by
  intro j v hj
  rw [← hx.cell j]
  exact hxc j v hj
 obtain ⟨G, hG⟩ : ∃ G, G = grownCap w (n + 1) n 86 := ⟨_, rfl⟩
 obtain ⟨zc, hzc⟩ : ∃ zc : Array Value, zc = (.agg #[.int .i64 0, .int .i64 0, .string ⟨#[]⟩] : Value).cells := ⟨_, rfl⟩
 have hzs : zc.size = 3 := by rw [hzc]; rfl
 have hsz0 : ∀ k, (Builtin.zeroCells zc k).size = k * 3 := fun k => by simp [Builtin.zeroCells, hzs]
 have hrz : ∀ ty, (Builtin.append_ #[55, 3] ty #[.slice (some ⟨b, 0, none⟩) i n, .int .i64 ((n : Int) + 1 - (i : Int))]).run Tryz.prog w =
   .ok (.slice (some ⟨w.heap.size, 0, none⟩) (n + 1) G) (w.drew.alloc (.cells ((xs.take (i * 3)).toArray ++ Builtin.zeroCells zc (n + 1 - i) ++ Builtin.zeroCells zc (G - (n + 1))) 86)) := fun ty => by
  have h := Lib.run_append_grow_zeros (P := Tryz.prog) w 55 3 ty 86 i0 _ .i64 .i64 Tryz.underlying55 Tryz.underlying3 hi0 hz0 (some ⟨b, 0, none⟩) i n (xs.take (i * 3)) hold (n + 1 - i) (by omega) (by omega) (by omega) (by omega) (by rw [hz2]; omega)
   (by rw [hz2, show i + (n + 1 - i) = n + 1 by omega]; exact growslice_fits (by omega) (by omega))
  rw [show i + (n + 1 - i) = n + 1 by omega, ← hG, ← hzc] at h
  rw [show (n : Int) + 1 - (i : Int) = ((n + 1 - i : Nat) : Int) by omega]
  exact h
 have hGn : n + 1 ≤ G := by rw [hG]; exact grownCap_ge w _ _ _
 have hGm : G ≤ maxLen := by rw [hG]; exact grownCap_le_maxLen w (n + 1) n 86 (by unfold maxLen; omega)
 obtain ⟨ROW, hROW⟩ : ∃ ROW : Array Value, ROW = (xs.take (i * 3)).toArray ++ Builtin.zeroCells zc (n + 1 - i) ++ Builtin.zeroCells zc (G - (n + 1)) := ⟨_, rfl⟩
 have hRs : ROW.size = G * 3 := by
  rw [hROW]
  simp only [Array.size_append, hsz0, List.size_toArray, List.length_take, hl]
  omega
 have hRt : ROW.toList.take (i * 3) = xs.take (i * 3) := by
  rw [hROW]
  simp only [Array.toList_append, List.append_assoc]
  rw [List.take_append_of_le_length (by simp [hl]; omega), List.take_take, Nat.min_self]
 rw [← hROW] at hrz
 clear hROW hzc hsz0 hzs hold
 obtain ⟨g, hg⟩ : ∃ g, g = w.heap.size := ⟨_, rfl⟩
 obtain ⟨W1, hW1⟩ : ∃ W1, W1 = w.drew.alloc (.cells ROW 86) := ⟨_, rfl⟩
 have bN : Box W1 g 86 ROW := by rw [hW1]; exact Box.new_at (w := w.drew) g hg.symm
 have bB : Box W1 b 86 cur := by rw [hW1]; exact Box.alloc (w := w.drew) hx _
 have bV : Box W1 vb 86 vs.toArray := by rw [hW1]; exact Box.alloc (w := w.drew) hv _
 have hbg : b ≠ g := by have := hx.lt; omega
 have hg0 : w.grownBy W1 (some b) := by rw [hW1]; exact grown_alloc (a := w) (b := w.drew) ⟨rfl, rfl, rfl, Nat.le_refl _, fun _ _ _ => rfl⟩ _
 have hs1 : w.heap.size ≤ W1.heap.size := hg0.size
 rw [← hW1, ← hg] at hrz
 clear hW1 hx hv htk
 obtain ⟨cu1, bx1, e1⟩ := box_setCells vs (i * 3) W1 ROW bN (by rw [hvl, hRs]; omega)
 have g1 := grown_setCells g vs (i * 3) W1
 have hcp1 : ∀ ty dc, (Builtin.copy_ #[55, 55] ty #[.slice (some ⟨g, i * 3, none⟩) (n + 1 - i) dc, .slice (some ⟨vb, 0, none⟩) 1 1]).run Tryz.prog W1 = .ok (goInt 1) (W1.setCells g (i * 3) vs) := fun ty dc => by
  have := run_copy_s (P := Tryz.prog) W1 55 55 ty 86 3 g (i * 3) (n + 1 - i) dc ⟨vb, 0, none⟩ 1 1 vs Tryz.underlying55 hinfo (by rw [hvl]; simp only [Nat.min_def]; split <;> omega)
   (fun j v hj => by rw [Addr.add_lit, bV.cell]; simpa using hj)
   (fun j hj => bN.isSome (by omega)) (fun j hj => bN.frozen _) h1v
  rw [this]
  congr 2
  simp only [Nat.min_def]; split <;> omega
 obtain ⟨W2, hW2⟩ : ∃ W2, W2 = W1.setCells g (i * 3) vs := ⟨_, rfl⟩
 rw [← hW2] at hcp1 bx1 g1
 clear hW2
 have bB2 : Box W2 b 86 cur := Box.grown bB g1 (by simpa using hbg)
 have hsz1 : cu1.size = ROW.size := by rw [← Array.length_toList, e1]; simp [hvl]; omega
 have hcp2 : ∀ ty dc sc, (Builtin.copy_ #[55, 55] ty #[.slice (some ⟨g, (i + 1) * 3, none⟩) (n - i) dc, .slice (some ⟨b, i * 3, none⟩) (n - i) sc]).run Tryz.prog W2.drew = .ok (goInt (n - i)) (W2.drew.setCells g ((i + 1) * 3) (xs.drop (i * 3))) := fun ty dc sc => by
  have := run_copy_s (P := Tryz.prog) W2.drew 55 55 ty 86 3 g ((i + 1) * 3) (n - i) dc ⟨b, i * 3, none⟩ (n - i) sc (xs.drop (i * 3)) Tryz.underlying55 hinfo (by rw [hdl]; simp only [Nat.min_def]; split <;> omega)
   (fun j v hj => by rw [Addr.add_lit, Box.cell (w := W2.drew) bB2]; exact hcur _ v (by rw [List.getElem?_drop] at hj; simpa using hj))
   (fun j hj => Box.isSome (w := W2.drew) bx1 (by rw [hdl] at hj; omega)) (fun j hj => Box.frozen (w := W2.drew) bx1 _) (fun v hv => h1 v (List.mem_of_mem_drop hv))
  rw [this]
  congr 2
  simp only [Nat.min_def]; split <;> omega
 obtain ⟨cu2, bx2, e2⟩ := box_setCells (xs.drop (i * 3)) ((i + 1) * 3) W2.drew cu1 bx1 (by rw [hdl, hsz1, hRs]; omega)
 have g2 := grown_setCells g (xs.drop (i * 3)) ((i + 1) * 3) W2.drew
 obtain ⟨W3, hW3⟩ : ∃ W3, W3 = W2.drew.setCells g ((i + 1) * 3) (xs.drop (i * 3)) := ⟨_, rfl⟩
 rw [← hW3] at hcp2 bx2 g2
 clear hW3
 have hfin := set_new_first (L := ROW.toList) (xs := xs.take (i * 3)) (ys := xs.drop (i * 3)) (vs := vs) (a := i * 3) (s := 3) (r := ((n - i) * 3)) (L1 := cu1.toList) (L2 := cu2.toList)
  hRt hvl hdl (by simp [hRs]; omega) (by rw [List.length_take, hl]; omega) e1 (by have := e2; rwa [show (i + 1) * 3 = i * 3 + 3 by omega] at this)
 have hret : InsIs base 86 3 n (xs.take (i * 3) ++ vs ++ xs.drop (i * 3)) (some b) w (.returned (.slice (some ⟨g, 0, none⟩) (n + 1) G)) W3 :=
  ⟨_, G, rfl, ⟨by simp [hl, hvl]; omega, .inr ⟨g, G, cu2, rfl, by omega, bx2, hGn, hGm, by rw [← Array.length_toList, hfin.2]; simpa using hRs, by rw [← hfin.1]; congr 1; omega⟩⟩,
   grown_more hg0 (grown_more (a := W1) (r := some g) g1 (b := W2) ⟨g2.os, g2.tape, g2.output, g2.size, g2.block⟩ (.inl rfl)) (.inr fun k hk => by injection hk with hk; omega), .inr (by rw [← hg]; rfl)⟩
 have HRET := h! hret
 clear hret hfin bx2 g2 e2 e1 bx1 g1 hsz1 bB bB2 bV bN hcur hRt hRs hg0 hs1 hdl hl hG hg
 have hz3 : ¬ ((i : Int) = (n : Int)) := by omega
 have hw1 : IntKind.i64.wrap ((i : Int) + 1) = (i : Int) + 1 := by rw [IntKind.wrap_i64]; omega
 have htn : ((i : Int) + 1).toNat = i + 1 := by omega
 have hb2 : ¬ (G = i + 1) := by omega
 have hb4 : ¬ (G = i) := by omega
 have hb6 : ¬ (n = i) := by omega
 have hin : i ≤ n := by omega
 have hb1 : (0 : Int) ≤ (i : Int) + 1 := by omega
 have hb3 : (i : Int) ≤ (n : Int) + 1 := by omega
 have hb5 : (i : Int) < (n : Int) := by omega
 have hb7 : (i : Int) ≤ (n : Int) := by omega
 have mixed : Tryz.prog.follows Departure.mixedOrders = true := by kernel_rfl
 unfold maxLen at hGm
 go_enter Tryz.func111, Tryz.ntmps111
 go_wp2_with (first
  | (at_builtin; refine Lib.wpList_append_run _ rfl _ _ _ _ rfl _ _ rfl rfl _ _ (hrz _) ?_)
  | (at_builtin; refine wpList_copy_go _ rfl _ _ 55 55 rfl _ _ rfl rfl (hcp1 _ _) ?_))
 go_region_law_o (refine step_copy_go rfl _ _ 55 55 rfl _ _ (by simp [Act.eval, Act.put]) (by simp [Act.eval, Act.put]) (hcp2 _ _ _) ?_)
 go_wp2_with fail
 go_ret
 exact HRET.out
end Go.Proofs.YtiiobafcgdelmaaGreat
