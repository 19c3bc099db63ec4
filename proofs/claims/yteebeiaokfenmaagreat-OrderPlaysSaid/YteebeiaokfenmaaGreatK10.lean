/-
  What slices.Insert of one that waits makes of a row of the call's own. Conditions: the row is not long; the element lies in a block of its own.
  Package skeen: isTwice, over the library's own contracts of slices.Sort and slices.Compact. Conditions: few of each.
  Package order: places: a map of ids to where they stand. Conditions: at most 4,096; ids are ints.
-/
import Derived.Test.YteebeiaokfenmaaGreatK01
import Derived.Test.YteebeiaokfenmaaGreatK09
import Derived.Test.YteebeiaokfenmaaGreatK07
import Derived.Test.YteebeiaokfenmaaGreatK03
import Derived.Lib.OwnBridge
import Derived.Maps.OwnSet
namespace Go.Proofs.YteebeiaokfenmaaGreat.KP
open Go.RowKit CP TP
open CM (Mg Cm)
open TM (Sp)
open KM (Wt Sk)
set_option linter.unusedVariables false
set_option linter.unusedSimpArgs false
set_option maxRecDepth 100000
open Go.Lib Go.Shelf
set_option maxHeartbeats 4000000 in
set_option maxRecDepth 100000 in
theorem insW_shift (base b n c i vb : Nat) (xs vs : List Value) (cur : Array Value) (w : World) (hi : i < n) (hn : n ≤ 2000) (hroom : n + 1 ≤ c) (hc : c ≤ maxLen)
  (hbase : base ≤ b) (hx : Box w b 78 cur) (hsz : cur.size = c * 7) (htk : cur.toList.take (n * 7) = xs) (hl : xs.length = n * 7)
  (hv : Box w vb 78 vs.toArray) (hvl : vs.length = 7) (hvb : vb ≠ b) (h1 : ∀ u ∈ xs, u.oneCell' = true) (h1v : ∀ u ∈ vs, u.oneCell' = true) :
  Calls Tryz.prog 137 #[.slice (some ⟨b, 0, none⟩) n c, .int .i64 i, .slice (some ⟨vb, 0, none⟩) 1 1] w (InsIs base 78 7 n (xs.take (i * 7) ++ vs ++ xs.drop (i * 7)) (some b) w) := by
 obtain ⟨i0, hi0, hz0, hz1, hz2⟩ := info_parts info_wt
 unfold maxLen at hc
 have hinfo : (Tryz.prog.info? 78).map (·.size) = some 7 := by rw [hi0]; simp [hz1]
 have hxc : ∀ j v, xs[j]? = some v → w.cell? ⟨b, j, none⟩ = some v := by
  intro j v hj
  have hjl := (List.getElem?_eq_some_iff.1 hj).1
  rw [hx.cell j, ← Array.getElem?_toList, ← hj, ← htk, List.getElem?_take, if_pos (by omega)]
 have hvc : ∀ j v, vs[j]? = some v → w.cell? ⟨vb, j, none⟩ = some v := by
  intro j v hj
  rw [hv.cell j]
  simpa using hj
 have hdl : (xs.drop (i * 7)).length = ((n - i) * 7) := by rw [List.length_drop, hl]; omega
 have hov : ∀ lb cb, (callFunc 156 #[.slice (some ⟨vb, 0, none⟩) 1 1, .slice (some ⟨b, (i + 1) * 7, none⟩) lb cb]).run Tryz.prog w = .ok (.value (.bool false)) w := fun lb cb => by
  rw [run_callFunc_extern Tryz.func156 (by kernel_rfl) (by kernel_rfl) (by kernel_rfl) (e := Extern.SlicesOverlaps.overlaps #[37, 37] #[4]) (by kernel_rfl),
   Lib.run_overlaps_apart w 37 4 78 Tryz.underlying37 7 Tryz.sizeOf78 ⟨vb, 0, none⟩ ⟨b, (i + 1) * 7, none⟩ 1 1 lb cb hvb 78 78 vs.toArray.size cur.size (by simp [World.shape?, hv, Box] at *; simp [hv]) (by simp [World.shape?, Box] at *; simp [hx]) (by omega) (hv.frozen 0) (hv.frozen _)]
  rfl
 have hcp1 : ∀ ty dc sc, (Builtin.copy_ #[37, 37] ty #[.slice (some ⟨b, (i + 1) * 7, none⟩) (n - i) dc, .slice (some ⟨b, i * 7, none⟩) (n + 1 - i) sc]).run Tryz.prog w.drew = .ok (goInt (n - i)) (w.drew.setCells b ((i + 1) * 7) (xs.drop (i * 7))) := fun ty dc sc => by
  have := run_copy_s (P := Tryz.prog) w.drew 37 37 ty 78 7 b ((i + 1) * 7) (n - i) dc ⟨b, i * 7, none⟩ (n + 1 - i) sc (xs.drop (i * 7)) Tryz.underlying37 hinfo (by rw [hdl]; simp only [Nat.min_def]; split <;> omega)
   (fun j v hj => by rw [Addr.add_lit]; exact hxc _ v (by rw [List.getElem?_drop] at hj; simpa using hj))
   (fun j hj => Box.isSome (w := w.drew) hx (by rw [hdl] at hj; omega)) (fun j hj => Box.frozen (w := w.drew) hx _) (fun v hv => h1 v (List.mem_of_mem_drop hv))
  rw [this]
  congr 2
  simp only [Nat.min_def]; split <;> omega
 obtain ⟨cu1, bx1, e1⟩ := box_setCells (xs.drop (i * 7)) ((i + 1) * 7) w.drew cur hx (by rw [hdl, hsz]; omega)
 have g1 := grown_setCells b (xs.drop (i * 7)) ((i + 1) * 7) w.drew
 obtain ⟨W1, hW1⟩ : ∃ W1, W1 = w.drew.setCells b ((i + 1) * 7) (xs.drop (i * 7)) := ⟨_, rfl⟩
 rw [← hW1] at hcp1 bx1 g1
 clear hW1
 have hv1 : Box W1 vb 78 vs.toArray := Box.grown (w := w.drew) hv g1 (by simpa using hvb)
 have hsz1 : cu1.size = cur.size := by rw [← Array.length_toList, e1]; simp [hdl]; omega
 have hcp2 : ∀ ty dc, (Builtin.copy_ #[37, 37] ty #[.slice (some ⟨b, i * 7, none⟩) (n + 1 - i) dc, .slice (some ⟨vb, 0, none⟩) 1 1]).run Tryz.prog W1 = .ok (goInt 1) (W1.setCells b (i * 7) vs) := fun ty dc => by
  have := run_copy_s (P := Tryz.prog) W1 37 37 ty 78 7 b (i * 7) (n + 1 - i) dc ⟨vb, 0, none⟩ 1 1 vs Tryz.underlying37 hinfo (by rw [hvl]; simp only [Nat.min_def]; split <;> omega)
   (fun j v hj => by rw [Addr.add_lit, hv1.cell]; simpa using hj)
   (fun j hj => bx1.isSome (by omega)) (fun j hj => bx1.frozen _) h1v
  rw [this]
  congr 2
  simp only [Nat.min_def]; split <;> omega
 obtain ⟨cu2, bx2, e2⟩ := box_setCells vs (i * 7) W1 cu1 bx1 (by rw [hvl, hsz1, hsz]; omega)
 have g2 := grown_setCells b vs (i * 7) W1
 obtain ⟨W2, hW2⟩ : ∃ W2, W2 = W1.setCells b (i * 7) vs := ⟨_, rfl⟩
 rw [← hW2] at hcp2 bx2 g2
 clear hW2
 have hfin := set_tail_first (L := cur.toList) (xs := xs.take (i * 7)) (ys := xs.drop (i * 7)) (vs := vs) (a := i * 7) (s := 7) (r := ((n - i) * 7)) (L1 := cu1.toList) (L2 := cu2.toList)
  (by rw [← htk, List.take_take, Nat.min_eq_left (by omega)]) hvl hdl (by simp [hsz]; omega) (by rw [List.length_take, hl]; omega) (by have := e1; rwa [show (i + 1) * 7 = i * 7 + 7 by omega] at this) e2
 have hret : InsIs base 78 7 n (xs.take (i * 7) ++ vs ++ xs.drop (i * 7)) (some b) w (.returned (.slice (some ⟨b, 0, none⟩) (n + 1) c)) W2 :=
  ⟨_, c, rfl, ⟨by simp [hl, hvl]; omega, .inr ⟨b, c, cu2, rfl, hbase, bx2, hroom, hc, by rw [← Array.length_toList, hfin.2]; simpa using hsz, by rw [← hfin.1]; congr 1; omega⟩⟩, grown_more (a := w) ⟨g1.os, g1.tape, g1.output, g1.size, g1.block⟩ g2 (.inl rfl), .inl rfl⟩
 have HRET := h! hret
 clear hret hfin bx2 g2 e2 e1 bx1 g1 hv1 hsz1 hx hsz htk hv hvc hxc
 have hz3 : ¬ ((i : Int) = (n : Int)) := by omega
 have hw1 : IntKind.i64.wrap ((i : Int) + 1) = (i : Int) + 1 := by rw [IntKind.wrap_i64]; omega
 have htn : ((i : Int) + 1).toNat = i + 1 := by omega
 have hb2 : ¬ (c = i + 1) := by omega
 have hb4 : ¬ (c = i) := by omega
 have hin : i ≤ n := by omega
 have hb1 : (0 : Int) ≤ (i : Int) + 1 := by omega
 have mixed : Tryz.prog.follows Departure.mixedOrders = true := by kernel_rfl
 have hb3 : (i : Int) ≤ (n : Int) + 1 := by omega
 have hb5 : (i : Int) < (n : Int) := by omega
 go_enter Tryz.func137, Tryz.ntmps137
 go_wp2_with (simp only [hov])
 go_region_law_o (refine step_copy_go rfl _ _ 37 37 rfl _ _ (by simp [Act.eval, Act.put]) (by simp [Act.eval, Act.put]) (hcp1 _ _ _) ?_)
 go_wp2_with (at_builtin; refine wpList_copy_go _ rfl _ _ 37 37 rfl _ _ rfl rfl (hcp2 _ _) ?_)
 go_ret
 exact HRET.out
set_option maxHeartbeats 4000000 in
set_option maxRecDepth 100000 in
theorem insW_end (base n c vb : Nat) (A : Option Addr) (xs vs : List Value) (w : World) (hn : n ≤ 2000) (hnc : n ≤ c) (hcm : c ≤ maxLen) (hbase : base ≤ w.heap.size) (ho : w.ownsRow base 78 7 (.slice A n c) n xs)
  (hv : Box w vb 78 vs.toArray) (hvl : vs.length = 7) (h1v : ∀ u ∈ vs, u.oneCell' = true) :
  Calls Tryz.prog 137 #[.slice A n c, .int .i64 n, .slice (some ⟨vb, 0, none⟩) 1 1] w (InsIs base 78 7 n (xs ++ vs) (Value.ownBlock (.slice A n c)) w) := by
 obtain ⟨i0, hi, hz0, hz1, hz2⟩ := info_parts info_wt
 unfold maxLen at hcm
 have hr := rdG_box (n := 1) (s := 7) (xs := vs) hv rfl (by omega)
 have HO := h! ho
 have HR := h! hr
 have H1 := h! h1v
 clear ho hr h1v hv hvl
 go_enter Tryz.func137, Tryz.ntmps137
 go_wp2_with (at_builtin; refine wpList_append_g _ rfl _ _ 37 rfl base 78 i0 _ 7 88 Tryz.underlying37 hi hz0 hz1 hz2 rfl (by omega) (.slice A n c) _ _ rfl HO.out (some ⟨vb, 0, none⟩) 1 1 vs rfl HR.out H1.out (by unfold maxLen; omega) (by omega) hbase ?_; intro v2 w2 hown2 hg2 hob2)
 all_goals
  obtain ⟨A', c', rfl, _, _⟩ := own_form hown2
  go_ret
  refine ⟨A', c', rfl, hown2, ?_, ?_⟩
  ·rcases A with _ | _ <;> exact hg2
  ·rcases A with _ | _ <;> exact hob2
set_option maxHeartbeats 4000000 in
set_option maxRecDepth 100000 in
theorem insW_grow (base b n i vb : Nat) (xs vs : List Value) (cur : Array Value) (w : World) (hi : i < n) (hn : n ≤ 2000) (hbw : base ≤ w.heap.size)
  (hx : Box w b 78 cur) (htk : cur.toList.take (n * 7) = xs) (hl : xs.length = n * 7)
  (hv : Box w vb 78 vs.toArray) (hvl : vs.length = 7) (h1 : ∀ u ∈ xs, u.oneCell' = true) (h1v : ∀ u ∈ vs, u.oneCell' = true) :
  Calls Tryz.prog 137 #[.slice (some ⟨b, 0, none⟩) n n, .int .i64 i, .slice (some ⟨vb, 0, none⟩) 1 1] w (InsIs base 78 7 n (xs.take (i * 7) ++ vs ++ xs.drop (i * 7)) (some b) w) := by
 obtain ⟨i0, hi0, hz0, hz1, hz2⟩ := info_parts info_wt
 have hinfo : (Tryz.prog.info? 78).map (·.size) = some 7 := by rw [hi0]; simp [hz1]
 have hxc : ∀ j v, xs[j]? = some v → w.cell? ⟨b, j, none⟩ = some v := by
  intro j v hj
  have hjl := (List.getElem?_eq_some_iff.1 hj).1
  rw [hx.cell j, ← Array.getElem?_toList, ← hj, ← htk, List.getElem?_take, if_pos (by omega)]
 have hdl : (xs.drop (i * 7)).length = ((n - i) * 7) := by rw [List.length_drop, hl]; omega
 have hold : (Builtin.firstCells i0.size i (.slice (some ⟨b, 0, none⟩) i n)).run Tryz.prog w.drew = .ok (xs.take (i * 7)).toArray w.drew := by
  rw [hz1]
  exact run_firstCells_some w.drew 7 i ⟨b, 0, none⟩ i n (xs.take (i * 7)) (by rw [List.length_take, hl]; omega) (fun j v hj => by
   rw [Addr.add_lit]
   rw [List.getElem?_take] at hj
   split at hj
   ·rw [Nat.zero_add]; exact hxc j v hj
   ·cases hj)
 have hcur : ∀ (j : Nat) (v : Value), xs[j]? = some v → cur[j]? = some v := by
  intro j v hj
  rw [← hx.cell j]
  exact hxc j v hj
 obtain ⟨G, hG⟩ : ∃ G, G = grownCap w (n + 1) n 78 := ⟨_, rfl⟩
 obtain ⟨zc, hzc⟩ : ∃ zc : Array Value, zc = (.agg #[.int .i64 0, .slice none 0 0, .int .i64 0, .string ⟨#[]⟩, .string ⟨#[]⟩, .int .i64 0, .bool false] : Value).cells := ⟨_, rfl⟩
 have hzs : zc.size = 7 := by rw [hzc]; rfl
 have hsz0 : ∀ k, (Builtin.zeroCells zc k).size = k * 7 := fun k => by simp [Builtin.zeroCells, hzs]
 have hrz : ∀ ty, (Builtin.append_ #[37, 3] ty #[.slice (some ⟨b, 0, none⟩) i n, .int .i64 ((n : Int) + 1 - (i : Int))]).run Tryz.prog w =
   .ok (.slice (some ⟨w.heap.size, 0, none⟩) (n + 1) G) (w.drew.alloc (.cells ((xs.take (i * 7)).toArray ++ Builtin.zeroCells zc (n + 1 - i) ++ Builtin.zeroCells zc (G - (n + 1))) 78)) := fun ty => by
  have h := Lib.run_append_grow_zeros (P := Tryz.prog) w 37 3 ty 78 i0 _ .i64 .i64 Tryz.underlying37 Tryz.underlying3 hi0 hz0 (some ⟨b, 0, none⟩) i n (xs.take (i * 7)) hold (n + 1 - i) (by omega) (by omega) (by omega) (by omega) (by rw [hz2]; omega)
   (by rw [hz2, show i + (n + 1 - i) = n + 1 by omega]; exact growslice_fits (by omega) (by omega))
  rw [show i + (n + 1 - i) = n + 1 by omega, ← hG, ← hzc] at h
  rw [show (n : Int) + 1 - (i : Int) = ((n + 1 - i : Nat) : Int) by omega]
  exact h
 have hGn : n + 1 ≤ G := by rw [hG]; exact grownCap_ge w _ _ _
 have hGm : G ≤ maxLen := by rw [hG]; exact grownCap_le_maxLen w (n + 1) n 78 (by unfold maxLen; omega)
 obtain ⟨ROW, hROW⟩ : ∃ ROW : Array Value, ROW = (xs.take (i * 7)).toArray ++ Builtin.zeroCells zc (n + 1 - i) ++ Builtin.zeroCells zc (G - (n + 1)) := ⟨_, rfl⟩
 have hRs : ROW.size = G * 7 := by
  rw [hROW]
  simp only [Array.size_append, hsz0, List.size_toArray, List.length_take, hl]
  omega
 have hRt : ROW.toList.take (i * 7) = xs.take (i * 7) := by
  rw [hROW]
  simp only [Array.toList_append, List.append_assoc]
  rw [List.take_append_of_le_length (by simp [hl]; omega), List.take_take, Nat.min_self]
 rw [← hROW] at hrz
 clear hROW hzc hsz0 hzs hold
 obtain ⟨g, hg⟩ : ∃ g, g = w.heap.size := ⟨_, rfl⟩
 obtain ⟨W1, hW1⟩ : ∃ W1, W1 = w.drew.alloc (.cells ROW 78) := ⟨_, rfl⟩
 have bN : Box W1 g 78 ROW := by rw [hW1]; exact Box.new_at (w := w.drew) g hg.symm
 have bB : Box W1 b 78 cur := by rw [hW1]; exact Box.alloc (w := w.drew) hx _
 have bV : Box W1 vb 78 vs.toArray := by rw [hW1]; exact Box.alloc (w := w.drew) hv _
 have hbg : b ≠ g := by have := hx.lt; omega
 have hg0 : w.grownBy W1 (some b) := by rw [hW1]; exact grown_alloc (a := w) (b := w.drew) ⟨rfl, rfl, rfl, Nat.le_refl _, fun _ _ _ => rfl⟩ _
 have hs1 : w.heap.size ≤ W1.heap.size := hg0.size
 rw [← hW1, ← hg] at hrz
 clear hW1 hx hv htk
 obtain ⟨cu1, bx1, e1⟩ := box_setCells vs (i * 7) W1 ROW bN (by rw [hvl, hRs]; omega)
 have g1 := grown_setCells g vs (i * 7) W1
 have hcp1 : ∀ ty dc, (Builtin.copy_ #[37, 37] ty #[.slice (some ⟨g, i * 7, none⟩) (n + 1 - i) dc, .slice (some ⟨vb, 0, none⟩) 1 1]).run Tryz.prog W1 = .ok (goInt 1) (W1.setCells g (i * 7) vs) := fun ty dc => by
  have := run_copy_s (P := Tryz.prog) W1 37 37 ty 78 7 g (i * 7) (n + 1 - i) dc ⟨vb, 0, none⟩ 1 1 vs Tryz.underlying37 hinfo (by rw [hvl]; simp only [Nat.min_def]; split <;> omega)
   (fun j v hj => by rw [Addr.add_lit, bV.cell]; simpa using hj)
   (fun j hj => bN.isSome (by omega)) (fun j hj => bN.frozen _) h1v
  rw [this]
  congr 2
  simp only [Nat.min_def]; split <;> omega
 obtain ⟨W2, hW2⟩ : ∃ W2, W2 = W1.setCells g (i * 7) vs := ⟨_, rfl⟩
 rw [← hW2] at hcp1 bx1 g1
 clear hW2
 have bB2 : Box W2 b 78 cur := Box.grown bB g1 (by simpa using hbg)
 have hsz1 : cu1.size = ROW.size := by rw [← Array.length_toList, e1]; simp [hvl]; omega
 have hcp2 : ∀ ty dc sc, (Builtin.copy_ #[37, 37] ty #[.slice (some ⟨g, (i + 1) * 7, none⟩) (n - i) dc, .slice (some ⟨b, i * 7, none⟩) (n - i) sc]).run Tryz.prog W2.drew = .ok (goInt (n - i)) (W2.drew.setCells g ((i + 1) * 7) (xs.drop (i * 7))) := fun ty dc sc => by
  have := run_copy_s (P := Tryz.prog) W2.drew 37 37 ty 78 7 g ((i + 1) * 7) (n - i) dc ⟨b, i * 7, none⟩ (n - i) sc (xs.drop (i * 7)) Tryz.underlying37 hinfo (by rw [hdl]; simp only [Nat.min_def]; split <;> omega)
   (fun j v hj => by rw [Addr.add_lit, Box.cell (w := W2.drew) bB2]; exact hcur _ v (by rw [List.getElem?_drop] at hj; simpa using hj))
   (fun j hj => Box.isSome (w := W2.drew) bx1 (by rw [hdl] at hj; omega)) (fun j hj => Box.frozen (w := W2.drew) bx1 _) (fun v hv => h1 v (List.mem_of_mem_drop hv))
  rw [this]
  congr 2
  simp only [Nat.min_def]; split <;> omega
 obtain ⟨cu2, bx2, e2⟩ := box_setCells (xs.drop (i * 7)) ((i + 1) * 7) W2.drew cu1 bx1 (by rw [hdl, hsz1, hRs]; omega)
 have g2 := grown_setCells g (xs.drop (i * 7)) ((i + 1) * 7) W2.drew
 obtain ⟨W3, hW3⟩ : ∃ W3, W3 = W2.drew.setCells g ((i + 1) * 7) (xs.drop (i * 7)) := ⟨_, rfl⟩
 rw [← hW3] at hcp2 bx2 g2
 clear hW3
 have hfin := set_new_first (L := ROW.toList) (xs := xs.take (i * 7)) (ys := xs.drop (i * 7)) (vs := vs) (a := i * 7) (s := 7) (r := ((n - i) * 7)) (L1 := cu1.toList) (L2 := cu2.toList)
  hRt hvl hdl (by simp [hRs]; omega) (by rw [List.length_take, hl]; omega) e1 (by have := e2; rwa [show (i + 1) * 7 = i * 7 + 7 by omega] at this)
 have hret : InsIs base 78 7 n (xs.take (i * 7) ++ vs ++ xs.drop (i * 7)) (some b) w (.returned (.slice (some ⟨g, 0, none⟩) (n + 1) G)) W3 :=
  ⟨_, G, rfl, ⟨by simp [hl, hvl]; omega, .inr ⟨g, G, cu2, rfl, by omega, bx2, hGn, hGm, by rw [← Array.length_toList, hfin.2]; simpa using hRs, by rw [← hfin.1]; congr 1; omega⟩⟩,
   grown_more hg0 (grown_more (a := W1) (r := some g) g1 (b := W2) ⟨g2.os, g2.tape, g2.output, g2.size, g2.block⟩ (.inl rfl)) (.inr fun k hk => by injection hk with hk; omega), .inr (by rw [← hg]; rfl)⟩
 have HRET := h! hret
 clear hret hfin bx2 g2 e2 e1 bx1 g1 hsz1 bB bB2 bV bN hcur hRt hRs hg0 hs1 hdl hl hG hg
 have hz3 : ¬ ((i : Int) = (n : Int)) := by omega
 have hw1 : IntKind.i64.wrap ((i : Int) + 1) = (i : Int) + 1 := by rw [IntKind.wrap_i64]; omega
 have htn : ((i : Int) + 1).toNat = i + 1 := by omega
 have hb2 : ¬ (G = i + 1) := by omega
 have hb4 : ¬ (G = i) := by omega
 have hb6 : ¬ (n = i) := by omega
 have hin : i ≤ n := by omega
 have hb1 : (0 : Int) ≤ (i : Int) + 1 := by omega
 have hb3 : (i : Int) ≤ (n : Int) + 1 := by omega
 have hb5 : (i : Int) < (n : Int) := by omega
 have hb7 : (i : Int) ≤ (n : Int) := by omega
 have mixed : Tryz.prog.follows Departure.mixedOrders = true := by kernel_rfl
 unfold maxLen at hGm
 go_enter Tryz.func137, Tryz.ntmps137
 go_wp2_with (first
  | (at_builtin; refine Lib.wpList_append_run _ rfl _ _ _ _ rfl _ _ rfl rfl _ _ (hrz _) ?_)
  | (at_builtin; refine wpList_copy_go _ rfl _ _ 37 37 rfl _ _ rfl rfl (hcp1 _ _) ?_))
 go_region_law_o (refine step_copy_go rfl _ _ 37 37 rfl _ _ (by simp [Act.eval, Act.put]) (by simp [Act.eval, Act.put]) (hcp2 _ _ _) ?_)
 go_wp2_with fail
 go_ret
 exact HRET.out
theorem insW_any (base n c i vb : Nat) (A : Option Addr) (xs vs : List Value) (w : World) (hi : i ≤ n) (hn : n ≤ 2000) (hbase : base ≤ w.heap.size) (ho : w.ownsRow base 78 7 (.slice A n c) n xs)
  (hv : Box w vb 78 vs.toArray) (hvl : vs.length = 7) (hvb : Value.ownBlock (.slice A n c) ≠ some vb) (h1 : ∀ u ∈ xs, u.oneCell' = true) (h1v : ∀ u ∈ vs, u.oneCell' = true) :
  Calls Tryz.prog 137 #[.slice A n c, .int .i64 i, .slice (some ⟨vb, 0, none⟩) 1 1] w (InsIs base 78 7 n (xs.take (i * 7) ++ vs ++ xs.drop (i * 7)) (Value.ownBlock (.slice A n c)) w) := by
 have hl := ho.1
 have hform := own_form ho
 obtain ⟨_, _, e, hnc, hcm⟩ := hform
 injection e with e1 e2 e3
 subst e3
 by_cases hin : i = n
 ·subst hin
  rw [List.take_of_length_le (by omega), List.drop_eq_nil_of_le (by omega), List.append_nil]
  exact insW_end base i c vb A xs vs w hn hnc hcm hbase ho hv hvl h1v
 ·have hlt : i < n := by omega
  rcases ho.2 with ⟨_, h0⟩ | ⟨g, cap, cur, hs, hb, hx, hnc', hcm', hsz, htk⟩
  ·omega
  ·injection hs with e1 e2 e3
   subst e1
   subst e3
   by_cases hroom : n + 1 ≤ c
   ·exact insW_shift base g n c i vb xs vs cur w hlt hn hroom hcm hb hx hsz htk hl hv hvl (by intro h; apply hvb; rw [h]; rfl) h1 h1v
   ·obtain rfl : n = c := by omega
    exact insW_grow base g n i vb xs vs cur w hlt hn hbase hx htk hl hv hvl h1 h1v
end Go.Proofs.YteebeiaokfenmaaGreat.KP

namespace Go.Proofs.YteebeiaokfenmaaGreat.KP
open Go.RowKit CP TP
open CM (Mg Cm)
open TM (Sp)
open KM (Wt Sk)
set_option linter.unusedVariables false
set_option linter.unusedSimpArgs false
set_option maxRecDepth 100000
open Go.Shelf
theorem below_grow (w : World) (os : Array Obj) : Below w.heap.size w (Sort.grow w os) :=
 ⟨rfl, rfl, rfl, by simp [Sort.grow], fun k hk => by simp [Sort.grow, Array.getElem?_append_left hk]⟩
theorem psort_any (base g n cap : Nat) (zs : List Int) (w : World) (h : w.ownsRow base 3 1 (.slice (some ⟨g, 0, none⟩) n cap) n (ic zs)) (hn : n ≤ 2000) (hB : base ≤ w.heap.size) :
  Calls Tryz.prog 149 #[.slice (some ⟨g, 0, none⟩) n cap] w fun e w' => e = .returned (.tuple #[]) ∧ w'.ownsRow base 3 1 (.slice (some ⟨g, 0, none⟩) n cap) n (ic (zs.mergeSort fun x y => decide (x ≤ y))) ∧ Below base w w' := by
 obtain ⟨g', cap', e, hbg, hgl, hnc, hcm, hlen, hH⟩ := Lib.holds_of_ownsRow (enc := Value.int .i64) (zs := zs) h (by intro e; cases e)
 injection e with e1 _ e3
 injection e1 with e1
 injection e1 with e1
 subst e1 e3
 have hc := Any.slices_Sort_int laySort g 0 cap zs w hH hgl (by omega)
 rw [hlen] at hc
 refine hc.mono ?_
 rintro e w' ⟨rfl, q, os, rfl⟩
 have h1 := Lib.ownsRow_putRow (q := q) (k := n) (ys := zs.mergeSort fun x y => decide (x ≤ y)) h (by rw [List.length_mergeSort]; exact hlen) n!
 rw [List.take_of_length_le (by rw [List.length_mergeSort]; omega)] at h1
 refine ⟨rfl, own_below3 h1 (below_grow _ _), ?_⟩
 have h2 : Below base w (Sort.putRow (Value.int .i64) (Sort.ahead w q) g 0 (zs.mergeSort fun x y => decide (x ≤ y)).toArray) := Lib.below_putRow (Below.refl _ _) hbg
 exact h2.trans ((below_grow _ os).mono (Nat.le_trans hB h2.size))
theorem pcompact_any (base g n cap : Nat) (zs : List Int) (w : World) (h : w.ownsRow base 3 1 (.slice (some ⟨g, 0, none⟩) n cap) n (ic zs)) (hn : n ≤ 2000) :
  Calls Tryz.prog 150 #[.slice (some ⟨g, 0, none⟩) n cap] w fun e w' => e = .returned (.slice (some ⟨g, 0, none⟩) (Lib.compact zs).length cap) ∧ Below base w w' := by
 obtain ⟨g', cap', e, hbg, hgl, hnc, hcm, hlen, hH⟩ := Lib.holds_of_ownsRow (enc := Value.int .i64) (zs := zs) h (by intro e; cases e)
 injection e with e1 _ e3
 injection e1 with e1
 injection e1 with e1
 subst e1 e3
 have hc := Any.slices_Compact_int layCompact g 0 cap zs w hH (by omega) (by omega)
 rw [hlen] at hc
 refine hc.mono ?_
 rintro e w' ⟨rfl, q, rfl⟩
 exact ⟨rfl, Lib.below_putRow (Below.refl _ _) hbg⟩
theorem ids_ws {s : Sk} {k : Nat} {x : Wt} (h : s.ws[k]? = some x) : (KM.ids s).take (k + 1) = (KM.ids s).take k ++ [x.m.id] := by
 have hk := (List.getElem?_eq_some_iff.1 h).1
 rw [List.take_add_one]
 congr 1
 unfold KM.ids
 rw [List.getElem?_append_left (by rw [List.length_map]; exact hk), List.getElem?_map, h]
 rfl
theorem ids_ds {s : Sk} {k : Nat} {x : Sp} (h : s.ds[k]? = some x) : (KM.ids s).take (s.ws.length + k + 1) = (KM.ids s).take (s.ws.length + k) ++ [x.i] := by
 rw [List.take_add_one]
 congr 1
 unfold KM.ids
 rw [List.getElem?_append_right (by rw [List.length_map]; omega), List.length_map, Nat.add_sub_cancel_left, List.getElem?_map, h]
 rfl
theorem ids_len (s : Sk) : (KM.ids s).length = s.ws.length + s.ds.length := by unfold KM.ids; rw [List.length_append, List.length_map, List.length_map]
set_option maxHeartbeats 16000000 in
theorem isTwice_any (v : Value) (s : Sk) (w : World) (h : SkIs w v s) (hf1 : s.ws.length ≤ 200) (hf2 : s.ds.length ≤ 200) : Calls Tryz.prog 131 #[v] w (IsB (decide (¬ (KM.ids s).Nodup)) w) := by
 obtain ⟨i0, hi, hz0, hz1, hz2⟩ := info_parts info_int15
 obtain ⟨A, ca, B, cb, rfl, r1, d1⟩ := h
 obtain ⟨b, hb⟩ : ∃ b, b = decide (¬ (KM.ids s).Nodup) := ⟨_, rfl⟩
 have HRB := h! (show decide ((Lib.compact ((KM.ids s).mergeSort fun x y => decide (x ≤ y))).length < (KM.ids s).length) = b by rw [hb]; exact decide_eq_decide.2 (KM.twice_iff _))
 rw [← hb]
 clear hb
 have HI1 := h! (fun k x => ids_ws (s := s) (k := k) (x := x))
 have HI2 := h! (fun k x => ids_ds (s := s) (k := k) (x := x))
 have HIL := h! (ids_len s)
 obtain ⟨L, hL⟩ : ∃ L, L = KM.ids s := ⟨_, rfl⟩
 rw [← hL] at HRB HI1 HI2 HIL
 clear hL
 obtain ⟨sc, ws, ds⟩ := s
 simp only at r1 d1 HI1 HI2 HIL hf1 hf2
 obtain ⟨n, hna⟩ : ∃ n, n = ws.length := ⟨_, rfl⟩
 obtain ⟨m, hmb⟩ : ∃ m, m = ds.length := ⟨_, rfl⟩
 unfold vsk
 simp only
 rw [← hna] at r1 HI2 HIL hf1 ⊢
 rw [← hmb] at d1 HIL hf2 ⊢
 have HLA := h! hna
 have HLB := h! hmb
 have H := h! (fun W (hb : Below w.heap.size w W) => r1.below hb)
 have HD := h! (fun W (hb : Below w.heap.size w W) => d1.below hb)
 clear hna hmb r1 d1
 have HB := h! (show Below w.heap.size w (w.alloc (.cells #[.int .i64 sc, .slice A n ca, .slice B m cb] 39)) from (Below.refl _ _).alloc n! _)
 have X := h! (Box.new w 39 #[.int .i64 sc, .slice A n ca, .slice B m cb])
 go_enter Tryz.func131, Tryz.ntmps131
 go_upto_region 1 with (fail)
 generalize w.alloc (.cells #[.int .i64 sc, .slice A n ca, .slice B m cb] 39) = w1 at HB X ⊢
 generalize w.heap.size = g0 at X ⊢
 obtain ⟨base, hbase⟩ : ∃ base, base = w1.heap.size := ⟨_, rfl⟩
 have HBS := h! hbase
 clear hbase
 go_upto_region 2 with (at_make; refine wpList_make_own _ rfl _ _ 31 rfl base 3 i0 _ 1 Tryz.underlying31 hi hz0 hz1 .i64 .i64 _ 400 rfl rfl rfl (by rw [hz2]; omega) (by unfold maxLen; omega) (by have := HBS.out; omega) ?_; intro w2 hown2 hg2; have HB2 := h! (show Below base w1 w2 by have h1 := below_of_grown hg2 (by simp); have h2 := HBS.out; rw [h2]; exact h1); have HO2 := h! hown2; clear hown2 hg2)
 obtain ⟨x0, x1, x2⟩ := box_sk (X.out.below (B := base) HB2.out (by have := HBS.out; have := X.out.lt; omega))
 go_wp2_with fail
 clear x0 x1 x2
 generalize w1.heap.size = q0 at HO2 ⊢
 go_loopw [3, 12] (fun u i wr => ∃ (k g cap : Nat), k ≤ n ∧ i = .int .i64 k ∧ u = .slice (some ⟨g, 0, none⟩) k cap ∧ Hid (Below base w1 wr) ∧ Hid (wr.ownsRow base 3 1 (.slice (some ⟨g, 0, none⟩) k cap) k (ic (L.take k)))) (fun _ i _ => n - (intOf i).toNat)
 case atStart => exact ⟨0, q0, 400, by omega, rfl, rfl, HB2, by simpa [ic] using HO2⟩
 case round =>
  clear HO2 HB2
  obtain ⟨k, g, cap, hk, rfl, rfl, HW, HO⟩ := hrel
  have HWB := h! (show Below w.heap.size w wr from bmore HB.out (by have := HBS.out; rw [← this]; exact HW.out) n!)
  have HXW := h! (X.out.below (B := base) HW.out (by have := HBS.out; have := X.out.lt; omega))
  have HSZ := h! (show base ≤ wr.heap.size by have h1 := HW.out.size; have h2 := HBS.out; omega)
  by_cases hlt : k < n
  ·obtain ⟨x, hx⟩ : ∃ x, ws[k]? = some x := ⟨_, List.getElem?_eq_getElem (by have := HLA.out; omega)⟩
   have HT := h! (HI1.out k x hx)
   obtain ⟨bl, o, Q, q, rfl, _, hbl, hat, _⟩ := wts_at (H.out _ HWB.out) hx
   obtain ⟨a0, a1, a2, a3, a4, a5, a6⟩ := hat
   obtain ⟨x0, x1, x2⟩ := box_sk HXW.out
   have hk0 : (0 : Int) ≤ (k : Int) := by omega
   have hkn : (k : Int) < (n : Int) := by omega
   clear hx hbl
   obtain ⟨⟨yi, yg, yt, yk, yb⟩, ym, yf⟩ := x
   simp only at a0 a1 a2 a3 a4 a5 a6 HT
   go_upto_region 5 with (fail)
   have bb0 : Below wr.heap.size wr (wr.alloc (.cells #[.int .i64 yi, .slice Q yg.length q, .int .i64 yt, .string yk, .string yb, .int .i64 ym, .bool yf] 78)) := b!
   have HBB := h! (HW.out.trans (bb0.mono HSZ.out))
   have HY0 := h! (Box.new wr 78 #[.int .i64 yi, .slice Q yg.length q, .int .i64 yt, .string yk, .string yb, .int .i64 ym, .bool yf])
   have HO3 := h! (own_below3 HO.out bb0)
   have HZ3 := h! (Nat.le_trans HSZ.out bb0.size)
   clear bb0 a0 a1 a2 a3 a4 a5 a6 x0 x1 x2
   generalize wr.alloc (.cells #[.int .i64 yi, .slice Q yg.length q, .int .i64 yt, .string yk, .string yb, .int .i64 ym, .bool yf] 78) = w3 at HBB HY0 HO3 HZ3 ⊢
   generalize wr.heap.size = g4 at HY0 ⊢
   obtain ⟨a0, a1, a2, a3, a4, a5, a6⟩ := box_wt HY0.out
   have HO4 := h! (own_below3 HO3.out (show Below w3.heap.size w3 (w3.alloc (.cells #[.int .i64 yi] 3)) from (Below.refl _ _).alloc n! _))
   have HR4 := h! (rdG_box (s := 1) (n := 1) (Box.new w3 3 #[.int .i64 yi]) rfl rfl)
   have HB4 := h! (HBB.out.trans (show Below base w3 (w3.alloc (.cells #[.int .i64 yi] 3)) from (Below.refl _ _).alloc HZ3.out _))
   have HZ4 := h! (show base ≤ (w3.alloc (.cells #[.int .i64 yi] 3)).heap.size by have := HZ3.out; simp; omega)
   have hk200 : k ≤ 400 := by omega
   go_upto_region 6 with (at_builtin; refine wpList_append_g _ rfl _ _ 31 rfl base 3 i0 _ 1 8 Tryz.underlying31 hi hz0 hz1 hz2 rfl (by omega) (.slice (some ⟨g, 0, none⟩) (k) cap) _ _ rfl HO4.out (some ⟨w3.heap.size, 0, none⟩) 1 1 [.int .i64 yi] rfl HR4.out (by intro u hu; simp at hu; subst hu; rfl) (by unfold maxLen; omega) (by omega) HZ4.out ?_; intro v2 w6 hown hgr hob; obtain ⟨A7, c7, rfl, _, _⟩ := own_form hown; obtain ⟨q7, hA7, _, _⟩ := own_some hown (by omega); subst hA7; have HB6 := h! (below_row HB4.out HO4.out HZ4.out hgr); have HO6 := h! hown; clear hown hgr hob)
   clear HO4 HR4 HB4 HZ4 HO3 HBB
   go_wp2_with fail
   go_roundw
   case rel => exact ⟨k + 1, q7, c7, by omega, by go_num, rfl, HB6, h! (by rw [HT.out, ic_append]; exact HO6.out)⟩
   case measure => simp [intOf]; omega
  ·have hkn : k = n := by omega
   subst hkn
   obtain ⟨x0, x1, x2⟩ := box_sk HXW.out
   go_wp2_with fail
   clear x0 x1 x2
   go_loopw [3, 26] (fun u i wr => ∃ (j g cap : Nat), j ≤ m ∧ i = .int .i64 j ∧ u = .slice (some ⟨g, 0, none⟩) (k + j) cap ∧ Hid (Below base w1 wr) ∧ Hid (wr.ownsRow base 3 1 (.slice (some ⟨g, 0, none⟩) (k + j) cap) (k + j) (ic (L.take (k + j))))) (fun _ i _ => m - (intOf i).toNat)
   case atStart => exact ⟨0, g, cap, by omega, rfl, rfl, HW, HO⟩
   case round =>
    clear HO HW HWB HXW HSZ
    obtain ⟨j, g, cap, hj, rfl, rfl, HW, HO⟩ := hrel
    have HWB := h! (show Below w.heap.size w wr from bmore HB.out (by have := HBS.out; rw [← this]; exact HW.out) n!)
    have HXW := h! (X.out.below (B := base) HW.out (by have := HBS.out; have := X.out.lt; omega))
    have HSZ := h! (show base ≤ wr.heap.size by have h1 := HW.out.size; have h2 := HBS.out; omega)
    by_cases hlt2 : j < m
    ·obtain ⟨x, hx⟩ : ∃ x, ds[j]? = some x := ⟨_, List.getElem?_eq_getElem (by have := HLB.out; omega)⟩
     have HT := h! (HI2.out j x hx)
     obtain ⟨bl, o, rfl, _, hbl, a0, a1⟩ := (HD.out _ HWB.out).at_ hx
     obtain ⟨x0, x1, x2⟩ := box_sk HXW.out
     have hk0 : (0 : Int) ≤ (j : Int) := by omega
     have hkn : (j : Int) < (m : Int) := by omega
     clear hx hbl
     obtain ⟨xt, xi⟩ := x
     simp only at a0 a1 HT
     go_upto_region 10 with (fail)
     have bb0 : Below wr.heap.size wr (wr.alloc (.cells #[.int .i64 xt, .int .i64 xi] 46)) := b!
     have HBB := h! (HW.out.trans (bb0.mono HSZ.out))
     have HY0 := h! (Box.new wr 46 #[.int .i64 xt, .int .i64 xi])
     have HO3 := h! (own_below3 HO.out bb0)
     have HZ3 := h! (Nat.le_trans HSZ.out bb0.size)
     clear bb0 a0 a1 x0 x1 x2
     generalize wr.alloc (.cells #[.int .i64 xt, .int .i64 xi] 46) = w3 at HBB HY0 HO3 HZ3 ⊢
     generalize wr.heap.size = g4 at HY0 ⊢
     obtain ⟨a0, a1⟩ := box_two HY0.out
     have HO4 := h! (own_below3 HO3.out (show Below w3.heap.size w3 (w3.alloc (.cells #[.int .i64 xi] 3)) from (Below.refl _ _).alloc n! _))
     have HR4 := h! (rdG_box (s := 1) (n := 1) (Box.new w3 3 #[.int .i64 xi]) rfl rfl)
     have HB4 := h! (HBB.out.trans (show Below base w3 (w3.alloc (.cells #[.int .i64 xi] 3)) from (Below.refl _ _).alloc HZ3.out _))
     have HZ4 := h! (show base ≤ (w3.alloc (.cells #[.int .i64 xi] 3)).heap.size by have := HZ3.out; simp; omega)
     have hk200 : k + j ≤ 400 := by omega
     go_upto_region 11 with (at_builtin; refine wpList_append_g _ rfl _ _ 31 rfl base 3 i0 _ 1 8 Tryz.underlying31 hi hz0 hz1 hz2 rfl (by omega) (.slice (some ⟨g, 0, none⟩) (k + j) cap) _ _ rfl HO4.out (some ⟨w3.heap.size, 0, none⟩) 1 1 [.int .i64 xi] rfl HR4.out (by intro u hu; simp at hu; subst hu; rfl) (by unfold maxLen; omega) (by omega) HZ4.out ?_; intro v2 w6 hown hgr hob; obtain ⟨A7, c7, rfl, _, _⟩ := own_form hown; obtain ⟨q7, hA7, _, _⟩ := own_some hown (by omega); subst hA7; have HB6 := h! (below_row HB4.out HO4.out HZ4.out hgr); have HO6 := h! hown; clear hown hgr hob)
     clear HO4 HR4 HB4 HZ4 HO3 HBB
     go_wp2_with fail
     go_roundw
     case rel => exact ⟨j + 1, q7, c7, by omega, by go_num, rfl, HB6, h! (by have e := HT.out; have h6 := HO6.out; have e2 : ic (L.take (k + j)) ++ [.int .i64 xi] = ic (L.take (k + j) ++ [xi]) := (by rw [ic_append]; rfl); rw [e2, ← e] at h6; exact h6)⟩
     case measure => simp [intOf]; omega
    ·have hjm : j = m := by omega
     subst hjm
     have HALL := h! (show L.take (k + j) = L from List.take_of_length_le (by have := HIL.out; omega))
     rw [HALL.out] at HO
     have CS := h! (psort_any base g (k + j) cap L wr HO.out (by omega) HSZ.out)
     have CC := h! (fun W hO => pcompact_any base g (k + j) cap (L.mergeSort fun x y => decide (x ≤ y)) W hO (by omega))
     have hLL : L.length = k + j := HIL.out
     have HR := HRB.out
     rw [hLL] at HR
     obtain ⟨z, hz⟩ : ∃ z, z = (Lib.compact (L.mergeSort fun x y => decide (x ≤ y))).length := ⟨_, rfl⟩
     have HZ := h! (show z ≤ k + j by rw [hz, ← hLL, ← List.length_mergeSort (le := fun x y => decide (x ≤ y)) L]; exact Lib.compact_length_le _)
     rw [← hz] at HR CC
     have hRI : decide ((z : Int) < IntKind.i64.wrap ((k : Int) + (j : Int))) = b := by
      have hw : IntKind.i64.wrap ((k : Int) + (j : Int)) = (k : Int) + (j : Int) := by rw [IntKind.wrap_i64]; omega
      rw [hw, ← HR]; exact decide_eq_decide.2 (by omega)
     have HRI := h! hRI
     clear hz hLL hRI HR
     go_wp2_with fail
     refine (CS.out).mono ?_
     rintro e w4 ⟨rfl, ho4, hb4⟩
     have HO4 := h! ho4
     have HB4 := h! (HW.out.trans hb4)
     clear ho4 hb4 CS
     have CC1 := CC
     have HX4 := h! (X.out.below (B := base) HB4.out (by have := HBS.out; have := X.out.lt; omega))
     obtain ⟨x0, x1, x2⟩ := box_sk HX4.out
     clear CC HO
     have hzk := HZ.out
     go_upto_region 13 with (fail)
     have HX5 := h! (fun (w' : World) (h : Below base w4 w') => show w'.cell? ⟨g0, 0, none⟩ = some (.int .i64 sc) ∧ w'.cell? ⟨g0, 1, none⟩ = some (.slice A k ca) ∧ w'.cell? ⟨g0, 2, none⟩ = some (.slice B j cb) from box_sk (HX4.out.below (B := base) h (by have := HBS.out; have := X.out.lt; omega)))
     have HSS := h! (fun (w' : World) (h : Below base w4 w') => HX5.out w' h)
     have bb1 : Below base w4 w4.drew ∧ Below w4.heap.size w4 w4.drew := ⟨(Below.refl _ _).drew, (Below.refl _ _).drew⟩
     replace CC1 := h! (fun W (hb : Below w4.heap.size w4 W) => CC1.out W (own_below3 HO4.out hb))
     obtain ⟨ud, hud⟩ : ∃ ud, ud = w4.drew := ⟨_, rfl⟩
     refine wp_region_held_drew (S := fun w' => w'.cell? ⟨g0, 0, none⟩ = some (.int .i64 sc) ∧ w'.cell? ⟨g0, 1, none⟩ = some (.slice A k ca) ∧ w'.cell? ⟨g0, 2, none⟩ = some (.slice B j cb)) (by kernel_rfl) (HSS.out _ bb1.1) (fun hHeld => ?_)
     rw [← hud] at bb1 hHeld ⊢
     clear hud
     refine qT 0 ?_; try simp only [Act.put, qq]
     refine qT 3 ?_; try simp only [Act.put, qq]
     refine qT 4 ?_; try simp only [Act.put, qq]
     refine qT 5 ?_; try simp only [Act.put, qq]
     refine qT 6 ?_; try simp only [Act.put, qq]
     refine qT 7 ?_; try simp only [Act.put, qq]
     refine qT 8 ?_; try simp only [Act.put, qq]
     refine qT 9 ?_; try simp only [Act.put, qq]
     refine qR 1 fun K hK => ?_
     go_simp
     refine (CC1.out ud bb1.2).mono ?_
     rintro e w5 ⟨rfl, hb5⟩
     have bb2 := bb1.1.trans hb5
     clear hb5
     refine hK.out _ _ (HSS.out _ bb2) (fun hHeld => ?_)
     clear hK
     try simp only [Act.put, qq]
     refine qT 2 ?_; try simp only [Act.put, qq]
     refine qT 10 ?_; try simp only [Act.put, qq]
     refine qT 11 ?_; try simp only [Act.put, qq]
     refine wpAnyH_done (by kernel_rfl) ?_ _
     clear hHeld HSS
     clear CC1 x0 x1 x2
     go_wp2_with fail
     go_ret
     exact ⟨by rw [← HRI.out]; rfl, bmore HB.out (by have h1 := HBS.out; have h2 := HB4.out.trans bb2; rw [h1] at h2; exact h2) n!⟩
end Go.Proofs.YteebeiaokfenmaaGreat.KP

namespace Go.Proofs.YteebeiaokfenmaaGreat.KP
open Go.RowKit CP TP
open Go.Maps (Keyed IsMap Tidy int_keyed keyOf_int_mk)
open CM (Mg Cm)
open TM (Sp)
open KM (Wt Sk)
set_option linter.unusedVariables false
set_option linter.unusedSimpArgs false
set_option maxRecDepth 100000
def plD (l : List Int) : DataW Unit := l.zipIdx.foldl (fun D p => D.put (.int .i64 p.1) (.lit (.int .i64 (p.2 : Nat)))) (.map [])
theorem plD_snoc (l : List Int) (x : Int) : plD (l ++ [x]) = (plD l).put (.int .i64 x) (.lit (.int .i64 (l.length : Nat))) := by
 unfold plD
 rw [List.zipIdx_append, List.foldl_append]
 simp
theorem plD_map : ∀ r : List Int, IsMap (plD r.reverse)
 | [] => Maps.isMap_empty
 | x :: r => by rw [List.reverse_cons, plD_snoc]; exact (plD_map r).put _ _
theorem key_int (x : Int) : WideAt.IsKeyLit (.int .i64 x) := by unfold WideAt.IsKeyLit; trivial
theorem plD_has_rev (x : Int) : ∀ r : List Int, Maps.has (plD r.reverse) (.int .i64 x) = decide (x ∈ r)
 | [] => by simp [plD, Maps.has]
 | y :: r => by
  rw [List.reverse_cons, plD_snoc]
  by_cases h : x = y
  ·subst h
   rw [Maps.has_put_same (plD_map r) (key_int _)]
   simp
  ·rw [Maps.has_put_other (fun e => h (by injection e)), plD_has_rev x r]
   simp [h]
theorem plD_has (l : List Int) (x : Int) : Maps.has (plD l) (.int .i64 x) = decide (x ∈ l) := by
 have := plD_has_rev x l.reverse
 rw [List.reverse_reverse] at this
 rw [this]
 simp
theorem plD_at_rev (x : Int) (z : DataW Unit) : ∀ (r : List Int), r.Nodup → ∀ k, r.reverse[k]? = some x → (plD r.reverse).atKey (.int .i64 x) z = .lit (.int .i64 (k : Nat))
 | [], _, k, h => by simp at h
 | y :: r, hn, k, h => by
  rw [List.nodup_cons] at hn
  rw [List.reverse_cons] at h ⊢
  rw [plD_snoc]
  by_cases hk : k < r.reverse.length
  ·rw [List.getElem?_append_left hk] at h
   have hm : x ∈ r := List.mem_reverse.1 (List.mem_of_getElem? h)
   rw [Maps.atKey_put_other (fun e => hn.1 (by injection e with _ e; rw [← e]; exact hm))]
   exact plD_at_rev x z r hn.2 k h
  ·have hkl := (List.getElem?_eq_some_iff.1 h).1
   rw [List.length_append, List.length_singleton] at hkl
   obtain rfl : k = r.reverse.length := by omega
   rw [List.getElem?_append_right n!] at h
   simp at h
   subst h
   exact Maps.atKey_put_same (by have := plD_map r; exact this) (key_int _) _ _
theorem plD_at {l : List Int} (hn : l.Nodup) {k : Nat} {x : Int} (h : l[k]? = some x) (z : DataW Unit) : (plD l).atKey (.int .i64 x) z = .lit (.int .i64 (k : Nat)) := by
 have := plD_at_rev x z l.reverse ((List.Perm.nodup_iff (List.reverse_perm l)).2 hn) k (by rwa [List.reverse_reverse])
 rwa [List.reverse_reverse] at this
def MpIs (w : World) (v : Value) (l : List Int) : Prop := ∃ b, v = .map (some b) ∧ w.ownsMap Tryz.prog 3 (plainElem Tryz.prog 3) b l.length (plD l)
theorem ownsMap_below {w w' : World} {b n : Nat} {D : DataW Unit} (h : w.ownsMap Tryz.prog 3 (plainElem Tryz.prog 3) b n D) (hb : Below w.heap.size w w') : w'.ownsMap Tryz.prog 3 (plainElem Tryz.prog 3) b n D := by
 have hl := h.lt
 obtain ⟨es, clock, h1, h2⟩ := h
 exact ⟨es, clock, (hb.block b hl).trans h1, h2⟩
theorem MpIs.below {w w' : World} {v : Value} {l : List Int} (h : MpIs w v l) (hb : Below w.heap.size w w') : MpIs w' v l := by
 obtain ⟨b, e, h1⟩ := h
 exact ⟨b, e, ownsMap_below h1 hb⟩
theorem lawI : Keyed Tryz.prog 3 := int_keyed Tryz.underlying3
theorem zeroI (w : World) : (zeroValue 3).run Tryz.prog w = .ok (.int .i64 0) w := by kernel_rfl
theorem wfI {x : Int} (h : i64In x) : (Lit.int .i64 x).wf = true := WalkArith.wf_i64 h
theorem makeMap_n (n : Int) (w : World) : (Instr.makeMap 72 (some (.int .i64 n))).run Tryz.prog w = .ok (.map (some w.heap.size)) (w.alloc (.map #[] 0)) := by
 simp [Instr.makeMap, run_underlying Tryz.underlying72, asInt, Result.andThen]
 try rfl
structure PlI (w : World) (b : Nat) (l : List Int) (k : Nat) (wr : World) : Prop where
 bl : Below w.heap.size w wr
 bb : w.heap.size ≤ b
 ow : wr.ownsMap Tryz.prog 3 (plainElem Tryz.prog 3) b k (plD (l.take k))
theorem PlI.below {w wr w' : World} {b k : Nat} {l : List Int} (h : PlI w b l k wr) (hb : Below wr.heap.size wr w') : PlI w b l k w' := ⟨bmore h.bl hb n!, h.bb, ownsMap_below h.ow hb⟩
theorem PlI.next {w wr w' : World} {b k : Nat} {l : List Int} {x : Int} (h : PlI w b l k wr) (hx : l[k]? = some x) (h1 : w'.ownsMap Tryz.prog 3 (plainElem Tryz.prog 3) b (k + 1) ((plD (l.take k)).put (.int .i64 x) (.lit (.int .i64 (k : Nat))))) (hg : wr.grownBy w' (some b)) : PlI w b l (k + 1) w' := by
 refine ⟨h.bl.grown hg h.bl.size (fun j hj => by injection hj with hj; rw [← hj]; exact h.bb), h.bb, ?_⟩
 have hk := (List.getElem?_eq_some_iff.1 hx).1
 rw [List.take_add_one, hx]
 show w'.ownsMap _ _ _ _ _ (plD (l.take k ++ [x]))
 rw [plD_snoc, List.length_take, Nat.min_eq_left (by omega)]
 exact h1
end Go.Proofs.YteebeiaokfenmaaGreat.KP
