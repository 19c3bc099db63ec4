/-
  What slices.Delete of one that waits makes of a row of the call's own. Conditions: the row is not long.
  What package command's front answers, shape 0. Conditions: the slice reads as bytes.
  What package command's front answers, shape 1. Conditions: the slice reads as bytes.
  What package command's front answers, shape 2. Conditions: the slice reads as bytes.
-/
import Derived.Test.YteebeiaokfenmaaGreatK01
import Derived.Test.YteebeiaokfenmaaGreatK10
import Derived.Deep.RegionLaw
import Derived.Deep.QuietTactic
import Derived.BigQuiet
import Derived.Test.YteebeiaokfenmaaGreatK19
import Derived.Deep.DeepCutAuto
namespace Go.Proofs.YteebeiaokfenmaaGreat.KP
open Go.RowKit CP TP
open CM (Mg Cm)
open TM (Sp)
open KM (Wt Sk)
set_option linter.unusedVariables false
set_option linter.unusedSimpArgs false
set_option maxRecDepth 100000
open Go.Lib Go.Shelf
theorem run_clear_s {P : Program} (w : World) (t e ty : TypeId) (z : Value) (s : Nat) (ht : P.underlying t = some (.slice e)) (hv : ∀ w, (zeroValue e).run P w = .ok z w) (hz : z.cells.size = s) (hs : 0 < s) (h1 : ∀ v ∈ z.cells, v.oneCell' = true) (b o n c : Nat) (hn : 0 < n)
  (hc : ∀ j, j < n * s → (w.cell? ⟨b, o + j, none⟩).isSome = true) (hf : ∀ j, j < n * s → w.frozen? ⟨b, o + j, none⟩ = false) :
  ∃ zs : List Value, zs.length = n * s ∧ (Builtin.clear_ #[t] ty #[.slice (some ⟨b, o, none⟩) n c]).run P w = .ok (.tuple #[]) (w.setCells b o zs) := by
 have hl : (Builtin.zeroCells z.cells n).toList.length = n * s := by simp [Builtin.zeroCells, hz]
 have hone : ∀ v ∈ (Builtin.zeroCells z.cells n).toList, v.oneCell' = true := by
  intro v hv'
  simp only [Builtin.zeroCells, Array.toList_map, List.mem_map] at hv'
  obtain ⟨i, _, rfl⟩ := hv'
  have hlt : i % z.cells.size < z.cells.size := Nat.mod_lt _ (by omega)
  rw [getElem!_pos z.cells _ hlt]
  exact h1 _ (Array.getElem_mem hlt)
 have hst := run_storeCells_cells (P := P) b o (Builtin.zeroCells z.cells n).toList 0 w (by rw [hl]; simpa using hc) (by rw [hl]; simpa using hf) hone
 simp only [Nat.add_zero] at hst
 obtain ⟨m, rfl⟩ : ∃ m, n = m + 1 := ⟨n - 1, by omega⟩
 refine ⟨_, hl, ?_⟩
 simp [Builtin.clear_, run_underlying ht, hv, hst]
def RowQ (base m : Nat) (xs : List Value) (ob : Option Nat) (w : World) (x : Ending) (w' : World) : Prop :=
 ∃ A c, x = .returned (.slice A m c) ∧ w'.ownsRow base 78 7 (.slice A m c) m xs ∧ w.grownBy w' ob
theorem zero_wait (w : World) : (zeroValue 78).run Tryz.prog w = .ok (.agg #[.int .i64 0, .slice none 0 0, .int .i64 0, .string ⟨#[]⟩, .string ⟨#[]⟩, .int .i64 0, .bool false]) w := by
 obtain ⟨i0, hi, hz0, hz1, hz2⟩ := info_parts info_wt
 simp [zeroValue, typeInfo, hi, hz0]
set_option maxHeartbeats 4000000 in
theorem delW_any (base b n c i : Nat) (xs : List Value) (cur : Array Value) (w : World) (hi : i < n) (hn : n ≤ 2000) (hnc : n ≤ c) (hcm : c ≤ maxLen)
  (hbase : base ≤ b) (hx : Box w b 78 cur) (hsz : cur.size = c * 7) (htk : cur.toList.take (n * 7) = xs) (hl : xs.length = n * 7) (h1 : ∀ u ∈ xs, u.oneCell' = true) :
  Calls Tryz.prog 139 #[.slice (some ⟨b, 0, none⟩) n c, .int .i64 i, .int .i64 ((i : Int) + 1)] w (RowQ base (n - 1) (xs.take (i * 7) ++ xs.drop ((i + 1) * 7)) (some b) w) := by
 obtain ⟨i0, hi0, hz0, hz1, hz2⟩ := info_parts info_wt
 unfold maxLen at hcm
 have hxc : ∀ j v, xs[j]? = some v → w.cell? ⟨b, j, none⟩ = some v := by
  intro j v hj
  have hjl := (List.getElem?_eq_some_iff.1 hj).1
  rw [hx.cell j, ← Array.getElem?_toList, ← hj, ← htk, List.getElem?_take, if_pos (by omega)]
 obtain ⟨news, hnews⟩ : ∃ news, news = xs.drop ((i + 1) * 7) := ⟨_, rfl⟩
 have hdl : news.length = (n - (i + 1)) * 7 := by rw [hnews, List.length_drop, hl]; omega
 obtain ⟨A, hA, hsrc⟩ : ∃ A : Addr, (if c = i + 1 then (some ⟨b, 0, none⟩ : Option Addr) else some ⟨b, (i + 1) * 7, none⟩) = some A ∧ Hid (∀ t u, news[t]? = some u → w.drew.cell? (A.add t) = some u) := by
  by_cases h : c = i + 1
  ·refine ⟨⟨b, 0, none⟩, by simp [h], fun t u hu => ?_⟩
   have h0 : news.length = 0 := by rw [hdl]; have : n - (i + 1) = 0 := (by omega); rw [this]
   rw [List.length_eq_zero_iff.1 h0] at hu
   simp at hu
  ·refine ⟨⟨b, (i + 1) * 7, none⟩, by simp [h], fun t u hu => ?_⟩
   rw [Addr.add_lit]
   exact hxc _ u (by rw [hnews, List.getElem?_drop] at hu; simpa using hu)
 have s1 := h! hdl
 have s2 := h! (show ∀ u ∈ news, u.oneCell' = true from fun u hu => h1 u (List.mem_of_mem_drop (by rw [hnews] at hu; exact hu)))
 have s3 := h! (show ∀ t, t < news.length → (w.drew.cell? ⟨b, 0 + i * 7 + t, none⟩).isSome = true ∧ w.drew.frozen? ⟨b, 0 + i * 7 + t, none⟩ = false from fun t ht =>
  ⟨Box.isSome (w := w.drew) hx (by rw [hdl] at ht; omega), Box.frozen (w := w.drew) hx _⟩)
 obtain ⟨cu1, bx1, e1⟩ := box_setCells news (0 + i * 7) w.drew cur hx (by rw [hdl, hsz]; omega)
 have g1 := grown_setCells b news (0 + i * 7) w.drew
 obtain ⟨W1, hW1⟩ : ∃ W1, W1 = w.drew.setCells b (0 + i * 7) news := ⟨_, rfl⟩
 have HW := h! hW1
 rw [← hW1] at bx1 g1
 clear hW1
 have hsz1 : cu1.size = cur.size := by rw [← Array.length_toList, e1]; simp [hdl]; omega
 have hm : i + (n - (i + 1)) = n - 1 := by omega
 obtain ⟨zs, hzl, hclr⟩ := run_clear_s (P := Tryz.prog) W1 37 78 37 _ 7 Tryz.underlying37 zero_wait rfl (by omega) (by decide) b ((n - 1) * 7) (n - (n - 1)) (c - (n - 1)) (by omega)
  (fun j hj => bx1.isSome (by rw [hsz1, hsz]; omega)) (fun j hj => bx1.frozen _)
 have hcl : ∀ ty, (Builtin.clear_ #[37] ty #[.slice (some ⟨b, (n - 1) * 7, none⟩) (n - (n - 1)) (c - (n - 1))]).run Tryz.prog W1 = .ok (.tuple #[]) (W1.setCells b ((n - 1) * 7) zs) := fun ty => hclr
 obtain ⟨cu2, bx2, e2⟩ := box_setCells zs ((n - 1) * 7) W1 cu1 bx1 (by rw [hzl, hsz1, hsz]; omega)
 have g2 := grown_setCells b zs ((n - 1) * 7) W1
 have hfin : cu2.toList.take ((n - 1) * 7) = xs.take (i * 7) ++ news ∧ cu2.size = c * 7 := by
  have hc1 : cu1.toList.length = c * 7 := by rw [Array.length_toList, hsz1, hsz]
  have hc0 : cur.toList.length = c * 7 := by rw [Array.length_toList, hsz]
  constructor
  ·rw [e2, List.append_assoc, List.take_append_of_le_length (by rw [List.length_take, hc1]; omega), List.take_take, Nat.min_eq_left (by omega), e1, List.take_append_of_le_length (by simp [hc0, hdl]; omega),
    List.take_of_length_le (by simp [hc0, hdl]; omega), ← htk, List.take_take, Nat.min_eq_left (by omega), Nat.zero_add]
  ·rw [← Array.length_toList, e2]; simp [hc1, hzl]; omega
 have hret : RowQ base (n - 1) (xs.take (i * 7) ++ news) (some b) w (.returned (.slice (some ⟨b, 0, none⟩) (n - 1) c)) (W1.setCells b ((n - 1) * 7) zs) := by
  exact ⟨some ⟨b, 0, none⟩, c, rfl, ⟨by simp [hl, hdl]; omega, .inr ⟨b, c, cu2, rfl, hbase, bx2, by omega, by unfold maxLen; omega, hfin.2, hfin.1⟩⟩, grown_more (a := w) ⟨g1.os, g1.tape, g1.output, g1.size, g1.block⟩ g2 (.inl rfl)⟩
 have HRET := h! hret
 rw [← hnews]
 have hic : i ≤ c := by omega
 have hin : i ≤ n := by omega
 have hjc : i + 1 ≤ c := by omega
 have hjn : i + 1 ≤ n := by omega
 have htn : ((i : Int) + 1).toNat = i + 1 := by omega
 have hne : ¬ ((i : Int) = (i : Int) + 1) := by omega
 have hne2 : ((i : Int) == (i : Int) + 1) = false := by simp; omega
 have k1 : (0 : Int) ≤ (i : Int) + 1 := by omega
 have k2 : (i : Int) ≤ (i : Int) + 1 := by omega
 have k3 : (i : Int) + 1 ≤ (n : Int) := by omega
 have k4 : (i : Int) + 1 ≤ (c : Int) := by omega
 have k5 : (n : Int) ≤ (c : Int) := by omega
 have mixed : Tryz.prog.follows Departure.mixedOrders = true := by kernel_rfl
 clear hret hfin bx2 g2 e2 e1 bx1 g1 hsz1 hx hsz htk hxc hdl hnews hclr hzl hl h1
 go_enter Tryz.func139, Tryz.ntmps139
 go_wp2_with fail
 go_region_law_o (refine step_append_room rfl (.tmp 22) (.tmp 25) 37 rfl 78 i0 7 Tryz.underlying37 hi0 hz1 b 0 i c (by simp [Act.eval, Act.put]) A (n - (i + 1)) (c - (i + 1)) news (by simp [Act.eval, Act.put]) s1.out hsrc.out s2.out (by omega) s3.out ?_; rw [← HW.out])
 go_wp2_with fail
 go_ret
 exact HRET.out
end Go.Proofs.YteebeiaokfenmaaGreat.KP

namespace Go.Proofs.YteebeiaokfenmaaGreat.CP
open Go.RowKit
open CM (Mg Cm)
set_option linter.unusedVariables false
set_option linter.unusedSimpArgs false
set_option maxRecDepth 100000
set_option maxHeartbeats 4000000 in
theorem front_0 (A : Option Addr) (n c : Nat) (l : List UInt8) (w : World) (hr : Rd w A n (bc l)) (h1 : n ≤ c) (h2 : c ≤ maxLen) (i : Bool) (hf : Fl (RM.fk l : Nat) false false false false false i) (hk : ¬ RM.fk l = 1 ∧ ¬ RM.fk l = 2 ∧ ¬ RM.fk l = 3 ∧ ¬ RM.fk l = 4 ∧ ¬ (RM.fk l = 5 ∨ RM.fk l = 6)) :
  Calls Tryz.prog 100 #[.slice A n c] w (FrontPost w l) := by
 have CF := h! (fun w => fields_any hf w)
 have S := h! (f0_new hr h1 h2)
 have hm := h! (show ((RM.gt l).1 : Int) % 256 = (RM.fk l : Int) by unfold RM.fk; omega)
 have HE := h! (show fr l = (⟨(RM.fk l : Nat), CM.mz, 0, 0, [], 0, 0, 0⟩ : Cm) by unfold fr frB; rw [if_neg hk.1, if_neg hk.2.1, if_neg hk.2.2.1, if_neg hk.2.2.2.1, if_neg hk.2.2.2.2]; try rfl)
 clear hf hr hk
 go_enter Tryz.func100, Tryz.ntmps100
 go_upto_region 5 with (fail)
 generalize ((w.alloc (.cells #[.slice A n c] 120)).alloc (.cells #[.int .u8 0, .int .i64 0, .slice none 0 0, .int .i64 0, .string ⟨#[]⟩, .string ⟨#[]⟩, .int .i64 0, .int .i64 0, .slice none 0 0, .int .i64 0, .int .i64 0, .int .i64 0] 91)).alloc (.cells #[.int .u8 0, .int .i64 0, .slice none 0 0, .int .i64 0, .string ⟨#[]⟩, .string ⟨#[]⟩, .int .i64 0, .int .i64 0, .slice none 0 0, .int .i64 0, .int .i64 0, .int .i64 0] 91) = w1 at S ⊢
 generalize w.heap.size = g at S ⊢
 go_wp2_with fail
 refine (number_any g l w1 S.out.1).mono ?_
 rintro e w2 ⟨rfl, hn, hk⟩
 replace S := h! (S.out.num hn hk)
 clear hn hk
 have c0 := S.out.2.1.cell 0
 have f0 := S.out.2.1.frozen 0
 simp at c0
 go_upto_region 6 with (fail)
 clear c0 f0
 simp only [hm.out]
 replace S := h! (show F0 w _ g (RM.f1 l) #[.int .u8 (RM.fk l), .int .i64 0, .slice none 0 0, .int .i64 0, .string ⟨#[]⟩, .string ⟨#[]⟩, .int .i64 0, .int .i64 0, .slice none 0 0, .int .i64 0, .int .i64 0, .int .i64 0] from S.out.put 0 (.int .u8 (RM.fk l)))
 generalize w2.setCell ⟨g + 1 + 1, 0, none⟩ (.int .u8 (RM.fk l)) = w1 at S ⊢
 have c0 := S.out.2.1.cell 0
 simp at c0
 go_wp2_with fail
 refine (CF.out _).mono ?_
 rintro e w3 ⟨rfl, hb3⟩
 have S := h! (fr_at S.out hb3 false false false false false)
 clear hb3 CF c0
 go_upto_region 7 with (fail)
 generalize w3.alloc (.cells #[.bool false, .bool false, .bool false, .bool false, .bool false] 126) = w1 at S ⊢
 generalize w3.heap.size = f at S ⊢
 obtain ⟨y0, y1, y2, y3, y4⟩ := box_mg S.out.2.1
 obtain ⟨c0, c1, c2, c3, c4, c5, c6, c7, c8, c9, c10, c11⟩ := box_cm S.out.1.2.1
 obtain ⟨d0, d1, d2, d3, d4, d5, d6, d7, d8, d9, d10, d11⟩ := box_cm S.out.1.2.2.1
 have g0 := S.out.1.2.2.1.frozen 0
 have g1 := S.out.1.2.2.1.frozen 1
 have g2 := S.out.1.2.2.1.frozen 2
 have g3 := S.out.1.2.2.1.frozen 3
 have g4 := S.out.1.2.2.1.frozen 4
 have g5 := S.out.1.2.2.1.frozen 5
 have g6 := S.out.1.2.2.1.frozen 6
 have g7 := S.out.1.2.2.1.frozen 7
 have g8 := S.out.1.2.2.1.frozen 8
 have g9 := S.out.1.2.2.1.frozen 9
 have g10 := S.out.1.2.2.1.frozen 10
 have g11 := S.out.1.2.2.1.frozen 11
 have HG := h! S.out.1.2.2.2.1
 have HB := h! S.out.1.2.2.2.2
 have HRow := h! S.out.2.2.2
 clear S
 go_wp2_with fail
 refine bodyPost_ret (v := .agg #[.int .u8 (RM.fk l), .int .i64 0, .slice none 0 0, .int .i64 0, .string ⟨#[]⟩, .string ⟨#[]⟩, .int .i64 0, .int .i64 0, .slice none 0 0, .int .i64 0, .int .i64 0, .int .i64 0]) (by simp [results, Tryz.results100, go_sem, d0, d1, d2, d3, d4, d5, d6, d7, d8, d9, d10, d11]; try rfl) rfl ?_
 unfold FrontPost
 rw [HE.out]
 have hrow := HRow.out.put12 (show g + 1 < g + 1 + 1 + 1 by omega) (.int .u8 (RM.fk l)) (.int .i64 0) (.slice none 0 0) (.int .i64 0) (.string ⟨#[]⟩) (.string ⟨#[]⟩) (.int .i64 0) (.int .i64 0) (.slice none 0 0) (.int .i64 0) (.int .i64 0) (.int .i64 0)
 refine ⟨_, rfl, ⟨none, 0, none, 0, ?_, RowGe.none _ _, RowGe.none _ _⟩, put12_below HB.out (by rw [← HG.out]; omega) (.int .u8 (RM.fk l)) (.int .i64 0) (.slice none 0 0) (.int .i64 0) (.string ⟨#[]⟩) (.string ⟨#[]⟩) (.int .i64 0) (.int .i64 0) (.slice none 0 0) (.int .i64 0) (.int .i64 0) (.int .i64 0)⟩
 try simp only [ccells, CM.mz, zsl, List.length_nil]
 try rfl
end Go.Proofs.YteebeiaokfenmaaGreat.CP

namespace Go.Proofs.YteebeiaokfenmaaGreat.CP
open Go.RowKit
open CM (Mg Cm)
set_option linter.unusedVariables false
set_option linter.unusedSimpArgs false
set_option maxRecDepth 100000
set_option maxHeartbeats 4000000 in
theorem front_1 (A : Option Addr) (n c : Nat) (l : List UInt8) (w : World) (hr : Rd w A n (bc l)) (h1 : n ≤ c) (h2 : c ≤ maxLen) (i : Bool) (hf : Fl (RM.fk l : Nat) true false false false false i) (hk : RM.fk l = 1) :
  Calls Tryz.prog 100 #[.slice A n c] w (FrontPost w l) := by
 have CF := h! (fun w => fields_any hf w)
 have S := h! (f0_new hr h1 h2)
 have hm := h! (show ((RM.gt l).1 : Int) % 256 = (RM.fk l : Int) by unfold RM.fk; omega)
 have HE := h! (show fr l = (⟨1, ⟨(RM.gt (RM.f1 l)).1, (CM.zs (gl 4 (RM.gt (RM.f1 l)).2).1), ((RM.gt (gl 4 (RM.gt (RM.f1 l)).2).2).1 : Nat), ⟨((gx (RM.gt (gl 4 (RM.gt (RM.f1 l)).2).2).2).1).toArray⟩, ⟨((gx (gx (RM.gt (gl 4 (RM.gt (RM.f1 l)).2).2).2).2).1).toArray⟩⟩, 0, 0, [], 0, 0, 0⟩ : Cm) by unfold fr frB; rw [if_pos hk]; try rfl)
 have HK := h! hk
 clear hf hr hk
 go_enter Tryz.func100, Tryz.ntmps100
 go_upto_region 5 with (fail)
 generalize ((w.alloc (.cells #[.slice A n c] 120)).alloc (.cells #[.int .u8 0, .int .i64 0, .slice none 0 0, .int .i64 0, .string ⟨#[]⟩, .string ⟨#[]⟩, .int .i64 0, .int .i64 0, .slice none 0 0, .int .i64 0, .int .i64 0, .int .i64 0] 91)).alloc (.cells #[.int .u8 0, .int .i64 0, .slice none 0 0, .int .i64 0, .string ⟨#[]⟩, .string ⟨#[]⟩, .int .i64 0, .int .i64 0, .slice none 0 0, .int .i64 0, .int .i64 0, .int .i64 0] 91) = w1 at S ⊢
 generalize w.heap.size = g at S ⊢
 go_wp2_with fail
 refine (number_any g l w1 S.out.1).mono ?_
 rintro e w2 ⟨rfl, hn, hk⟩
 replace S := h! (S.out.num hn hk)
 clear hn hk
 have c0 := S.out.2.1.cell 0
 have f0 := S.out.2.1.frozen 0
 simp at c0
 go_upto_region 6 with (fail)
 clear c0 f0
 simp only [hm.out]
 replace S := h! (show F0 w _ g (RM.f1 l) #[.int .u8 (RM.fk l), .int .i64 0, .slice none 0 0, .int .i64 0, .string ⟨#[]⟩, .string ⟨#[]⟩, .int .i64 0, .int .i64 0, .slice none 0 0, .int .i64 0, .int .i64 0, .int .i64 0] from S.out.put 0 (.int .u8 (RM.fk l)))
 generalize w2.setCell ⟨g + 1 + 1, 0, none⟩ (.int .u8 (RM.fk l)) = w1 at S ⊢
 have c0 := S.out.2.1.cell 0
 simp at c0
 go_wp2_with fail
 refine (CF.out _).mono ?_
 rintro e w3 ⟨rfl, hb3⟩
 have S := h! (fr_at S.out hb3 true false false false false)
 clear hb3 CF c0
 go_upto_region 7 with (fail)
 generalize w3.alloc (.cells #[.bool true, .bool false, .bool false, .bool false, .bool false] 126) = w1 at S ⊢
 generalize w3.heap.size = f at S ⊢
 obtain ⟨y0, y1, y2, y3, y4⟩ := box_mg S.out.2.1
 go_wp2_with fail
 clear y0 y1 y2 y3 y4
 refine (number_any g _ _ S.out.1.1).mono ?_
 rintro e w2 ⟨rfl, hn, hk⟩
 replace S := h! (S.out.num hn hk)
 clear hn hk
 have c1 := S.out.1.2.1.cell 1
 have f1 := S.out.1.2.1.frozen 1
 simp at c1
 go_upto_region 9 with (fail)
 clear c1 f1
 replace S := h! (show Fr w _ g f (RM.gt (RM.f1 l)).2 #[.int .u8 (RM.fk l), .int .i64 (RM.gt (RM.f1 l)).1, .slice none 0 0, .int .i64 0, .string ⟨#[]⟩, .string ⟨#[]⟩, .int .i64 0, .int .i64 0, .slice none 0 0, .int .i64 0, .int .i64 0, .int .i64 0] true false false false false none 0 [] from (S.out).put 1 (.int .i64 (RM.gt (RM.f1 l)).1))
 generalize World.setCell _ ⟨g + 1 + 1, 1, none⟩ _ = wz at S ⊢
 obtain ⟨y0, y1, y2, y3, y4⟩ := box_mg S.out.2.1
 go_wp2_with fail
 clear y0 y1 y2 y3 y4
 refine (list_any g 4 _ _ S.out.1.1 (by omega)).mono ?_
 rintro e w2 ⟨B, d, rfl, hrow, hn, hk⟩
 replace S := h! (S.out.lst hn hk hrow)
 clear hn hk hrow
 have c2 := S.out.1.2.1.cell 2
 have f2 := S.out.1.2.1.frozen 2
 simp at c2
 go_upto_region 10 with (fail)
 clear c2 f2
 replace S := h! (show Fr w _ g f (gl 4 (RM.gt (RM.f1 l)).2).2 #[.int .u8 (RM.fk l), .int .i64 (RM.gt (RM.f1 l)).1, .slice B (gl 4 (RM.gt (RM.f1 l)).2).1.length d, .int .i64 0, .string ⟨#[]⟩, .string ⟨#[]⟩, .int .i64 0, .int .i64 0, .slice none 0 0, .int .i64 0, .int .i64 0, .int .i64 0] true false false false false B d (CM.zs (gl 4 (RM.gt (RM.f1 l)).2).1) from (S.out).put 2 (.slice B (gl 4 (RM.gt (RM.f1 l)).2).1.length d))
 generalize World.setCell _ ⟨g + 1 + 1, 2, none⟩ _ = wz at S ⊢
 obtain ⟨y0, y1, y2, y3, y4⟩ := box_mg S.out.2.1
 go_wp2_with fail
 clear y0 y1 y2 y3 y4
 refine (number_any g _ _ S.out.1.1).mono ?_
 rintro e w2 ⟨rfl, hn, hk⟩
 replace S := h! (S.out.num hn hk)
 clear hn hk
 have c3 := S.out.1.2.1.cell 3
 have f3 := S.out.1.2.1.frozen 3
 simp at c3
 go_upto_region 11 with (fail)
 clear c3 f3
 replace S := h! (show Fr w _ g f (RM.gt (gl 4 (RM.gt (RM.f1 l)).2).2).2 #[.int .u8 (RM.fk l), .int .i64 (RM.gt (RM.f1 l)).1, .slice B (gl 4 (RM.gt (RM.f1 l)).2).1.length d, .int .i64 (RM.gt (gl 4 (RM.gt (RM.f1 l)).2).2).1, .string ⟨#[]⟩, .string ⟨#[]⟩, .int .i64 0, .int .i64 0, .slice none 0 0, .int .i64 0, .int .i64 0, .int .i64 0] true false false false false B d (CM.zs (gl 4 (RM.gt (RM.f1 l)).2).1) from (S.out).put 3 (.int .i64 (RM.gt (gl 4 (RM.gt (RM.f1 l)).2).2).1))
 generalize World.setCell _ ⟨g + 1 + 1, 3, none⟩ _ = wz at S ⊢
 obtain ⟨y0, y1, y2, y3, y4⟩ := box_mg S.out.2.1
 go_wp2_with fail
 clear y0 y1 y2 y3 y4
 refine (text_any g _ _ S.out.1.1).mono ?_
 rintro e w2 ⟨rfl, hn, hk⟩
 replace S := h! (S.out.num hn hk)
 clear hn hk
 have c4 := S.out.1.2.1.cell 4
 have f4 := S.out.1.2.1.frozen 4
 simp at c4
 go_upto_region 12 with (fail)
 clear c4 f4
 replace S := h! (show Fr w _ g f (gx (RM.gt (gl 4 (RM.gt (RM.f1 l)).2).2).2).2 #[.int .u8 (RM.fk l), .int .i64 (RM.gt (RM.f1 l)).1, .slice B (gl 4 (RM.gt (RM.f1 l)).2).1.length d, .int .i64 (RM.gt (gl 4 (RM.gt (RM.f1 l)).2).2).1, .string ⟨(gx (RM.gt (gl 4 (RM.gt (RM.f1 l)).2).2).2).1.toArray⟩, .string ⟨#[]⟩, .int .i64 0, .int .i64 0, .slice none 0 0, .int .i64 0, .int .i64 0, .int .i64 0] true false false false false B d (CM.zs (gl 4 (RM.gt (RM.f1 l)).2).1) from (S.out).put 4 (.string ⟨(gx (RM.gt (gl 4 (RM.gt (RM.f1 l)).2).2).2).1.toArray⟩))
 generalize World.setCell _ ⟨g + 1 + 1, 4, none⟩ _ = wz at S ⊢
 obtain ⟨y0, y1, y2, y3, y4⟩ := box_mg S.out.2.1
 go_wp2_with fail
 clear y0 y1 y2 y3 y4
 refine (text_any g _ _ S.out.1.1).mono ?_
 rintro e w2 ⟨rfl, hn, hk⟩
 replace S := h! (S.out.num hn hk)
 clear hn hk
 have c5 := S.out.1.2.1.cell 5
 have f5 := S.out.1.2.1.frozen 5
 simp at c5
 go_upto_region 13 with (fail)
 clear c5 f5
 replace S := h! (show Fr w _ g f (gx (gx (RM.gt (gl 4 (RM.gt (RM.f1 l)).2).2).2).2).2 #[.int .u8 (RM.fk l), .int .i64 (RM.gt (RM.f1 l)).1, .slice B (gl 4 (RM.gt (RM.f1 l)).2).1.length d, .int .i64 (RM.gt (gl 4 (RM.gt (RM.f1 l)).2).2).1, .string ⟨(gx (RM.gt (gl 4 (RM.gt (RM.f1 l)).2).2).2).1.toArray⟩, .string ⟨(gx (gx (RM.gt (gl 4 (RM.gt (RM.f1 l)).2).2).2).2).1.toArray⟩, .int .i64 0, .int .i64 0, .slice none 0 0, .int .i64 0, .int .i64 0, .int .i64 0] true false false false false B d (CM.zs (gl 4 (RM.gt (RM.f1 l)).2).1) from (S.out).put 5 (.string ⟨(gx (gx (RM.gt (gl 4 (RM.gt (RM.f1 l)).2).2).2).2).1.toArray⟩))
 generalize World.setCell _ ⟨g + 1 + 1, 5, none⟩ _ = wz at S ⊢
 obtain ⟨y0, y1, y2, y3, y4⟩ := box_mg S.out.2.1
 obtain ⟨c0, c1, c2, c3, c4, c5, c6, c7, c8, c9, c10, c11⟩ := box_cm S.out.1.2.1
 obtain ⟨d0, d1, d2, d3, d4, d5, d6, d7, d8, d9, d10, d11⟩ := box_cm S.out.1.2.2.1
 have g0 := S.out.1.2.2.1.frozen 0
 have g1 := S.out.1.2.2.1.frozen 1
 have g2 := S.out.1.2.2.1.frozen 2
 have g3 := S.out.1.2.2.1.frozen 3
 have g4 := S.out.1.2.2.1.frozen 4
 have g5 := S.out.1.2.2.1.frozen 5
 have g6 := S.out.1.2.2.1.frozen 6
 have g7 := S.out.1.2.2.1.frozen 7
 have g8 := S.out.1.2.2.1.frozen 8
 have g9 := S.out.1.2.2.1.frozen 9
 have g10 := S.out.1.2.2.1.frozen 10
 have g11 := S.out.1.2.2.1.frozen 11
 have HG := h! S.out.1.2.2.2.1
 have HB := h! S.out.1.2.2.2.2
 have HRow := h! S.out.2.2.2
 clear S
 go_wp2_with fail
 refine bodyPost_ret (v := .agg #[.int .u8 (RM.fk l), .int .i64 (RM.gt (RM.f1 l)).1, .slice B (gl 4 (RM.gt (RM.f1 l)).2).1.length d, .int .i64 (RM.gt (gl 4 (RM.gt (RM.f1 l)).2).2).1, .string ⟨(gx (RM.gt (gl 4 (RM.gt (RM.f1 l)).2).2).2).1.toArray⟩, .string ⟨(gx (gx (RM.gt (gl 4 (RM.gt (RM.f1 l)).2).2).2).2).1.toArray⟩, .int .i64 0, .int .i64 0, .slice none 0 0, .int .i64 0, .int .i64 0, .int .i64 0]) (by simp [results, Tryz.results100, go_sem, d0, d1, d2, d3, d4, d5, d6, d7, d8, d9, d10, d11]; try rfl) rfl ?_
 unfold FrontPost
 rw [HE.out]
 have hrow := HRow.out.put12 (show g + 1 < g + 1 + 1 + 1 by omega) (.int .u8 (RM.fk l)) (.int .i64 (RM.gt (RM.f1 l)).1) (.slice B (gl 4 (RM.gt (RM.f1 l)).2).1.length d) (.int .i64 (RM.gt (gl 4 (RM.gt (RM.f1 l)).2).2).1) (.string ⟨(gx (RM.gt (gl 4 (RM.gt (RM.f1 l)).2).2).2).1.toArray⟩) (.string ⟨(gx (gx (RM.gt (gl 4 (RM.gt (RM.f1 l)).2).2).2).2).1.toArray⟩) (.int .i64 0) (.int .i64 0) (.slice none 0 0) (.int .i64 0) (.int .i64 0) (.int .i64 0)
 refine ⟨_, rfl, ⟨B, d, none, 0, ?_, hrow.mono (by rw [← HG.out]; omega), RowGe.none _ _⟩, put12_below HB.out (by rw [← HG.out]; omega) (.int .u8 (RM.fk l)) (.int .i64 (RM.gt (RM.f1 l)).1) (.slice B (gl 4 (RM.gt (RM.f1 l)).2).1.length d) (.int .i64 (RM.gt (gl 4 (RM.gt (RM.f1 l)).2).2).1) (.string ⟨(gx (RM.gt (gl 4 (RM.gt (RM.f1 l)).2).2).2).1.toArray⟩) (.string ⟨(gx (gx (RM.gt (gl 4 (RM.gt (RM.f1 l)).2).2).2).2).1.toArray⟩) (.int .i64 0) (.int .i64 0) (.slice none 0 0) (.int .i64 0) (.int .i64 0) (.int .i64 0)⟩
 rw [HK.out]; try simp only [ccells, CM.mz, zsl, List.length_nil]
 try rfl
end Go.Proofs.YteebeiaokfenmaaGreat.CP

namespace Go.Proofs.YteebeiaokfenmaaGreat.CP
open Go.RowKit
open CM (Mg Cm)
set_option linter.unusedVariables false
set_option linter.unusedSimpArgs false
set_option maxRecDepth 100000
set_option maxHeartbeats 4000000 in
theorem front_2 (A : Option Addr) (n c : Nat) (l : List UInt8) (w : World) (hr : Rd w A n (bc l)) (h1 : n ≤ c) (h2 : c ≤ maxLen) (i : Bool) (hf : Fl (RM.fk l : Nat) false true false false false i) (hk : RM.fk l = 2) :
  Calls Tryz.prog 100 #[.slice A n c] w (FrontPost w l) := by
 have CF := h! (fun w => fields_any hf w)
 have S := h! (f0_new hr h1 h2)
 have hm := h! (show ((RM.gt l).1 : Int) % 256 = (RM.fk l : Int) by unfold RM.fk; omega)
 have HE := h! (show fr l = (⟨2, CM.mz, ((RM.gt (RM.f1 l)).1 : Nat), ((RM.gt (RM.gt (RM.f1 l)).2).1 : Nat), [], 0, 0, 0⟩ : Cm) by unfold fr frB; rw [if_neg (by omega), if_pos hk]; try rfl)
 have HK := h! hk
 clear hf hr hk
 go_enter Tryz.func100, Tryz.ntmps100
 go_upto_region 5 with (fail)
 generalize ((w.alloc (.cells #[.slice A n c] 120)).alloc (.cells #[.int .u8 0, .int .i64 0, .slice none 0 0, .int .i64 0, .string ⟨#[]⟩, .string ⟨#[]⟩, .int .i64 0, .int .i64 0, .slice none 0 0, .int .i64 0, .int .i64 0, .int .i64 0] 91)).alloc (.cells #[.int .u8 0, .int .i64 0, .slice none 0 0, .int .i64 0, .string ⟨#[]⟩, .string ⟨#[]⟩, .int .i64 0, .int .i64 0, .slice none 0 0, .int .i64 0, .int .i64 0, .int .i64 0] 91) = w1 at S ⊢
 generalize w.heap.size = g at S ⊢
 go_wp2_with fail
 refine (number_any g l w1 S.out.1).mono ?_
 rintro e w2 ⟨rfl, hn, hk⟩
 replace S := h! (S.out.num hn hk)
 clear hn hk
 have c0 := S.out.2.1.cell 0
 have f0 := S.out.2.1.frozen 0
 simp at c0
 go_upto_region 6 with (fail)
 clear c0 f0
 simp only [hm.out]
 replace S := h! (show F0 w _ g (RM.f1 l) #[.int .u8 (RM.fk l), .int .i64 0, .slice none 0 0, .int .i64 0, .string ⟨#[]⟩, .string ⟨#[]⟩, .int .i64 0, .int .i64 0, .slice none 0 0, .int .i64 0, .int .i64 0, .int .i64 0] from S.out.put 0 (.int .u8 (RM.fk l)))
 generalize w2.setCell ⟨g + 1 + 1, 0, none⟩ (.int .u8 (RM.fk l)) = w1 at S ⊢
 have c0 := S.out.2.1.cell 0
 simp at c0
 go_wp2_with fail
 refine (CF.out _).mono ?_
 rintro e w3 ⟨rfl, hb3⟩
 have S := h! (fr_at S.out hb3 false true false false false)
 clear hb3 CF c0
 go_upto_region 7 with (fail)
 generalize w3.alloc (.cells #[.bool false, .bool true, .bool false, .bool false, .bool false] 126) = w1 at S ⊢
 generalize w3.heap.size = f at S ⊢
 obtain ⟨y0, y1, y2, y3, y4⟩ := box_mg S.out.2.1
 go_wp2_with fail
 clear y0 y1 y2 y3 y4
 refine (number_any g _ _ S.out.1.1).mono ?_
 rintro e w2 ⟨rfl, hn, hk⟩
 replace S := h! (S.out.num hn hk)
 clear hn hk
 go_wp2_with fail
 refine (number_any g _ _ S.out.1.1).mono ?_
 rintro e w2 ⟨rfl, hn, hk⟩
 replace S := h! (S.out.num hn hk)
 clear hn hk
 have c6 := S.out.1.2.1.cell 6
 have f6 := S.out.1.2.1.frozen 6
 simp at c6
 have c7 := S.out.1.2.1.cell 7
 have f7 := S.out.1.2.1.frozen 7
 simp at c7
 go_upto_region 15 with (fail)
 clear c6 f6 c7 f7
 replace S := h! (show Fr w _ g f (RM.gt (RM.gt (RM.f1 l)).2).2 #[.int .u8 (RM.fk l), .int .i64 0, .slice none 0 0, .int .i64 0, .string ⟨#[]⟩, .string ⟨#[]⟩, .int .i64 (RM.gt (RM.f1 l)).1, .int .i64 (RM.gt (RM.gt (RM.f1 l)).2).1, .slice none 0 0, .int .i64 0, .int .i64 0, .int .i64 0] false true false false false none 0 [] from ((S.out).put 6 (.int .i64 (RM.gt (RM.f1 l)).1)).put 7 (.int .i64 (RM.gt (RM.gt (RM.f1 l)).2).1))
 generalize World.setCell _ ⟨g + 1 + 1, 7, none⟩ _ = wz at S ⊢
 obtain ⟨y0, y1, y2, y3, y4⟩ := box_mg S.out.2.1
 obtain ⟨c0, c1, c2, c3, c4, c5, c6, c7, c8, c9, c10, c11⟩ := box_cm S.out.1.2.1
 obtain ⟨d0, d1, d2, d3, d4, d5, d6, d7, d8, d9, d10, d11⟩ := box_cm S.out.1.2.2.1
 have g0 := S.out.1.2.2.1.frozen 0
 have g1 := S.out.1.2.2.1.frozen 1
 have g2 := S.out.1.2.2.1.frozen 2
 have g3 := S.out.1.2.2.1.frozen 3
 have g4 := S.out.1.2.2.1.frozen 4
 have g5 := S.out.1.2.2.1.frozen 5
 have g6 := S.out.1.2.2.1.frozen 6
 have g7 := S.out.1.2.2.1.frozen 7
 have g8 := S.out.1.2.2.1.frozen 8
 have g9 := S.out.1.2.2.1.frozen 9
 have g10 := S.out.1.2.2.1.frozen 10
 have g11 := S.out.1.2.2.1.frozen 11
 have HG := h! S.out.1.2.2.2.1
 have HB := h! S.out.1.2.2.2.2
 have HRow := h! S.out.2.2.2
 clear S
 go_wp2_with fail
 refine bodyPost_ret (v := .agg #[.int .u8 (RM.fk l), .int .i64 0, .slice none 0 0, .int .i64 0, .string ⟨#[]⟩, .string ⟨#[]⟩, .int .i64 (RM.gt (RM.f1 l)).1, .int .i64 (RM.gt (RM.gt (RM.f1 l)).2).1, .slice none 0 0, .int .i64 0, .int .i64 0, .int .i64 0]) (by simp [results, Tryz.results100, go_sem, d0, d1, d2, d3, d4, d5, d6, d7, d8, d9, d10, d11]; try rfl) rfl ?_
 unfold FrontPost
 rw [HE.out]
 have hrow := HRow.out.put12 (show g + 1 < g + 1 + 1 + 1 by omega) (.int .u8 (RM.fk l)) (.int .i64 0) (.slice none 0 0) (.int .i64 0) (.string ⟨#[]⟩) (.string ⟨#[]⟩) (.int .i64 (RM.gt (RM.f1 l)).1) (.int .i64 (RM.gt (RM.gt (RM.f1 l)).2).1) (.slice none 0 0) (.int .i64 0) (.int .i64 0) (.int .i64 0)
 refine ⟨_, rfl, ⟨none, 0, none, 0, ?_, RowGe.none _ _, RowGe.none _ _⟩, put12_below HB.out (by rw [← HG.out]; omega) (.int .u8 (RM.fk l)) (.int .i64 0) (.slice none 0 0) (.int .i64 0) (.string ⟨#[]⟩) (.string ⟨#[]⟩) (.int .i64 (RM.gt (RM.f1 l)).1) (.int .i64 (RM.gt (RM.gt (RM.f1 l)).2).1) (.slice none 0 0) (.int .i64 0) (.int .i64 0) (.int .i64 0)⟩
 rw [HK.out]; try simp only [ccells, CM.mz, zsl, List.length_nil]
 try rfl
end Go.Proofs.YteebeiaokfenmaaGreat.CP
