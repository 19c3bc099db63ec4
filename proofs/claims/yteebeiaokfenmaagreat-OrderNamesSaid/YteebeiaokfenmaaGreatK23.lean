/-
  The document's own List (towncrierref12): numbers that bytes begin with, behind how many they are, and what is left. Conditions: the slice reads as bytes.
  The document's own Numbers (towncrierref12): so many numbers that bytes begin with, and what is left. Conditions: the slice reads as bytes.
  The document's own Texts (towncrierref12): two texts that bytes begin with, and what is left. Conditions: the slice reads as bytes.
  What package command's Check answers. Conditions: as CmIs and CmFit say.
-/
import Derived.Test.YteebeiaokfenmaaGreatK01
import Derived.Test.YteebeiaokfenmaaGreatK22
import Derived.Test.YteebeiaokfenmaaGreatK04
import Derived.Test.YteebeiaokfenmaaGreatK07
import Derived.Deep.QuietTactic
import Derived.BigQuiet
import Derived.Test.YteebeiaokfenmaaGreatK18
import Derived.Test.YteebeiaokfenmaaGreatK05
namespace Go.Proofs.YteebeiaokfenmaaGreat.CP
open Go.RowKit
open CM (Mg Cm)
set_option linter.unusedVariables false
set_option linter.unusedSimpArgs false
set_option maxRecDepth 100000
def BsIs (w : World) (b : Nat) (v : Value) (l : List UInt8) : Prop := ∃ A c, v = .slice A l.length c ∧ Rd w A l.length (bc l) ∧ l.length ≤ c ∧ c ≤ maxLen ∧ ∀ ad, A = some ad → 0 < l.length → ad.block < b
theorem BsIs.below {w w' : World} {b : Nat} {v : Value} {l : List UInt8} (h : BsIs w b v l) (hb : Below w.heap.size w w') : BsIs w' b v l := by
 obtain ⟨A, c, e, h1, h2⟩ := h
 exact ⟨A, c, e, h1.below hb, h2⟩
theorem BsIs.set {w : World} {b : Nat} {v : Value} {l : List UInt8} (h : BsIs w b v l) {g i : Nat} (hg : b ≤ g) (u : Value) : BsIs (w.setCell ⟨g, i, none⟩ u) b v l := by
 obtain ⟨A, c, e, h1, h2, h3, h4⟩ := h
 refine ⟨A, c, e, ⟨h1.1, fun hn => ?_⟩, h2, h3, h4⟩
 obtain ⟨ad, e2, hB, hc⟩ := h1.2 hn
 have hb := h4 ad e2 hn
 refine ⟨ad, e2, by simpa using hB, fun j x hx => ?_⟩
 exact (World.cell?_of_block (Below.heap_setCell w ⟨g, i, none⟩ u (ad.add j).block (by rw [block_of_add]; show ad.block ≠ g; omega))).trans (hc j x hx)
def ListIs (o : Option (List Nat × List UInt8)) (b : Nat) (w : World) (e : Ending) (w' : World) : Prop :=
 Below w.heap.size w w' ∧ ((o = none ∧ e = .returned (.tuple #[.slice none 0 0, .slice none 0 0, .bool false])) ∨
  ∃ xs r B d v, o = some (xs, r) ∧ e = .returned (.tuple #[.slice B xs.length d, v, .bool true]) ∧ RowGe w' w.heap.size B d (CM.zs xs) ∧ BsIs w' b v r)
theorem zs_len (l : List Nat) : (CM.zs l).length = l.length := by simp [CM.zs]
theorem bs_rest {w : World} {A : Option Addr} {c k : Nat} {l : List UInt8} {b : Nat} (h : Rd w A l.length (bc l)) (hk : k ≤ l.length) (hc : l.length ≤ c) (hm : c ≤ maxLen) (hloc : ∀ ad, A = some ad → 0 < l.length → ad.block < b) : BsIs w b (.slice (Option.map (fun x => x.add k) A) (l.length - k) (c - k)) (l.drop k) :=
 ⟨_, _, by rw [List.length_drop], by rw [List.length_drop, ← bc_drop]; exact h.cutm hk, by rw [List.length_drop]; omega, by omega, fun ad e hn => by
  rw [List.length_drop] at hn
  rcases A with _ | a
  ·cases e
  ·simp at e
   subst e
   rw [block_of_add]
   exact hloc a rfl (by omega)⟩
theorem bs_end {w : World} {A : Option Addr} {k : Nat} {l : List UInt8} {b : Nat} (hk : l.length ≤ k) : BsIs w b (.slice A 0 0) (l.drop k) := by
 refine ⟨A, 0, by rw [List.length_drop, show l.length - k = 0 by omega], ?_, ?_, by unfold maxLen; omega, fun ad _ hn => by rw [List.length_drop] at hn; omega⟩
 ·rw [List.length_drop, List.drop_of_length_le hk, show l.length - k = 0 by omega]
  exact ⟨rfl, fun h => absurd h (Nat.lt_irrefl 0)⟩
 ·rw [List.length_drop]; omega
set_option maxHeartbeats 4000000 in
theorem list12_any (v : Value) (most : Nat) (l : List UInt8) (w : World) (b : Nat) (h : BsIs w b v l) (hmost : most ≤ 4096) :
  Calls Tryz.prog 142 #[v, .int .i64 most] w (ListIs (CM.lst most l) b w) := by
 obtain ⟨A, c, rfl, hr, hc, hm, hloc⟩ := h
 have HLoc := h! hloc
 clear hloc
 have G := h! (refGetInts_any A l.length c most l w hr hc hm hmost)
 have HR := h! hr
 unfold maxLen at hm
 clear hr
 rcases ho : NM.getInts l most with _ | ⟨xs, k⟩
 ·have HO := h! (show CM.lst most l = none by unfold CM.lst; rw [ho])
  rw [ho] at G
  clear ho
  go_enter Tryz.func142, Tryz.ntmps142
  go_wp2_with fail
  refine (G.out).mono ?_
  rintro e w1 ⟨hb, ⟨_, rfl⟩ | ⟨_, _, _, h, _⟩⟩
  ·go_wp2_with fail
   go_ret3
   exact ⟨hb, .inl ⟨HO.out, rfl⟩⟩
  ·cases h
 ·have hk := (NM.ints_getInts l most xs k ho).2.2.1
  have HO := h! (show CM.lst most l = some (xs, l.drop k) by unfold CM.lst; rw [ho])
  rw [ho] at G
  clear ho
  have k0 : (0 : Int) ≤ (k : Int) := by omega
  have k1 : (k : Int) ≤ (l.length : Int) := by omega
  have k2 : (k : Int) ≤ (c : Int) := by omega
  have DR := h! (show (l.drop k).length = l.length - k from List.length_drop)
  go_enter Tryz.func142, Tryz.ntmps142
  go_wp2_with fail
  refine (G.out).mono ?_
  rintro e w1 ⟨hb, ⟨h, _⟩ | ⟨xs', k', u, h, rfl, ho⟩⟩
  ·cases h
  ·injection h with h
   injection h with h1 h2
   subst h1 h2
   obtain ⟨B, d, rfl, hd1, hd2⟩ := own_slice ho
   have HW := h! (rowGe_own (l := CM.zs xs) ho (by rw [zs_len]) (by rw [zs_len]; exact hd1) hd2)
   have HB := h! hb
   clear ho hb hd1 hd2
   by_cases hck : c = k
   ·subst hck
    have HE : Hid (∀ W, BsIs W b (.slice A 0 0) (l.drop c)) := h! (fun W => bs_end (by omega))
    go_wp2_with fail
    go_quiet (fail)
    go_wp2_with fail
    go_ret3
    exact ⟨below_drewN HB.out _, .inr ⟨xs, _, B, d, _, HO.out, rfl, HW.out.below (below_drewN (Below.refl _ _) _), HE.out _⟩⟩
   ·have HE : Hid (∀ W, Below w.heap.size w W → BsIs W b (.slice (Option.map (fun x => x.add k) A) (l.length - k) (c - k)) (l.drop k)) := h! (fun W hb => bs_rest (HR.out.below hb) hk hc (by unfold maxLen; omega) HLoc.out)
    go_wp2_with fail
    go_quiet (fail)
    go_wp2_with fail
    go_ret3
    exact ⟨below_drewN HB.out _, .inr ⟨xs, _, B, d, _, HO.out, rfl, HW.out.below (below_drewN (Below.refl _ _) _), HE.out _ (below_drewN HB.out _)⟩⟩
end Go.Proofs.YteebeiaokfenmaaGreat.CP

namespace Go.Proofs.YteebeiaokfenmaaGreat.CP
open Go.RowKit
open CM (Mg Cm)
set_option linter.unusedVariables false
set_option linter.unusedSimpArgs false
set_option maxRecDepth 100000
def nums : Nat → List UInt8 → Option (List Nat × List UInt8)
 | 0, l => some ([], l)
 | m + 1, l => (CM.nm l).bind fun a => (nums m a.2).bind fun r => some (a.1 :: r.1, r.2)
theorem nm_none {l : List UInt8} (h : NM.dec l = none) : CM.nm l = none := by unfold CM.nm RM.num; rw [h]
theorem nm_some {l : List UInt8} {x k : Nat} (h : NM.dec l = some (x, k)) : CM.nm l = some (x, l.drop k) := by
 have := (NM.dec_bound l x k h).1
 unfold CM.nm RM.num
 rw [h]
 simp only
 rw [if_pos this]
def Left (many : Nat) (l : List UInt8) (xs : List Nat) (rest : List UInt8) : Prop := xs.length ≤ many ∧ nums many l = (nums (many - xs.length) rest).bind fun r => some (xs ++ r.1, r.2)
theorem left_start (many : Nat) (l : List UInt8) : Left many l [] l := by
 refine ⟨Nat.zero_le _, ?_⟩
 show nums many l = (nums many l).bind fun r => some (r.1, r.2)
 cases nums many l <;> rfl
theorem left_next {many : Nat} {l rest r2 : List UInt8} {xs : List Nat} {x : Nat} (h : Left many l xs rest) (hl : xs.length < many) (hn : CM.nm rest = some (x, r2)) : Left many l (xs ++ [x]) r2 := by
 refine ⟨by rw [List.length_append]; simp; omega, ?_⟩
 rw [h.2, show many - xs.length = (many - (xs ++ [x]).length) + 1 by rw [List.length_append]; simp; omega]
 show (Option.bind (Option.bind (CM.nm rest) _) _) = _
 rw [hn, Option.bind_some]
 cases nums (many - (xs ++ [x]).length) r2 <;> simp
theorem left_none {many : Nat} {l rest : List UInt8} {xs : List Nat} (h : Left many l xs rest) (hl : xs.length < many) (hn : CM.nm rest = none) : nums many l = none := by
 rw [h.2, show many - xs.length = (many - xs.length - 1) + 1 by omega]
 show (Option.bind (Option.bind (CM.nm rest) _) _) = _
 rw [hn]
 rfl
theorem left_end {many : Nat} {l rest : List UInt8} {xs : List Nat} (h : Left many l xs rest) (hl : xs.length = many) : nums many l = some (xs, rest) := by
 rw [h.2, hl, Nat.sub_self]
 simp [nums]
theorem zs_snoc (xs : List Nat) (x : Nat) : ic (CM.zs (xs ++ [x])) = ic (CM.zs xs) ++ [.int .i64 (x : Int)] := by simp [ic, CM.zs]
theorem info_num12 : (Tryz.prog.info? 3).map (fun i => (i.zero, i.size, i.bytes)) = some (some (.int .i64 0), 1, 8) := by kernel_rfl
def NuRel (w : World) (b : Nat) (many : Nat) (l : List UInt8) (j : Nat) (A : Option Addr) (n c : Nat) (u : Value) (wr : World) : Prop :=
 ∃ xs rest, xs.length = j ∧ Left many l xs rest ∧ Src wr b A n c rest ∧ wr.ownsRow w.heap.size 3 1 u j (ic (CM.zs xs)) ∧ Below w.heap.size w wr
theorem nuRel_next {w wr w2 : World} {many j x : Nat} {l r2 : List UInt8} {xs : List Nat} {A2 : Option Addr} {n2 c2 : Nat} {u v y : Value} {b : Nat} (hbw : b ≤ w.heap.size) (hl : xs.length = j) (hL : Left many l (xs ++ [x]) r2)
  (hS : Src wr b A2 n2 c2 r2) (ho : wr.ownsRow w.heap.size 3 1 u j (ic (CM.zs xs))) (hb : Below w.heap.size w wr)
  (h2 : w2.ownsRow w.heap.size 3 1 v (j + 1) (ic (CM.zs xs) ++ [.int .i64 (x : Int)])) (hg : (wr.alloc (.cells #[y] 3)).grownBy w2 u.ownBlock) : NuRel w b many l (j + 1) A2 n2 c2 v w2 := by
 have hB : Below w.heap.size w w2 := by
  refine (hb.alloc hb.size _).grown hg (by have := hb.size; simp; omega) fun g hgu => ?_
  rcases ho.2 with ⟨rfl, _⟩ | ⟨g', cap, cur, rfl, hb, _⟩
  ·simp [Value.ownBlock] at hgu
  ·simp [Value.ownBlock] at hgu; omega
 have hW : Below w.heap.size wr w2 := by
  refine ((Below.refl w.heap.size wr).alloc hb.size _).grown hg (by have := hb.size; simp; omega) fun g hgu => ?_
  rcases ho.2 with ⟨rfl, _⟩ | ⟨g', cap, cur, rfl, hb, _⟩
  ·simp [Value.ownBlock] at hgu
  ·simp [Value.ownBlock] at hgu; omega
 exact ⟨xs ++ [x], r2, by rw [List.length_append, hl]; rfl, hL, hS.below (hW.mono hbw), by rw [zs_snoc]; exact h2, hB⟩
def RowN (w : World) (b bl : Nat) (xs : List Nat) : Prop := b ≤ bl ∧ bl < w.heap.size ∧ ∀ j u, (ic (CM.zs xs))[j]? = some u → w.cell? ⟨bl, j, none⟩ = some u
theorem RowN.set {w : World} {b bl g i : Nat} {xs : List Nat} (h : RowN w b bl xs) (hg : g < b) (v : Value) : RowN (w.setCell ⟨g, i, none⟩ v) b bl xs :=
 ⟨h.1, by have := h.2.1; simpa using this, fun j u hu => (World.cell?_of_block (Below.heap_setCell w ⟨g, i, none⟩ v bl (by have := h.1; show bl ≠ g; omega))).trans (h.2.2 j u hu)⟩
theorem rowN_own {w : World} {b n : Nat} {v : Value} {xs : List Nat} (h : w.ownsRow b 3 1 v n (ic (CM.zs xs))) (hn : 0 < n) (hx : xs.length = n) : ∃ bl d, v = .slice (some ⟨bl, 0, none⟩) n d ∧ RowN w b bl xs := by
 obtain ⟨A, d, rfl, h1, h2⟩ := own_slice h
 have hr := Rd.of_own h
 rcases h.2 with ⟨hv, _⟩ | ⟨g', cap, cur, hv, hb, _⟩
 ·injection hv with _ hv _
  omega
 ·injection hv with hv _ _
  subst hv
  obtain ⟨ad, e, hB, hc⟩ := hr.2 hn
  injection e with e
  subst e
  refine ⟨g', d, rfl, hb, hB, fun j u hu => ?_⟩
  have := hc j u hu
  have e2 : (⟨g', 0, none⟩ : Addr).add j = ⟨g', j, none⟩ := by unfold Addr.add; split <;> simp_all
  rwa [e2] at this
def NumsIs (o : Option (List Nat × List UInt8)) (b : Nat) (w : World) (e : Ending) (w' : World) : Prop :=
 Below w.heap.size w w' ∧ ((o = none ∧ e = .returned (.tuple #[.slice none 0 0, .slice none 0 0, .bool false])) ∨
  ∃ xs r bl d v, o = some (xs, r) ∧ e = .returned (.tuple #[.slice (some ⟨bl, 0, none⟩) xs.length d, v, .bool true]) ∧ RowN w' w.heap.size bl xs ∧ BsIs w' b v r)
set_option maxHeartbeats 8000000 in
theorem numbers12_any (v : Value) (many : Nat) (l : List UInt8) (w : World) (b : Nat) (hbw : b ≤ w.heap.size) (h : BsIs w b v l) (hmany : many ≤ 4) (hmany1 : 1 ≤ many) :
  Calls Tryz.prog 141 #[v, .int .i64 many] w (NumsIs (nums many l) b w) := by
 obtain ⟨i0, hi, hz0, hz1, hz2⟩ := info_parts info_num12
 obtain ⟨A, c, rfl, hr, hc, hm, hloc⟩ := h
 have HBW := h! hbw
 have HS := h! (show NuRel w b many l 0 A l.length c (.slice none 0 0) w from ⟨[], l, rfl, left_start _ _, ⟨hr, hc, hm, hloc⟩, World.ownsRow_nil _ _ _ _, Below.refl _ _⟩)
 clear hr hc hm hloc hbw
 generalize l.length = n at HS ⊢
 go_enter Tryz.func141, Tryz.ntmps141
 go_wp2_with fail
 go_loopw [0, 7, 8] (fun y u i wr => ∃ (j : Nat) (A : Option Addr) (n c : Nat), j ≤ many ∧ y = .slice A n c ∧ i = .int .i64 j ∧ NuRel w b many l j A n c u wr) (fun _ _ i _ => many - (intOf i).toNat)
 case atStart => exact ⟨0, A, n, c, by omega, rfl, rfl, HS.out⟩
 case round =>
  clear HS
  obtain ⟨j, A, n, c, hj, rfl, rfl, xs, rest, hxs, hL, hS, hown, hB⟩ := hrel
  by_cases hlt : j < many
  ·have hn := hS.2.1
   have hc := hS.2.2.1
   have hln := src_len hS
   unfold maxLen at hc
   have G := h! (refGet_any A n c rest wr hS.1 (by unfold maxLen; omega))
   rcases hd : NM.dec rest with _ | ⟨x, k⟩
   ·rw [hd] at G
    have HF := h! (left_none hL (by omega) (nm_none hd))
    have HB := h! hB
    clear hL hS hown hB hd hln hxs
    go_wp2_with fail
    refine (G.out).mono ?_
    rintro e w1 ⟨rfl, rfl⟩
    unfold getRes
    go_wp2_with fail
    go_ret3
    exact ⟨HB.out, .inl ⟨HF.out, rfl⟩⟩
   ·have hk := (NM.dec_bound rest x k hd).2.2.1
    rw [hln] at hk
    rw [hd] at G
    have HX := h! hxs
    have HL2 := h! (left_next hL (by omega) (nm_some hd))
    have S := h! (hS.cut hk)
    have HO := h! hown
    have hown0 := hown
    have HB := h! hB
    have hbs := hB.size
    clear hL hS hown hB hd hln hxs
    by_cases hck : c = k
    ·rw [if_pos hck] at S
     subst hck
     rw [Nat.sub_self, show n - c = 0 by omega] at S
     go_wp2_with fail
     refine (G.out).mono ?_
     rintro e w1 ⟨rfl, rfl⟩
     unfold getRes
     go_wp2_with (at_builtin; refine wpList_append_rd _ rfl _ _ 31 rfl w.heap.size 3 i0 (.int .i64 0) 8 Tryz.underlying31 hi hz0 hz1 hz2 rfl _ _ _ rfl (hown0.alloc _) (some ⟨wr.heap.size, 0, none⟩) 1 1 [.int .i64 (x : Int)] rfl (rd_new _ _ _) (by intro u hu; simp at hu; subst hu; rfl) (by unfold maxLen; omega) (by omega) (by simp; omega) ?_; intro v2 w2 hown2 hg2 hob2)
     have hnext := nuRel_next HBW.out HX.out HL2.out S.out HO.out HB.out hown2 hg2
     clear hown2 hg2 hob2
     go_roundw
     case rel => exact ⟨j + 1, _, _, _, by omega, rfl, by go_num, hnext⟩
     case measure => simp [intOf]; omega
    ·rw [if_neg hck] at S
     go_wp2_with fail
     refine (G.out).mono ?_
     rintro e w1 ⟨rfl, rfl⟩
     unfold getRes
     go_wp2_with (at_builtin; refine wpList_append_rd _ rfl _ _ 31 rfl w.heap.size 3 i0 (.int .i64 0) 8 Tryz.underlying31 hi hz0 hz1 hz2 rfl _ _ _ rfl (hown0.alloc _) (some ⟨wr.heap.size, 0, none⟩) 1 1 [.int .i64 (x : Int)] rfl (rd_new _ _ _) (by intro u hu; simp at hu; subst hu; rfl) (by unfold maxLen; omega) (by omega) (by simp; omega) ?_; intro v2 w2 hown2 hg2 hob2)
     have hnext := nuRel_next HBW.out HX.out HL2.out S.out HO.out HB.out hown2 hg2
     clear hown2 hg2 hob2
     go_roundw
     case rel => exact ⟨j + 1, _, _, _, by omega, rfl, by go_num, hnext⟩
     case measure => simp [intOf]; omega
  ·obtain rfl : j = many := by omega
   have HF := h! (left_end hL hxs)
   obtain ⟨bl, d, rfl, hrow⟩ := rowN_own hown (by omega) hxs
   have HW := h! hrow
   have HV := h! (show BsIs wr b (.slice A n c) rest from ⟨A, c, by rw [src_len hS], by rw [src_len hS]; exact hS.1, by rw [src_len hS]; exact hS.2.1, hS.2.2.1, by rw [src_len hS]; exact hS.2.2.2⟩)
   have HB := h! hB
   have HX := h! hxs
   clear hL hS hown hB hxs hrow
   go_wp2
   go_ret3
   exact ⟨HB.out, .inr ⟨xs, rest, bl, d, _, HF.out, by rw [HX.out]; rfl, HW.out, HV.out⟩⟩
end Go.Proofs.YteebeiaokfenmaaGreat.CP

namespace Go.Proofs.YteebeiaokfenmaaGreat.CP
open Go.RowKit
open CM (Mg Cm)
set_option linter.unusedVariables false
set_option linter.unusedSimpArgs false
set_option maxRecDepth 100000
theorem results_tmp4 {fn : Func} {t u v x : Tmp} (h : fn.results = #[.tmp t, .tmp u, .tmp v, .tmp x]) (tmps : Array Value) (P : Program) (w : World) :
  (results fn tmps).run P w = .ok (.tuple #[tmps.getD t undef, tmps.getD u undef, tmps.getD v undef, tmps.getD x undef]) w := by
 simp [results, h]
def tx2 (l : List UInt8) : Option ((List UInt8 × List UInt8) × List UInt8) := (CM.tx l).bind fun s => (CM.tx s.2).bind fun t => some ((s.1, t.1), t.2)
def TextsIs (o : Option ((List UInt8 × List UInt8) × List UInt8)) (b : Nat) (w : World) (e : Ending) (w' : World) : Prop :=
 Below w.heap.size w w' ∧ ((o = none ∧ e = .returned (.tuple #[.string .empty, .string .empty, .slice none 0 0, .bool false])) ∨
  ∃ s t r v, o = some ((s, t), r) ∧ e = .returned (.tuple #[.string ⟨s.toArray⟩, .string ⟨t.toArray⟩, v, .bool true]) ∧ BsIs w' b v r)
theorem tx_none {l : List UInt8} (h : NM.getText l = none) : CM.tx l = none := by unfold CM.tx RM.txt; rw [h]
theorem tx_some {l s : List UInt8} {k : Nat} (h : NM.getText l = some (s, k)) : CM.tx l = some (s, l.drop k) := by
 have := (NM.text_getText l s k h).1
 unfold CM.tx RM.txt
 rw [h]
 simp only
 rw [if_pos this]
set_option maxHeartbeats 4000000 in
theorem texts12_at (A : Option Addr) (n c : Nat) (l : List UInt8) (w : World) (b : Nat) (hr : Rd w A n (bc l)) (hnc : n ≤ c) (hm : c ≤ maxLen) (hloc : ∀ ad, A = some ad → 0 < n → ad.block < b) :
  Calls Tryz.prog 143 #[.slice A n c] w (TextsIs (tx2 l) b w) := by
 have HLoc := h! hloc
 clear hloc
 have G := h! (refGetText_any A n c l w hr hnc hm)
 have hm0 := h! hm
 have hl : l.length = n := by have := hr.1; rwa [bc_length] at this
 have HL := h! hl
 have HR := h! hr
 clear hr
 unfold maxLen at hm
 rcases ho : NM.getText l with _ | ⟨s, k⟩
 ·have HO := h! (show tx2 l = none by unfold tx2; rw [tx_none ho]; rfl)
  rw [ho] at G
  clear ho hl
  go_enter Tryz.func143, Tryz.ntmps143
  go_wp2_with fail
  refine (G.out).mono ?_
  rintro e w1 ⟨rfl, rfl⟩
  unfold textRes
  go_wp2_with fail
  refine bodyPost_ret (results_tmp4 rfl _ _ _) rfl ?_
  exact ⟨Below.refl _ _, .inl ⟨HO.out, rfl⟩⟩
 have hk := (NM.text_getText l s k ho).2.1
 rw [hl] at hk
 have T1 := h! (tx_some ho)
 rw [ho] at G
 clear ho hl
 have HLk : Hid ((l.drop k).length = n - k) := h! (by rw [List.length_drop, HL.out])
 by_cases hck : c = k
 ·subst hck
  have hd0 : l.drop c = [] := List.drop_of_length_le (by rw [HL.out]; omega)
  have hn : NM.getText (l.drop c) = none := by rw [hd0]; rfl
  have HO := h! (show tx2 l = none by unfold tx2; rw [T1.out, Option.bind_some, tx_none hn]; rfl)
  obtain rfl : n = c := by omega
  have G2 := h! (refGetText_any A 0 0 [] w ⟨rfl, fun h => absurd h (Nat.lt_irrefl 0)⟩ n! (by unfold maxLen; omega))
  clear hd0 hn T1 HLk HL HR hm0
  go_enter Tryz.func143, Tryz.ntmps143
  go_wp2_with fail
  refine (G.out).mono ?_
  rintro e w1 ⟨rfl, rfl⟩
  unfold textRes
  go_wp2_with fail
  refine (G2.out).mono ?_
  rintro e w1 ⟨rfl, rfl⟩
  rw [show NM.getText [] = none from rfl]
  unfold textRes
  go_wp2_with fail
  refine bodyPost_ret (results_tmp4 rfl _ _ _) rfl ?_
  exact ⟨Below.refl _ _, .inl ⟨HO.out, rfl⟩⟩
 have hr2 : Rd w (Option.map (fun x => x.add k) A) (n - k) (bc (l.drop k)) := by rw [← bc_drop]; exact HR.out.cutm hk
 have G2 := h! (refGetText_any (Option.map (fun x => x.add k) A) (n - k) (c - k) (l.drop k) w hr2 (by omega) (by unfold maxLen; omega))
 clear hr2
 rcases ho : NM.getText (l.drop k) with _ | ⟨t, j⟩
 ·have HO := h! (show tx2 l = none by unfold tx2; rw [T1.out, Option.bind_some, tx_none ho]; rfl)
  rw [ho] at G2
  clear ho T1 HLk HL HR hm0
  go_enter Tryz.func143, Tryz.ntmps143
  go_wp2_with fail
  refine (G.out).mono ?_
  rintro e w1 ⟨rfl, rfl⟩
  unfold textRes
  go_wp2_with fail
  refine (G2.out).mono ?_
  rintro e w1 ⟨rfl, rfl⟩
  unfold textRes
  go_wp2_with fail
  refine bodyPost_ret (results_tmp4 rfl _ _ _) rfl ?_
  exact ⟨Below.refl _ _, .inl ⟨HO.out, rfl⟩⟩
 have hj := (NM.text_getText _ t j ho).2.1
 rw [HLk.out] at hj
 have HO := h! (show tx2 l = some ((s, t), l.drop (k + j)) by unfold tx2; rw [T1.out, Option.bind_some, tx_some ho, Option.bind_some, List.drop_drop])
 rw [ho] at G2
 have HE1 : Hid (c = k + j → ∀ W, BsIs W b (.slice A (n - (k + j)) 0) (l.drop (k + j))) := h! (fun hc W => by rw [show n - (k + j) = 0 by omega]; exact bs_end (by rw [HL.out]; omega))
 have HE2 : Hid (∀ W, Below w.heap.size w W → BsIs W b (.slice (Option.map (fun x => x.add (k + j)) A) (n - (k + j)) (c - (k + j))) (l.drop (k + j))) :=
  h! (fun W hb => by have := bs_rest (k := k + j) (by rw [HL.out]; exact HR.out.below hb) (by rw [HL.out]; omega) (by rw [HL.out]; exact hnc) hm0.out (by rw [HL.out]; exact HLoc.out); rwa [HL.out] at this)
 clear ho T1 HLk HL HR hm0
 have j0 : (0 : Int) ≤ (k : Int) + (j : Int) := by omega
 have j1 : (k : Int) + (j : Int) ≤ (n : Int) := by omega
 have j2 : (k : Int) + (j : Int) ≤ (c : Int) := by omega
 have jw : IntKind.i64.wrap ((k : Int) + (j : Int)) = (k : Int) + (j : Int) := IntWalk.i64_in _ ⟨by omega, by omega⟩
 have jn : ((k : Int) + (j : Int)).toNat = k + j := by omega
 replace j0 := h! j0
 replace j1 := h! j1
 replace j2 := h! j2
 replace jw := h! jw
 replace jn := h! jn
 go_enter Tryz.func143, Tryz.ntmps143
 go_wp2_with fail
 refine (G.out).mono ?_
 rintro e w1 ⟨rfl, rfl⟩
 unfold textRes
 go_wp2_with fail
 refine (G2.out).mono ?_
 rintro e w1 ⟨rfl, rfl⟩
 unfold textRes
 replace j0 := j0.out
 replace j1 := j1.out
 replace j2 := j2.out
 replace jw := jw.out
 replace jn := jn.out
 by_cases hcj : c = k + j
 ·have HE := h! (HE1.out hcj)
  clear HE1 HE2
  go_wp2_with fail
  go_quiet (fail)
  go_wp2_with fail
  refine bodyPost_ret (results_tmp4 rfl _ _ _) rfl ?_
  exact ⟨below_drewN (Below.refl _ _) _, .inr ⟨s, t, _, _, HO.out, rfl, HE.out _⟩⟩
 ·go_wp2_with fail
  go_quiet (fail)
  go_wp2_with fail
  refine bodyPost_ret (results_tmp4 rfl _ _ _) rfl ?_
  exact ⟨below_drewN (Below.refl _ _) _, .inr ⟨s, t, _, _, HO.out, rfl, HE2.out _ (below_drewN (Below.refl _ _) _)⟩⟩
theorem texts12_any (v : Value) (l : List UInt8) (w : World) (b : Nat) (h : BsIs w b v l) :
  Calls Tryz.prog 143 #[v] w (TextsIs (tx2 l) b w) := by
 obtain ⟨A, c, rfl, hr, hc, hm, hloc⟩ := h
 exact texts12_at A l.length c l w b hr hc hm hloc
end Go.Proofs.YteebeiaokfenmaaGreat.CP

namespace Go.Proofs.YteebeiaokfenmaaGreat.CP
open Go.RowKit
open CM (Mg Cm)
set_option linter.unusedVariables false
set_option linter.unusedSimpArgs false
set_option maxRecDepth 100000
section
variable {k aid atm atp awh an : Int} {am : Mg} {ams : List Int}
theorem may_fl {f1 f2 f3 f4 f5 f6 : Bool} (h : Fl k f1 f2 f3 f4 f5 f6) : CM.may ⟨k, am, aid, atm, ams, atp, awh, an⟩ ↔ (f6 = true ∧ (if f1 = true then CM.mgOk am else am = CM.mz) ∧ (if f3 = true then QM.may ams = true else ams = []) ∧ (if (f2 || f4) = true then 0 ≤ aid ∧ aid ≤ 6291455 else aid = 0) ∧ (if f2 = true then 1 ≤ atm ∧ atm ≤ 1073741824 else atm = 0) ∧ (if f4 = true then 0 ≤ atp ∧ atp ≤ 3 else atp = 0) ∧ (if f5 = true then 0 ≤ awh ∧ awh ≤ 7 else awh = 0) ∧ (if f4 = true then 0 ≤ an ∧ an ≤ 1073741824 else an = 0)) := by
 rcases h with ⟨rfl, rfl, rfl, rfl, rfl, rfl, rfl⟩ | ⟨rfl, rfl, rfl, rfl, rfl, rfl, rfl⟩ | ⟨rfl, rfl, rfl, rfl, rfl, rfl, rfl⟩ | ⟨rfl, rfl, rfl, rfl, rfl, rfl, rfl⟩ | ⟨rfl, rfl, rfl, rfl, rfl, rfl, rfl⟩ | ⟨rfl, rfl, rfl, rfl, rfl, rfl, rfl⟩ | ⟨rfl, rfl, rfl, rfl, rfl, rfl, rfl⟩ | ⟨hk, rfl, rfl, rfl, rfl, rfl, rfl⟩
 ·rw [may_iff0]; unfold CM.zero; simp; try grind
 ·rw [may_iff1]; simp; try grind
 ·rw [may_iff2]; unfold CM.idOk; simp; try grind
 ·rw [may_iff3]; simp; try grind
 ·rw [may_iff4]; unfold CM.idOk; simp; try grind
 ·rw [may_iff5]; unfold CM.idOk; simp; try grind
 ·rw [may_iff6]; unfold CM.idOk; simp; try grind
 ·simp [may_other hk]
end
def Ck (w0 w : World) (X : Array Value) (g : Nat) (a b c d e : Bool) : Prop := Box w w0.heap.size 91 X ∧ Box w g 126 #[.bool a, .bool b, .bool c, .bool d, .bool e] ∧ Below w0.heap.size w0 w
theorem Ck.below {w0 w w' : World} {X : Array Value} {g : Nat} {a b c d e : Bool} (h : Ck w0 w X g a b c d e) (hb : Below w.heap.size w w') : Ck w0 w' X g a b c d e :=
 ⟨h.1.below hb h.1.lt, h.2.1.below hb h.2.1.lt, bmore h.2.2 hb n!⟩
theorem ck_new {w0 w : World} {X : Array Value} (h : Box w w0.heap.size 91 X) (hb : Below w0.heap.size w0 w) (a b c d e : Bool) : Ck w0 (w.alloc (.cells #[.bool a, .bool b, .bool c, .bool d, .bool e] 126)) X w.heap.size a b c d e :=
 ⟨h.alloc _, Box.new w _ _, hb.alloc hb.size _⟩
set_option maxHeartbeats 16000000 in
theorem pcheck_any (x : Cm) (v : Value) (w : World) (h : CmIs w v x) (hf : CmFit x) :
  Calls Tryz.prog 65 #[v] w (NumIs (if CM.may x then 0 else 120) w) := by
 obtain ⟨A, c, P, q, rfl, r1, r3⟩ := h
 obtain ⟨k, am, aid, atm, ams, atp, awh, an⟩ := x
 obtain ⟨f1, f2, f3, f4, f5, f6, hfl⟩ := fl_ex k
 obtain ⟨_, fm, _⟩ := hf
 simp only at r1 r3 fm
 obtain ⟨y, hy⟩ : ∃ y : Int, y = if CM.may ⟨k, am, aid, atm, ams, atp, awh, an⟩ then 0 else 120 := ⟨_, rfl⟩
 rw [← hy]
 have HNO := h! (show ¬ (f6 = true ∧ (if f1 = true then CM.mgOk am else am = CM.mz) ∧ (if f3 = true then QM.may ams = true else ams = []) ∧ (if (f2 || f4) = true then 0 ≤ aid ∧ aid ≤ 6291455 else aid = 0) ∧ (if f2 = true then 1 ≤ atm ∧ atm ≤ 1073741824 else atm = 0) ∧ (if f4 = true then 0 ≤ atp ∧ atp ≤ 3 else atp = 0) ∧ (if f5 = true then 0 ≤ awh ∧ awh ≤ 7 else awh = 0) ∧ (if f4 = true then 0 ≤ an ∧ an ≤ 1073741824 else an = 0)) → 120 = y from fun h => by rw [hy, if_neg (fun e => h ((may_fl hfl).1 e))])
 have HYES := h! (show (f6 = true ∧ (if f1 = true then CM.mgOk am else am = CM.mz) ∧ (if f3 = true then QM.may ams = true else ams = []) ∧ (if (f2 || f4) = true then 0 ≤ aid ∧ aid ≤ 6291455 else aid = 0) ∧ (if f2 = true then 1 ≤ atm ∧ atm ≤ 1073741824 else atm = 0) ∧ (if f4 = true then 0 ≤ atp ∧ atp ≤ 3 else atp = 0) ∧ (if f5 = true then 0 ≤ awh ∧ awh ≤ 7 else awh = 0) ∧ (if f4 = true then 0 ≤ an ∧ an ≤ 1073741824 else an = 0)) → 0 = y from fun h => by rw [hy, if_pos ((may_fl hfl).2 h)])
 have CF := h! (fun w => fields_any hfl w)
 clear hy hfl
 show Calls _ _ #[.agg #[.int .u8 k, .int .i64 am.id, .slice A am.gs.length c, .int .i64 am.tp, .string am.key, .string am.body, .int .i64 aid, .int .i64 atm, .slice P ams.length q, .int .i64 atp, .int .i64 awh, .int .i64 an]] _ _
 have hb0 : Below w.heap.size w (w.alloc (.cells #[.int .u8 k, .int .i64 am.id, .slice A am.gs.length c, .int .i64 am.tp, .string am.key, .string am.body, .int .i64 aid, .int .i64 atm, .slice P ams.length q, .int .i64 atp, .int .i64 awh, .int .i64 an] 91)) := b!
 have HX := h! (Box.new w 91 #[.int .u8 k, .int .i64 am.id, .slice A am.gs.length c, .int .i64 am.tp, .string am.key, .string am.body, .int .i64 aid, .int .i64 atm, .slice P ams.length q, .int .i64 atp, .int .i64 awh, .int .i64 an])
 have HB := h! hb0
 have C1 := h! (fun W (hb : Below w.heap.size w W) => isMessage_any f1 am (.agg (mcells A c am)) W ⟨A, c, rfl, r1.below hb⟩ fm)
 unfold mcells at C1
 have C2 := h! (fun W (hb : Below w.heap.size w W) => areMembers_any f3 P ams.length q ams W (r3.below hb).1 (by have := r3.2.1; have := r3.2.2; unfold maxLen at this; omega))
 have C3 := h! (fun W => isNumber_any (f2 || f4) aid 0 6291455 W)
 have C4 := h! (fun W => isNumber_any f2 atm 1 1073741824 W)
 have C5 := h! (fun W => isNumber_any f4 atp 0 3 W)
 have C6 := h! (fun W => isNumber_any f5 awh 0 7 W)
 have C7 := h! (fun W => isNumber_any f4 an 0 1073741824 W)
 have HD1 := h! (show decide (if f1 = true then CM.mgOk am else am = CM.mz) = true ↔ (if f1 = true then CM.mgOk am else am = CM.mz) by rw [decide_eq_true_iff])
 generalize decide (if f1 = true then CM.mgOk am else am = CM.mz) = b1 at C1 HD1
 have HD2 := h! (show decide (if f3 = true then QM.may ams = true else ams = []) = true ↔ (if f3 = true then QM.may ams = true else ams = []) by rw [decide_eq_true_iff])
 generalize decide (if f3 = true then QM.may ams = true else ams = []) = b2 at C2 HD2
 have HD3 := h! (show decide (if (f2 || f4) = true then 0 ≤ aid ∧ aid ≤ 6291455 else aid = 0) = true ↔ (if (f2 || f4) = true then 0 ≤ aid ∧ aid ≤ 6291455 else aid = 0) by rw [decide_eq_true_iff])
 generalize decide (if (f2 || f4) = true then 0 ≤ aid ∧ aid ≤ 6291455 else aid = 0) = b3 at C3 HD3
 have HD4 := h! (show decide (if f2 = true then 1 ≤ atm ∧ atm ≤ 1073741824 else atm = 0) = true ↔ (if f2 = true then 1 ≤ atm ∧ atm ≤ 1073741824 else atm = 0) by rw [decide_eq_true_iff])
 generalize decide (if f2 = true then 1 ≤ atm ∧ atm ≤ 1073741824 else atm = 0) = b4 at C4 HD4
 have HD5 := h! (show decide (if f4 = true then 0 ≤ atp ∧ atp ≤ 3 else atp = 0) = true ↔ (if f4 = true then 0 ≤ atp ∧ atp ≤ 3 else atp = 0) by rw [decide_eq_true_iff])
 generalize decide (if f4 = true then 0 ≤ atp ∧ atp ≤ 3 else atp = 0) = b5 at C5 HD5
 have HD6 := h! (show decide (if f5 = true then 0 ≤ awh ∧ awh ≤ 7 else awh = 0) = true ↔ (if f5 = true then 0 ≤ awh ∧ awh ≤ 7 else awh = 0) by rw [decide_eq_true_iff])
 generalize decide (if f5 = true then 0 ≤ awh ∧ awh ≤ 7 else awh = 0) = b6 at C6 HD6
 have HD7 := h! (show decide (if f4 = true then 0 ≤ an ∧ an ≤ 1073741824 else an = 0) = true ↔ (if f4 = true then 0 ≤ an ∧ an ≤ 1073741824 else an = 0) by rw [decide_eq_true_iff])
 generalize decide (if f4 = true then 0 ≤ an ∧ an ≤ 1073741824 else an = 0) = b7 at C7 HD7
 clear hb0 r1 r3 fm
 cases f2
 ·skip
  simp only [Bool.false_or, Bool.true_or] at C3
  go_enter Tryz.func65, Tryz.ntmps65
  go_wp2_with fail
  refine (CF.out _).mono ?_
  rintro e w1 ⟨rfl, hb1⟩
  have S := h! (ck_new (HX.out.below hb1 HX.out.lt) (bmore HB.out hb1 (by simp)) f1 false f3 f4 f5)
  clear hb1 HX HB CF
  go_upto_region 2 with (fail)
  generalize w1.alloc (.cells #[.bool f1, .bool false, .bool f3, .bool f4, .bool f5] 126) = w2 at S ⊢
  generalize w1.heap.size = g1 at S ⊢
  obtain ⟨x0, x1, x2, x3, x4, x5, x6, x7, x8, x9, x10, x11⟩ := box_cm S.out.1
  obtain ⟨y0, y1, y2, y3, y4⟩ := box_mg S.out.2.1
  cases f6
  ·have HF := h! (HNO.out (fun h => by cases h.1))
   clear HNO HYES C1 C2 C3 C4 C5 C6 C7 HD1 HD2 HD3 HD4 HD5 HD6 HD7
   go_wp2_with fail
   go_ret
   exact ⟨ret_int HF.out, S.out.2.2⟩
  go_wp2_with fail
  refine (C1.out _ S.out.2.2).mono ?_
  rintro e w3 ⟨rfl, hb2⟩
  replace S := h! (S.out.below hb2)
  clear hb2 x0 x1 x2 x3 x4 x5 x6 x7 x8 x9 x10 x11 y0 y1 y2 y3 y4
  obtain ⟨x0, x1, x2, x3, x4, x5, x6, x7, x8, x9, x10, x11⟩ := box_cm S.out.1
  obtain ⟨y0, y1, y2, y3, y4⟩ := box_mg S.out.2.1
  cases b1
  ·have HF := h! (HNO.out (fun h => by have := HD1.out.2 h.2.1; cases this))
   clear HNO HYES C2 C3 C4 C5 C6 C7 HD1 HD2 HD3 HD4 HD5 HD6 HD7
   go_wp2_with fail
   go_ret
   exact ⟨ret_int HF.out, S.out.2.2⟩
  go_wp2_with fail
  refine (C2.out _ S.out.2.2).mono ?_
  rintro e w4 ⟨rfl, rfl⟩
  cases b2
  ·have HF := h! (HNO.out (fun h => by have := HD2.out.2 h.2.2.1; cases this))
   clear HNO HYES C3 C4 C5 C6 C7 HD1 HD2 HD3 HD4 HD5 HD6 HD7
   go_wp2_with fail
   go_ret
   exact ⟨ret_int HF.out, S.out.2.2⟩
  go_wp2_with fail
  refine (C3.out _).mono ?_
  rintro e w4 ⟨rfl, rfl⟩
  cases b3
  ·have HF := h! (HNO.out (fun h => by have := HD3.out.2 h.2.2.2.1; cases this))
   clear HNO HYES C4 C5 C6 C7 HD1 HD2 HD3 HD4 HD5 HD6 HD7
   go_wp2_with fail
   go_ret
   exact ⟨ret_int HF.out, S.out.2.2⟩
  go_wp2_with fail
  refine (C4.out _).mono ?_
  rintro e w4 ⟨rfl, rfl⟩
  cases b4
  ·have HF := h! (HNO.out (fun h => by have := HD4.out.2 h.2.2.2.2.1; cases this))
   clear HNO HYES C5 C6 C7 HD1 HD2 HD3 HD4 HD5 HD6 HD7
   go_wp2_with fail
   go_ret
   exact ⟨ret_int HF.out, S.out.2.2⟩
  go_wp2_with fail
  refine (C5.out _).mono ?_
  rintro e w4 ⟨rfl, rfl⟩
  cases b5
  ·have HF := h! (HNO.out (fun h => by have := HD5.out.2 h.2.2.2.2.2.1; cases this))
   clear HNO HYES C6 C7 HD1 HD2 HD3 HD4 HD5 HD6 HD7
   go_wp2_with fail
   go_ret
   exact ⟨ret_int HF.out, S.out.2.2⟩
  go_wp2_with fail
  refine (C6.out _).mono ?_
  rintro e w4 ⟨rfl, rfl⟩
  cases b6
  ·have HF := h! (HNO.out (fun h => by have := HD6.out.2 h.2.2.2.2.2.2.1; cases this))
   clear HNO HYES C7 HD1 HD2 HD3 HD4 HD5 HD6 HD7
   go_wp2_with fail
   go_ret
   exact ⟨ret_int HF.out, S.out.2.2⟩
  go_wp2_with fail
  refine (C7.out _).mono ?_
  rintro e w4 ⟨rfl, rfl⟩
  cases b7
  ·have HF := h! (HNO.out (fun h => by have := HD7.out.2 h.2.2.2.2.2.2.2; cases this))
   clear HNO HYES  HD1 HD2 HD3 HD4 HD5 HD6 HD7
   go_wp2_with fail
   go_ret
   exact ⟨ret_int HF.out, S.out.2.2⟩
  have HF := h! (HYES.out ⟨(by simp), HD1.out.1 (by simp), HD2.out.1 (by simp), HD3.out.1 (by simp), HD4.out.1 (by simp), HD5.out.1 (by simp), HD6.out.1 (by simp), HD7.out.1 (by simp)⟩)
  clear HNO HYES HD1 HD2 HD3 HD4 HD5 HD6 HD7
  go_wp2_with fail
  go_ret
  exact ⟨ret_int HF.out, S.out.2.2⟩
 ·skip
  simp only [Bool.false_or, Bool.true_or] at C3
  go_enter Tryz.func65, Tryz.ntmps65
  go_wp2_with fail
  refine (CF.out _).mono ?_
  rintro e w1 ⟨rfl, hb1⟩
  have S := h! (ck_new (HX.out.below hb1 HX.out.lt) (bmore HB.out hb1 (by simp)) f1 true f3 f4 f5)
  clear hb1 HX HB CF
  go_upto_region 2 with (fail)
  generalize w1.alloc (.cells #[.bool f1, .bool true, .bool f3, .bool f4, .bool f5] 126) = w2 at S ⊢
  generalize w1.heap.size = g1 at S ⊢
  obtain ⟨x0, x1, x2, x3, x4, x5, x6, x7, x8, x9, x10, x11⟩ := box_cm S.out.1
  obtain ⟨y0, y1, y2, y3, y4⟩ := box_mg S.out.2.1
  cases f6
  ·have HF := h! (HNO.out (fun h => by cases h.1))
   clear HNO HYES C1 C2 C3 C4 C5 C6 C7 HD1 HD2 HD3 HD4 HD5 HD6 HD7
   go_wp2_with fail
   go_ret
   exact ⟨ret_int HF.out, S.out.2.2⟩
  go_wp2_with fail
  refine (C1.out _ S.out.2.2).mono ?_
  rintro e w3 ⟨rfl, hb2⟩
  replace S := h! (S.out.below hb2)
  clear hb2 x0 x1 x2 x3 x4 x5 x6 x7 x8 x9 x10 x11 y0 y1 y2 y3 y4
  obtain ⟨x0, x1, x2, x3, x4, x5, x6, x7, x8, x9, x10, x11⟩ := box_cm S.out.1
  obtain ⟨y0, y1, y2, y3, y4⟩ := box_mg S.out.2.1
  cases b1
  ·have HF := h! (HNO.out (fun h => by have := HD1.out.2 h.2.1; cases this))
   clear HNO HYES C2 C3 C4 C5 C6 C7 HD1 HD2 HD3 HD4 HD5 HD6 HD7
   go_wp2_with fail
   go_ret
   exact ⟨ret_int HF.out, S.out.2.2⟩
  go_wp2_with fail
  refine (C2.out _ S.out.2.2).mono ?_
  rintro e w4 ⟨rfl, rfl⟩
  cases b2
  ·have HF := h! (HNO.out (fun h => by have := HD2.out.2 h.2.2.1; cases this))
   clear HNO HYES C3 C4 C5 C6 C7 HD1 HD2 HD3 HD4 HD5 HD6 HD7
   go_wp2_with fail
   go_ret
   exact ⟨ret_int HF.out, S.out.2.2⟩
  go_wp2_with fail
  refine (C3.out _).mono ?_
  rintro e w4 ⟨rfl, rfl⟩
  cases b3
  ·have HF := h! (HNO.out (fun h => by have := HD3.out.2 h.2.2.2.1; cases this))
   clear HNO HYES C4 C5 C6 C7 HD1 HD2 HD3 HD4 HD5 HD6 HD7
   go_wp2_with fail
   go_ret
   exact ⟨ret_int HF.out, S.out.2.2⟩
  go_wp2_with fail
  refine (C4.out _).mono ?_
  rintro e w4 ⟨rfl, rfl⟩
  cases b4
  ·have HF := h! (HNO.out (fun h => by have := HD4.out.2 h.2.2.2.2.1; cases this))
   clear HNO HYES C5 C6 C7 HD1 HD2 HD3 HD4 HD5 HD6 HD7
   go_wp2_with fail
   go_ret
   exact ⟨ret_int HF.out, S.out.2.2⟩
  go_wp2_with fail
  refine (C5.out _).mono ?_
  rintro e w4 ⟨rfl, rfl⟩
  cases b5
  ·have HF := h! (HNO.out (fun h => by have := HD5.out.2 h.2.2.2.2.2.1; cases this))
   clear HNO HYES C6 C7 HD1 HD2 HD3 HD4 HD5 HD6 HD7
   go_wp2_with fail
   go_ret
   exact ⟨ret_int HF.out, S.out.2.2⟩
  go_wp2_with fail
  refine (C6.out _).mono ?_
  rintro e w4 ⟨rfl, rfl⟩
  cases b6
  ·have HF := h! (HNO.out (fun h => by have := HD6.out.2 h.2.2.2.2.2.2.1; cases this))
   clear HNO HYES C7 HD1 HD2 HD3 HD4 HD5 HD6 HD7
   go_wp2_with fail
   go_ret
   exact ⟨ret_int HF.out, S.out.2.2⟩
  go_wp2_with fail
  refine (C7.out _).mono ?_
  rintro e w4 ⟨rfl, rfl⟩
  cases b7
  ·have HF := h! (HNO.out (fun h => by have := HD7.out.2 h.2.2.2.2.2.2.2; cases this))
   clear HNO HYES  HD1 HD2 HD3 HD4 HD5 HD6 HD7
   go_wp2_with fail
   go_ret
   exact ⟨ret_int HF.out, S.out.2.2⟩
  have HF := h! (HYES.out ⟨(by simp), HD1.out.1 (by simp), HD2.out.1 (by simp), HD3.out.1 (by simp), HD4.out.1 (by simp), HD5.out.1 (by simp), HD6.out.1 (by simp), HD7.out.1 (by simp)⟩)
  clear HNO HYES HD1 HD2 HD3 HD4 HD5 HD6 HD7
  go_wp2_with fail
  go_ret
  exact ⟨ret_int HF.out, S.out.2.2⟩
end Go.Proofs.YteebeiaokfenmaaGreat.CP
