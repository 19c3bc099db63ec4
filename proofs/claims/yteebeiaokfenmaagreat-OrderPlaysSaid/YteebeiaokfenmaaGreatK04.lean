/-
  What num.appendNumber does: a number's bytes behind a slice. Conditions: as each theorem says.
  What num.Get does: for whatever bytes it answers what the plain function dec says, and writes nothing. Conditions: the slice reads as bytes.
  The document's own SameInts (towncrierref01) of two lists of the same ints. Conditions: the slices read as ints.
  Words for walks over members (no function): answers written in another form.
  What slices.Equal of two lists of ints answers. Conditions: the slices read as ints.
  Words for memory: slices of texts. No program.
  A command in memory: twelve cells by value, two of them slices of ints. No walk, no program.
  Rows of structs of s cells: what they read as, append of whatever slice onto a row of the call's own, flat lists of cells (parted from AttRow, AttMem, DecMem, DecG). No walk, no program.
  cmp.Compare and cmp.Or of ints. Conditions: as each theorem says.
  Bytes that lie ahead of a variable's block. No program.
-/
import Derived.Test.YteebeiaokfenmaaGreatK01
import Derived.Test.YteebeiaokfenmaaGreatRows
import Derived.Test.YteebeiaokfenmaaGreatK02
import Derived.Outline
import Derived.Test.YteebeiaokfenmaaGreatProg
import Derived.Deep.QuietTactic
import Derived.BigQuiet
import Derived.Lib.Hide
import Derived.WalkKit
import Derived.IntWalk
import Derived.Lib.Walk
import Derived.SliceStrings
import Derived.Test.YteebeiaokfenmaaGreatK03
import Derived.Laws.OwnMore
import Derived.Deep.AppendSrc
import Derived.Deep.RegionLaw
namespace Go.Proofs.YteebeiaokfenmaaGreat
open Go.RowKit
set_option linter.unusedVariables false
set_option maxRecDepth 100000
theorem info_u8 : (Tryz.prog.info? 5).map (fun i => (i.zero, i.size, i.bytes)) = some (some (.int .u8 0), 1, 1) := by kernel_rfl
theorem info_int : (Tryz.prog.info? 3).map (fun i => (i.zero, i.size, i.bytes)) = some (some (.int .i64 0), 1, 8) := by kernel_rfl
set_option maxHeartbeats 400000 in
theorem appendNumber_any (base : Nat) (v : Value) (len : Nat) (xs : List Value) (n : Nat) (w : World) (hn : n ≤ 1099511627776) (hlen : len ≤ 1000000) (hown : w.ownsRow base 5 1 v len xs) (hbase : base ≤ w.heap.size) :
  Calls Tryz.prog 94 #[v, .int .i64 n] w fun e w' => ∃ v', e = .returned v' ∧ w'.ownsRow base 5 1 v' (len + (NM.enc n).length) (xs ++ bc (NM.enc n)) ∧ w.grownBy w' v.ownBlock ∧
   (v'.ownBlock = v.ownBlock ∨ ∀ g, v'.ownBlock = some g → w.heap.size ≤ g) := by
 obtain ⟨i0, hi, hz0, hz1, hz2⟩ := info_parts info_u8
 go_enter Tryz.func94, Tryz.ntmps94
 go_wp2
 go_loopw [0, 1] (fun u i wr => ∃ (f m : Nat) (pre : List UInt8), i = .int .i64 m ∧ f + pre.length = 5 ∧ m < 128 ^ (f + 1) ∧ m ≤ n ∧ pre ++ NM.encF f m = NM.enc n ∧ wr.ownsRow base 5 1 u (len + pre.length) (xs ++ bc pre) ∧
   w.grownBy wr v.ownBlock ∧ (u.ownBlock = v.ownBlock ∨ ∀ g, u.ownBlock = some g → w.heap.size ≤ g)) (fun _ i _ => (intOf i).toNat)
 case atStart => exact ⟨5, n, [], rfl, rfl, by omega, Nat.le_refl _, rfl, by simpa [bc] using hown, World.grownBy.refl _ _, .inl rfl⟩
 case round =>
  obtain ⟨f, m, pre, rfl, hf, hm, hmn, hpre, hown1, hg, hob⟩ := hrel
  have hml : m < 9223372036854775808 := by omega
  have hbsz : base ≤ wr.heap.size := Nat.le_trans hbase hg.size
  by_cases hlt : 127 < m
  ·have hf1 : 0 < f := by
    rcases Nat.eq_zero_or_pos f with h0 | h0
    ·subst h0; simp at hm; omega
    ·exact h0
   obtain ⟨f, rfl⟩ : ∃ g, f = g + 1 := ⟨f - 1, by omega⟩
   have hm2 : m / 128 < 128 ^ (f + 1) := by rw [Nat.pow_succ] at hm; omega
   have hpre2 : (pre ++ [UInt8.ofNat (m % 128 + 128)]) ++ NM.encF f (m / 128) = NM.enc n := by
    rw [← hpre, NM.encF, if_neg (by omega)]; simp
   have hb1 := NB.and127 m hml
   have hb2 := NB.or128 (m % 128) (by omega)
   obtain ⟨y, hy⟩ : ∃ y, y = m % 128 + 128 := ⟨_, rfl⟩
   obtain ⟨x, hx⟩ : ∃ x, x = m % 128 := ⟨_, rfl⟩
   rw [← hx] at hb1 hb2
   rw [← hx] at hy
   rw [← hy] at hb2
   have hb3 : (y : Int) % 256 = y := by omega
   have hby : (UInt8.ofNat y).toNat = y := NM.toNat_ofNat y (by omega)
   have HM := h! hm2; clear hm2
   have HP := h! hpre2; clear hpre2 hpre
   have HX := h! hx; clear hx
   have HY := h! hy; clear hy
   have HB := h! hby; clear hby
   have HF := h! hf; clear hf hm
   have HO := h! hob; clear hob
   go_wp2_with (at_builtin; refine wpList_append_rd _ rfl _ _ 120 rfl base 5 i0 (.int .u8 0) 1 Tryz.underlying120 hi hz0 hz1 hz2 rfl _ _ _ rfl (hown1.alloc _) (some ⟨wr.heap.size, 0, none⟩) 1 1 [.int .u8 (y : Int)] rfl (rd_new _ _ _) (by intro u hu; simp at hu; subst hu; rfl) (by have := HF.out; unfold maxLen; omega) (by have := HF.out; omega) (by simp; omega) ?_; intro v2 w2 hown2 hg2 hob2)
   have hgA := grown_more (grown_alloc hg _) hg2 HO.out
   have hobA := ob_more HO.out hob2 (by have := hg.size; simp; omega)
   clear hg2 hob2
   go_roundw
   case rel =>
    refine ⟨f, m / 128, pre ++ [UInt8.ofNat y], ?_, by have := HF.out; simp; omega, HM.out, by omega, by rw [HY.out, HX.out]; exact HP.out, own_snoc hown2 HB.out, hgA, hobA⟩
    go_num
   case measure => simp [intOf]; omega
  ·go_wp2_with (at_builtin; refine wpList_append_rd _ rfl _ _ 120 rfl base 5 i0 (.int .u8 0) 1 Tryz.underlying120 hi hz0 hz1 hz2 rfl _ _ _ rfl (hown1.alloc _) (some ⟨wr.heap.size, 0, none⟩) 1 1 [.int .u8 (m : Int)] rfl (rd_new _ _ _) (by intro u hu; simp at hu; subst hu; rfl) (by unfold maxLen; omega) (by omega) (by simp; omega) ?_; intro v2 w2 hown2 hg2 hob2)
   have hgA := grown_more (grown_alloc hg _) hg2 hob
   have hobA := ob_more hob hob2 (by have := hg.size; simp; omega)
   go_ret
   have hme : NM.enc n = pre ++ [UInt8.ofNat m] := by
    rw [← hpre]
    cases f with
    | zero => rfl
    | succ f => rw [NM.encF, if_pos (by omega)]
   refine ⟨v2, rfl, ?_, hgA, hobA⟩
   rw [hme]
   exact own_snoc hown2 (NM.toNat_ofNat m (by omega))
end Go.Proofs.YteebeiaokfenmaaGreat

namespace Go.Proofs.YteebeiaokfenmaaGreat
open Go.RowKit
set_option linter.unusedVariables false
set_option maxRecDepth 100000
def getRes : Option (Nat × Nat) → Value
 | none => .tuple #[.int .i64 0, .int .i64 0, .int .i64 8]
 | some (n, k) => .tuple #[.int .i64 n, .int .i64 k, .int .i64 0]
set_option maxHeartbeats 1000000 in
theorem get_any (A : Option Addr) (n c : Nat) (l : List UInt8) (w : World) (hr : Rd w A n (bc l)) (hm : n ≤ maxLen) :
  Calls Tryz.prog 124 #[.slice A n c] w fun e w' => e = .returned (getRes (NM.dec l)) ∧ w = w' := by
 unfold maxLen at hm
 have hl : l.length = n := by have := hr.1; rwa [bc_length] at this
 have HL := h! hl; clear hl
 go_enter Tryz.func124, Tryz.ntmps124
 go_wp2
 go_loop [2, 3] (fun nv sv => ∃ k acc : Nat, k ≤ n ∧ k ≤ 6 ∧ sv = .int .i64 k ∧ nv = .int .i64 acc ∧ acc < 128 ^ k ∧ NM.lift acc k (NM.decR (6 - k) (l.drop k)) = NM.decR 6 l) (fun _ s => 6 - (intOf s).toNat)
 case atStart => exact ⟨0, 0, by omega, by omega, rfl, rfl, by simp, by rw [NM.lift_zero]; rfl⟩
 case round =>
  obtain ⟨k, acc, hk, hk6, rfl, rfl, hacc, hrel⟩ := hrel
  have HR := h! hrel; clear hrel
  by_cases hlt : k < n
  ·by_cases hlt6 : k < 6
   ·obtain ⟨ad, u, rfl, _, hu, hcell⟩ := hr.at_ hlt
    have hkl : k < l.length := by have := HL.out; omega
    rw [bc_get l k hkl] at hu
    injection hu with hu
    subst hu
    obtain ⟨p, hp⟩ : ∃ p, p = l[k].toNat := ⟨_, rfl⟩
    have hp256 : p < 256 := by rw [hp]; exact UInt8.toNat_lt _
    rw [← hp] at hcell
    have HP := h! hp; clear hp
    obtain ⟨x, hx⟩ : ∃ x, x = p % 128 := ⟨_, rfl⟩
    have hx128 : x < 128 := by omega
    obtain ⟨y, hy⟩ : ∃ y, y = 128 ^ k * x := ⟨_, rfl⟩
    obtain ⟨z, hz⟩ : ∃ z, z = acc + 128 ^ k * x := ⟨_, rfl⟩
    have hzs : z < 4398046511104 := by rw [hz]; exact NM.acc_small acc k x hacc hx128 hlt6
    have hb1 : bits .and .i64 (p : Int) 127 = (x : Int) := by rw [NB.and127 p (by omega), hx]
    have hb2 : wrap64 ((x : Int) * 2 ^ (7 * k)) = (y : Int) := by rw [NB.shl_wrap x k hx128 hlt6, hy]
    have hb3 : bits .or .i64 (acc : Int) (y : Int) = (z : Int) := by rw [hy, NB.or_add acc x k hacc hx128 hlt6, hz]
    have hb4 := NB.neq128 p hp256
    have hzl : z < 128 ^ (k + 1) := by rw [hz]; exact NM.acc_lt acc k x hacc hx128
    have HX := h! hx; clear hx
    have HY := h! hy; clear hy
    have HZ := h! hz; clear hz
    have HZL := h! hzl; clear hzl hacc
    by_cases h128 : 128 ≤ p
    ·have hb5 : (bits .and .i64 (p : Int) 128 != 0) = true := by rw [hb4]; simpa using h128
     clear hb4
     go_wp2
     go_round
     case rel =>
      refine ⟨k + 1, z, by omega, by omega, by go_num, rfl, HZL.out, ?_⟩
      have e := NM.step_more acc k l _ hkl hlt6 HR.out (by have := HP.out; omega)
      rw [← HP.out, ← HX.out, ← HZ.out] at e
      exact e
     case measure => simp [intOf]; omega
    ·have hb5 : (bits .and .i64 (p : Int) 128 != 0) = false := by rw [hb4]; simpa using h128
     clear hb4
     have hfin := NM.step_last acc k l hkl hlt6 HR.out (by have := HP.out; omega)
     rw [← HP.out, show p = x by have := HX.out; omega, ← HZ.out] at hfin
     have HFin := h! hfin; clear hfin
     by_cases hbig : 1099511627776 < z
     ·go_wp2
      go_ret3
      refine ⟨?_, rfl⟩
      rw [HFin.out, if_pos (Or.inr hbig)]; rfl
     ·have hbig' : z ≤ 1099511627776 := by omega
      by_cases hp0 : p = 0
      ·have hp0' : ((p : Int) == 0) = true := by simp [hp0]
       have HX0 : x = 0 := by have := HX.out; omega
       have HXH := h! HX0; clear HX0
       have HP0 := h! hp0; clear hp0
       by_cases hk0 : 0 < k
       ·go_wp2
        all_goals go_ret3
        all_goals refine ⟨?_, rfl⟩
        all_goals (rw [HFin.out, if_pos (Or.inl ⟨hk0, HXH.out⟩)]; rfl)
       ·go_wp2
        all_goals go_ret3
        all_goals refine ⟨?_, rfl⟩
        all_goals (rw [HFin.out, if_neg (by omega)]; rfl)
      ·have hp0' : ((p : Int) == 0) = false := by simp [hp0]
       have HXH : x ≠ 0 := by have := HX.out; omega
       go_wp2
       all_goals go_ret3
       all_goals refine ⟨?_, rfl⟩
       all_goals (rw [HFin.out, if_neg (by omega)]; rfl)
   ·have hfin := NM.step_end acc k l (by omega) hk6 HR.out
    have HFin := h! hfin; clear hfin
    go_wp2
    go_ret3
    refine ⟨?_, rfl⟩
    rw [HFin.out]; rfl
  ·have hfin := NM.step_end acc k l (by have := HL.out; omega) hk6 HR.out
   have HFin := h! hfin; clear hfin
   go_wp2
   go_ret3
   refine ⟨?_, rfl⟩
   rw [HFin.out]; rfl
end Go.Proofs.YteebeiaokfenmaaGreat

namespace Go.Proofs.YteebeiaokfenmaaGreat
open Go.RowKit
set_option linter.unusedVariables false
set_option maxRecDepth 100000
end Go.Proofs.YteebeiaokfenmaaGreat

namespace Go.Proofs.YteebeiaokfenmaaGreat
open Go.RowKit
theorem ret_int {k : IntKind} {a b : Int} (h : a = b) : Ending.returned (.int k a) = .returned (.int k b) := by rw [h]
theorem ret_eq {a b : Bool} (h : a = b) : Ending.returned (.bool a) = .returned (.bool b) := by rw [h]
end Go.Proofs.YteebeiaokfenmaaGreat

namespace Go.Proofs.YteebeiaokfenmaaGreat
open Go.RowKit
set_option linter.unusedVariables false
set_option maxRecDepth 100000
def BoolQ (b : Bool) (w : World) (e : Ending) (w' : World) : Prop := e = .returned (.bool b) ∧ ∃ q, w' = w.drewN q
theorem take_snoc_eq {α : Type} {xs ys : List α} {k : Nat} {a b : α} (h : xs.take k = ys.take k) (h1 : xs[k]? = some a) (h2 : ys[k]? = some b) (e : a = b) : xs.take (k + 1) = ys.take (k + 1) := by
 have g1 := List.getElem?_eq_some_iff.1 h1
 have g2 := List.getElem?_eq_some_iff.1 h2
 obtain ⟨l1, g1⟩ := g1
 obtain ⟨l2, g2⟩ := g2
 rw [List.take_succ_eq_append_getElem l1, List.take_succ_eq_append_getElem l2, h, g1, g2, e]
theorem ne_of_at {α : Type} {xs ys : List α} {k : Nat} {a b : α} (h1 : xs[k]? = some a) (h2 : ys[k]? = some b) (e : a ≠ b) : xs ≠ ys := fun h => e (by rw [h, h2] at h1; injection h1 with h1; exact h1.symm)
theorem ic_at {zs : List Int} {k : Nat} {u : Value} (h : (ic zs)[k]? = some u) : ∃ z, zs[k]? = some z ∧ u = .int .i64 z := by
 simp only [ic, List.getElem?_map, Option.map_eq_some_iff] at h
 obtain ⟨z, h1, h2⟩ := h
 exact ⟨z, h1, h2.symm⟩
set_option maxHeartbeats 1000000 in
theorem equalI_any (A : Option Addr) (n c : Nat) (xs : List Int) (B : Option Addr) (m d : Nat) (ys : List Int) (w : World) (h1 : Rd w A n (ic xs)) (h2 : Rd w B m (ic ys)) (hm : n ≤ 9223372036854775807) (hm2 : m ≤ 9223372036854775807) :
  Calls Tryz.prog 89 #[.slice A n c, .slice B m d] w (BoolQ (decide (xs = ys)) w) := by
 have l1 : xs.length = n := by have := h1.1; rwa [ic_length] at this
 have l2 : ys.length = m := by have := h2.1; rwa [ic_length] at this
 obtain ⟨r, hr⟩ : ∃ r, r = decide (xs = ys) := ⟨_, rfl⟩
 rw [← hr]
 have HR := h! hr; clear hr
 by_cases hnm : n = m
 ·subst hnm
  have HL1 := h! l1
  have HL2 := h! l2
  clear l1 l2
  have hne : ((n : Int) != (n : Int)) = false := by simp
  have HS := h! (show xs.take 0 = ys.take 0 by simp)
  go_enter Tryz.func89, Tryz.ntmps89
  go_wp2
  go_loopw [13] (fun i wr => ∃ k q : Nat, k ≤ n ∧ i = .int .i64 k ∧ wr = w.drewN q ∧ Hid (xs.take k = ys.take k)) (fun i _ => n - (intOf i).toNat)
  case atStart => exact ⟨0, 0, by omega, rfl, rfl, HS⟩
  case round =>
   clear HS
   obtain ⟨k, q, hk, rfl, rfl, HT⟩ := hrel
   by_cases hlt : k < n
   ·obtain ⟨ad1, u1, rfl, _, hu1, hcell1⟩ := h1.at_ hlt
    obtain ⟨ad2, u2, rfl, _, hu2, hcell2⟩ := h2.at_ hlt
    obtain ⟨z1, e1, rfl⟩ := ic_at hu1
    obtain ⟨z2, e2, rfl⟩ := ic_at hu2
    have hk0 : (0 : Int) ≤ (k : Int) := by omega
    have hkn : (k : Int) < (n : Int) := by omega
    clear hu1 hu2
    by_cases he : z1 = z2
    ·subst he
     have HT2 := h! (take_snoc_eq HT.out e1 e2 rfl)
     clear e1 e2 HT
     have hbz : (z1 != z1) = false := by simp
     go_wp2_with fail
     go_quiet (fail)
     go_wp2_with fail
     go_roundw
     case rel => exact ⟨k + 1, q + nq, by omega, by go_num, by simp, HT2⟩
     case measure => simp [intOf]; omega
    ·have HN := h! (ne_of_at e1 e2 he)
     have hbz : (z1 != z2) = true := by simpa using he
     clear e1 e2 HT he
     go_wp2_with fail
     go_quiet (fail)
     go_wp2_with fail
     go_ret
     exact ⟨by rw [HR.out]; simp [HN.out], q + nq, by simp⟩
   ·obtain rfl : n = k := by omega
    have ht : xs = ys := by
     have := HT.out
     rwa [List.take_of_length_le (by have := HL1.out; omega), List.take_of_length_le (by have := HL2.out; omega)] at this
    have HE := h! ht; clear ht HT
    go_wp2
    go_ret
    exact ⟨by rw [HR.out]; simp [HE.out], q, rfl⟩
 ·have hne : ((n : Int) != (m : Int)) = true := by simp; omega
  have hn : ¬ xs = ys := fun e => hnm (by rw [← l1, ← l2, e])
  have hf : r = false := by rw [HR.out]; simpa using hn
  have HF := h! hf
  clear hn hf
  clear l1 l2 h1 h2
  go_enter Tryz.func89, Tryz.ntmps89
  go_wp2
  go_ret
  exact ⟨by rw [HF.out]; rfl, 0, rfl⟩
end Go.Proofs.YteebeiaokfenmaaGreat

namespace Go.Proofs.YteebeiaokfenmaaGreat
open Go.RowKit
def sc (l : List (List UInt8)) : List Value := l.map fun s => Value.string ⟨s.toArray⟩
theorem sc_length (l : List (List UInt8)) : (sc l).length = l.length := by simp [sc]
theorem sc_one (l : List (List UInt8)) : ∀ u ∈ sc l, u.oneCell' = true := by
 intro u hu
 simp only [sc, List.mem_map] at hu
 obtain ⟨b, _, rfl⟩ := hu
 rfl
theorem sc_get (l : List (List UInt8)) (k : Nat) (h : k < l.length) : (sc l)[k]? = some (.string ⟨l[k].toArray⟩) := by simp [sc, h]
def IsTexts (w : World) (a : Option Addr) (len cap : Nat) (ss : List ByteArray) : Prop :=
 (a = none ∧ len = 0 ∧ cap = 0 ∧ ss = []) ∨
 ∃ x, a = some x ∧ len ≤ cap ∧ cap ≤ maxLen ∧ ss.length = cap ∧ (∀ i, i < ss.length → w.cell? (x.add i) = some (.string (ss.getD i ByteArray.empty))) ∧ ∀ s ∈ ss, s.size ≤ maxLen
def textsOf (ss : List ByteArray) (len : Nat) : List (List UInt8) := (ss.take len).map fun s => s.data.toList
theorem IsTexts.len_le {w : World} {a : Option Addr} {len cap : Nat} {ss : List ByteArray} (h : IsTexts w a len cap ss) : len ≤ cap ∧ cap ≤ maxLen ∧ ss.length = cap := by
 rcases h with ⟨rfl, rfl, rfl, rfl⟩ | ⟨x, rfl, h1, h2, h3, _⟩
 ·exact ⟨Nat.le_refl _, Nat.zero_le _, rfl⟩
 ·exact ⟨h1, h2, h3⟩
theorem IsTexts.texts {w : World} {a : Option Addr} {len cap : Nat} {ss : List ByteArray} (h : IsTexts w a len cap ss) : Rd w a len (sc (textsOf ss len)) := by
 rcases h with ⟨rfl, rfl, rfl, rfl⟩ | ⟨x, rfl, h1, h2, h3, hc, _⟩
 ·exact Rd.nil
 ·refine ⟨by simp [sc, textsOf]; omega, fun hn => ⟨x, rfl, ?_, fun j u hu => ?_⟩⟩
  ·have := cell_block (hc 0 (by omega)); rwa [block_of_add] at this
  ·unfold sc textsOf at hu
   rw [List.map_map, List.getElem?_map, List.getElem?_take] at hu
   split at hu
   ·rename_i hj
    have hjz : j < ss.length := by omega
    rw [hc j hjz]
    rw [List.getElem?_eq_getElem hjz] at hu
    simp at hu
    rw [← hu]
    simp [hjz]
   ·simp at hu
theorem IsTexts.small {w : World} {a : Option Addr} {len cap : Nat} {ss : List ByteArray} (h : IsTexts w a len cap ss) : ∀ t ∈ textsOf ss len, t.length ≤ maxLen := by
 intro t ht
 simp only [textsOf, List.mem_map] at ht
 obtain ⟨s, hs, rfl⟩ := ht
 have hm := List.mem_of_mem_take hs
 rcases h with ⟨rfl, rfl, rfl, rfl⟩ | ⟨x, rfl, _, _, _, _, hw⟩
 ·simp at hm
 ·have := hw s hm
  rw [Array.length_toList]
  exact this
end Go.Proofs.YteebeiaokfenmaaGreat

namespace Go.Proofs.YteebeiaokfenmaaGreat.CP
open Go.RowKit
open CM (Mg Cm)
set_option linter.unusedVariables false
set_option linter.unusedSimpArgs false
def BoolIs (b : Bool) (w : World) (e : Ending) (w' : World) : Prop := e = .returned (.bool b) ∧ Below w.heap.size w w'
theorem bool_ret {x y : Bool} {w w' : World} (h : y = x) (hb : Below w.heap.size w w') : BoolIs x w (.returned (.bool y)) w' := ⟨by rw [h], hb⟩
def i64In (n : Int) : Prop := -9223372036854775808 ≤ n ∧ n ≤ 9223372036854775807
def mcells (A : Option Addr) (c : Nat) (m : Mg) : Array Value := #[.int .i64 m.id, .slice A m.gs.length c, .int .i64 m.tp, .string m.key, .string m.body]
def ccells (A : Option Addr) (c : Nat) (B : Option Addr) (d : Nat) (x : Cm) : Array Value :=
 #[.int .u8 x.k, .int .i64 x.m.id, .slice A x.m.gs.length c, .int .i64 x.m.tp, .string x.m.key, .string x.m.body, .int .i64 x.id, .int .i64 x.tm, .slice B x.ms.length d, .int .i64 x.tp, .int .i64 x.wh, .int .i64 x.n]
def RowIs (w : World) (A : Option Addr) (c : Nat) (l : List Int) : Prop := Rd w A l.length (ic l) ∧ l.length ≤ c ∧ c ≤ maxLen
def MgFit (m : Mg) : Prop := i64In m.id ∧ i64In m.tp ∧ m.key.size ≤ maxLen ∧ m.body.size ≤ maxLen
def CmFit (x : Cm) : Prop := (0 ≤ x.k ∧ x.k ≤ 255) ∧ MgFit x.m ∧ i64In x.id ∧ i64In x.tm ∧ i64In x.tp ∧ i64In x.wh ∧ i64In x.n
def MgIs (w : World) (v : Value) (m : Mg) : Prop := ∃ A c, v = .agg (mcells A c m) ∧ RowIs w A c m.gs
def CmIs (w : World) (v : Value) (x : Cm) : Prop := ∃ A c B d, v = .agg (ccells A c B d x) ∧ RowIs w A c x.m.gs ∧ RowIs w B d x.ms
theorem RowIs.below {w w' : World} {A : Option Addr} {c : Nat} {l : List Int} (h : RowIs w A c l) (hb : Below w.heap.size w w') : RowIs w' A c l := ⟨h.1.below hb, h.2⟩
theorem MgIs.below {w w' : World} {v : Value} {m : Mg} (h : MgIs w v m) (hb : Below w.heap.size w w') : MgIs w' v m := by
 obtain ⟨A, c, e, h1⟩ := h
 exact ⟨A, c, e, h1.below hb⟩
theorem CmIs.below {w w' : World} {v : Value} {x : Cm} (h : CmIs w v x) (hb : Below w.heap.size w w') : CmIs w' v x := by
 obtain ⟨A, c, B, d, e, h1, h2⟩ := h
 exact ⟨A, c, B, d, e, h1.below hb, h2.below hb⟩
theorem RowIs.none (w : World) : RowIs w none 0 [] := ⟨⟨rfl, fun h => absurd h (Nat.lt_irrefl 0)⟩, Nat.le_refl _, by unfold maxLen; omega⟩
theorem zero_is (w : World) : CmIs w (.agg #[.int .u8 0, .int .i64 0, .slice none 0 0, .int .i64 0, .string .empty, .string .empty, .int .i64 0, .int .i64 0, .slice none 0 0, .int .i64 0, .int .i64 0, .int .i64 0]) CM.zero := ⟨none, 0, none, 0, rfl, RowIs.none w, RowIs.none w⟩
theorem mz_is (w : World) : MgIs w (.agg #[.int .i64 0, .slice none 0 0, .int .i64 0, .string .empty, .string .empty]) CM.mz := ⟨none, 0, rfl, RowIs.none w⟩
theorem box_cm {w : World} {g : Nat} {t : TypeId} {a0 a1 a2 a3 a4 a5 a6 a7 a8 a9 a10 a11 : Value} (h : Box w g t #[a0, a1, a2, a3, a4, a5, a6, a7, a8, a9, a10, a11]) :
  w.cell? ⟨g, 0, none⟩ = some a0 ∧ w.cell? ⟨g, 1, none⟩ = some a1 ∧ w.cell? ⟨g, 2, none⟩ = some a2 ∧ w.cell? ⟨g, 3, none⟩ = some a3 ∧ w.cell? ⟨g, 4, none⟩ = some a4 ∧ w.cell? ⟨g, 5, none⟩ = some a5 ∧
   w.cell? ⟨g, 6, none⟩ = some a6 ∧ w.cell? ⟨g, 7, none⟩ = some a7 ∧ w.cell? ⟨g, 8, none⟩ = some a8 ∧ w.cell? ⟨g, 9, none⟩ = some a9 ∧ w.cell? ⟨g, 10, none⟩ = some a10 ∧ w.cell? ⟨g, 11, none⟩ = some a11 :=
 ⟨h.cell 0, h.cell 1, h.cell 2, h.cell 3, h.cell 4, h.cell 5, h.cell 6, h.cell 7, h.cell 8, h.cell 9, h.cell 10, h.cell 11⟩
theorem box_mg {w : World} {g : Nat} {t : TypeId} {a b c d e : Value} (h : Box w g t #[a, b, c, d, e]) :
  w.cell? ⟨g, 0, none⟩ = some a ∧ w.cell? ⟨g, 1, none⟩ = some b ∧ w.cell? ⟨g, 2, none⟩ = some c ∧ w.cell? ⟨g, 3, none⟩ = some d ∧ w.cell? ⟨g, 4, none⟩ = some e :=
 ⟨h.cell 0, h.cell 1, h.cell 2, h.cell 3, h.cell 4⟩
end Go.Proofs.YteebeiaokfenmaaGreat.CP

namespace Go.Proofs.YteebeiaokfenmaaGreat
open Go.RowKit
set_option linter.unusedVariables false
set_option linter.unusedSimpArgs false
theorem own_below3 {w w' : World} {base s : Nat} {e : TypeId} {v : Value} {n : Nat} {xs : List Value} (h : w.ownsRow base e s v n xs) (hb : Below w.heap.size w w') : w'.ownsRow base e s v n xs := by
 refine ⟨h.1, ?_⟩
 rcases h.2 with h0 | ⟨g, cap, cur, hv, hbg, hg, hrest⟩
 ·exact .inl h0
 ·have hlt : g < w.heap.size := by
   rcases Nat.lt_or_ge g w.heap.size with hlt | hge
   ·exact hlt
   ·rw [Array.getElem?_eq_none hge] at hg; cases hg
  exact .inr ⟨g, cap, cur, hv, hbg, (hb.block g hlt).trans hg, hrest⟩
theorem own_base {w : World} {base base' s : Nat} {e : TypeId} {v : Value} {n : Nat} {xs : List Value} (h : w.ownsRow base e s v n xs) (hb : base' ≤ base) : w.ownsRow base' e s v n xs := by
 refine ⟨h.1, ?_⟩
 rcases h.2 with h0 | ⟨g, cap, cur, hv, hbg, hrest⟩
 ·exact .inl h0
 ·exact .inr ⟨g, cap, cur, hv, Nat.le_trans hb hbg, hrest⟩
theorem own_form {w : World} {base s : Nat} {e : TypeId} {v : Value} {n : Nat} {xs : List Value} (h : w.ownsRow base e s v n xs) :
  ∃ A c, v = .slice A n c ∧ n ≤ c ∧ c ≤ maxLen := by
 rcases h.2 with ⟨rfl, rfl⟩ | ⟨g, cap, cur, rfl, _, _, hnc, hcm, _⟩
 ·exact ⟨none, 0, rfl, Nat.le_refl _, Nat.zero_le _⟩
 ·exact ⟨_, cap, rfl, hnc, hcm⟩
def RdG (w : World) (s : Nat) (A : Option Addr) (m : Nat) (xs : List Value) : Prop :=
 xs.length = m * s ∧ (0 < m → ∃ ad, A = some ad ∧ ad.block < w.heap.size ∧ ∀ j u, xs[j]? = some u → w.cell? (ad.add j) = some u)
theorem Rd.g {w : World} {A : Option Addr} {m : Nat} {xs : List Value} (h : Rd w A m xs) : RdG w 1 A m xs := ⟨by rw [h.1]; omega, h.2⟩
theorem RdG.below {w w' : World} {s m : Nat} {A : Option Addr} {xs : List Value} (h : RdG w s A m xs) (hb : Below w.heap.size w w') : RdG w' s A m xs :=
 ⟨h.1, fun hn => by
  obtain ⟨ad, e, hB, hc⟩ := h.2 hn
  exact ⟨ad, e, Nat.lt_of_lt_of_le hB hb.size, fun j u hu => (hb.cell (by rw [block_of_add]; exact hB)).trans (hc j u hu)⟩⟩
theorem RdG.alloc {w : World} {s m : Nat} {A : Option Addr} {xs : List Value} (h : RdG w s A m xs) (o : Obj) : RdG (w.alloc o) s A m xs := h.below ((Below.refl _ _).alloc n! o)
theorem rdG_box {w : World} {g n s : Nat} {t : TypeId} {cs : Array Value} {xs : List Value} (h : Box w g t cs) (hx : cs.toList = xs) (hn : xs.length = n * s) : RdG w s (some ⟨g, 0, none⟩) n xs := by
 refine ⟨hn, fun _ => ⟨_, rfl, h.lt, fun j u hu => ?_⟩⟩
 have : (⟨g, 0, none⟩ : Addr).add j = ⟨g, j, none⟩ := by unfold Addr.add; split <;> simp_all
 rw [this, h.cell j, ← hu, ← hx]
 simp
theorem run_append_g {P : Program} (w : World) (base : Nat) (t ty e : TypeId) (i : TypeInfo) (z : Value) (s bytes : Nat) (ht : P.underlying t = some (.slice e)) (hi : P.info? e = some i) (hz : i.zero = some z)
  (hsize : i.size = s) (hby : i.bytes = bytes) (hzs : z.cells.size = s) (hsz : 0 < s)
  (v : Value) (n : Nat) (xs : List Value) (hown : w.ownsRow base e s v n xs)
  (A : Option Addr) (m c : Nat) (news : List Value) (hr : RdG w s A m news) (h1 : ∀ u ∈ news, u.oneCell' = true)
  (h63 : n + m ≤ maxLen) (hbytes : (n + m) * bytes ≤ 140737488355328) (hbase : base ≤ w.heap.size) :
  ∃ v' w', (Builtin.append_ #[t, t] ty #[v, .slice A m c]).run P w = .ok v' w' ∧ w'.ownsRow base e s v' (n + m) (xs ++ news) ∧ w.grownBy w' v.ownBlock ∧
   (v'.ownBlock = v.ownBlock ∨ v'.ownBlock = some w.heap.size) := by
 rcases A with _ | ad
 ·have hm : m = 0 := by
   rcases Nat.eq_zero_or_pos m with h0 | h0
   ·exact h0
   ·obtain ⟨ad, h, _⟩ := hr.2 h0; cases h
  subst hm
  have hn : news = [] := List.eq_nil_of_length_eq_zero (by rw [hr.1]; omega)
  subst hn
  refine ⟨v, w, ?_, by simpa using hown, World.grownBy.refl w _, .inl rfl⟩
  rcases hown.2 with ⟨rfl, rfl⟩ | ⟨g, cap, cur, rfl, _, _, hnc, _⟩
  ·simp [Builtin.append_, run_underlying ht, sizeOf, typeInfo, hi, Builtin.lenOf, Builtin.firstCells]
  ·simp [Builtin.append_, run_underlying ht, sizeOf, typeInfo, hi, Builtin.lenOf, Builtin.firstCells, hnc, storeCells]
 ·have hcells : ∀ j u, news[j]? = some u → w.cell? (ad.add j) = some u := by
   intro j u hu
   rcases Nat.eq_zero_or_pos m with h0 | h0
   ·subst h0
    have hn : news = [] := List.eq_nil_of_length_eq_zero (by rw [hr.1]; omega)
    subst hn
    simp at hu
   ·obtain ⟨ad', h, _, hc⟩ := hr.2 h0
    injection h with h
    subst h
    exact hc j u hu
  obtain ⟨v', w', hrun, h2, h3, _, h5⟩ := run_append_own_at (P := P) w base t ty e i z s bytes ht hi hz hsize hby hzs hsz v n xs hown ad m c news hr.1 hcells h1 h63 hbytes hbase
  exact ⟨v', w', hrun, h2, h3, h5⟩
theorem wpList_append_g {P : Program} (w : World) {ops : Array Oper} {rest : List Oper} {o : Oper} {a : Act} {Q : Exit → Act → World → Prop} (hgd : o.guard = none) (so x : Operand) (t : TypeId)
  (ho : o.op = .call { callee := .builtin .append, args := #[so, x], argTypes := #[t, t] })
  (base : Nat) (e : TypeId) (i : TypeInfo) (z : Value) (s bytes : Nat) (ht : P.underlying t = some (.slice e)) (hi : P.info? e = some i) (hz : i.zero = some z)
  (hsize : i.size = s) (hby : i.bytes = bytes) (hzs : z.cells.size = s) (hsz : 0 < s)
  (v : Value) (n : Nat) (xs : List Value) (hs : a.eval so = v) (hown : w.ownsRow base e s v n xs)
  (A : Option Addr) (m c : Nat) (news : List Value) (hx : a.eval x = .slice A m c) (hr : RdG w s A m news) (h1 : ∀ u ∈ news, u.oneCell' = true)
  (h63 : n + m ≤ maxLen) (hbytes : (n + m) * bytes ≤ 140737488355328) (hbase : base ≤ w.heap.size)
  (h : ∀ v' w', w'.ownsRow base e s v' (n + m) (xs ++ news) → w.grownBy w' v.ownBlock → (v'.ownBlock = v.ownBlock ∨ v'.ownBlock = some w.heap.size) → wpList P ops Q rest (a.put o.dst v') w') : wpList P ops Q (o :: rest) a w := by
 refine wpList_plain hgd fun K hK => ?_
 obtain ⟨v', w', hrun, h2, h3, h4⟩ := run_append_g (P := P) w base t o.type e i z s bytes ht hi hz hsize hby hzs hsz v n xs hown A m c news hr h1 h63 hbytes hbase
 unfold Oper.wp execOp
 simp only [ho, resolve, invoke, builtin, Sem.run_bind, Sem.run_pure, Result.andThen_ok, List.map_toArray, List.map_cons, List.map_nil, hs, hx, hrun]
 exact hK _ _ (h v' w' h2 h3 h4)
theorem own_block {w : World} {base s n g : Nat} {e : TypeId} {v : Value} {xs : List Value} (h : w.ownsRow base e s v n xs) (hg : v.ownBlock = some g) : base ≤ g ∧ ∃ cur, Box w g e cur := by
 rcases h.2 with ⟨rfl, _⟩ | ⟨g', cap, cur, rfl, hb, hx, _⟩
 ·cases hg
 ·injection hg with hg
  subst hg
  exact ⟨hb, cur, hx⟩
theorem below_row {w0 w w' : World} {base s n : Nat} {e : TypeId} {v : Value} {xs : List Value} (hb : Below base w0 w) (h : w.ownsRow base e s v n xs) (hB : base ≤ w.heap.size) (hg : w.grownBy w' v.ownBlock) : Below base w0 w' :=
 hb.grown hg hB fun g hgu => (own_block h hgu).1
theorem Box.grown {w w' : World} {g : Nat} {t : TypeId} {cs : Array Value} {r : Option Nat} (h : Box w g t cs) (hg : w.grownBy w' r) (hr : some g ≠ r) : Box w' g t cs := (hg.block g h.lt hr).trans h
theorem own_grown {w w' : World} {base s n : Nat} {e : TypeId} {v : Value} {xs : List Value} {r : Option Nat} (h : w.ownsRow base e s v n xs) (hg : w.grownBy w' r) (hr : ∀ g, v.ownBlock = some g → some g ≠ r) : w'.ownsRow base e s v n xs := by
 refine ⟨h.1, ?_⟩
 rcases h.2 with h0 | ⟨g, cap, cur, rfl, hb, hx, hrest⟩
 ·exact .inl h0
 ·exact .inr ⟨g, cap, cur, rfl, hb, Box.grown hx hg (hr g rfl), hrest⟩
def flat {α : Type} (f : α → List Value) (l : List α) : List Value := l.flatMap f
section
variable {α : Type} {f : α → List Value} {s : Nat}
theorem flat_cons (a : α) (l : List α) : flat f (a :: l) = f a ++ flat f l := rfl
theorem flat_append (l r : List α) : flat f (l ++ r) = flat f l ++ flat f r := by simp [flat]
theorem flat_one (a : α) : flat f [a] = f a := by simp [flat]
theorem flat_length : ∀ {l : List α}, (∀ a ∈ l, (f a).length = s) → (flat f l).length = l.length * s
 | [], _ => by simp [flat]
 | a :: l, h => by
  rw [flat_cons, List.length_append, h a (List.mem_cons_self ..), flat_length (fun b hb => h b (List.mem_cons_of_mem _ hb)), List.length_cons, Nat.add_mul, Nat.one_mul, Nat.add_comm]
theorem flat_get : ∀ {l : List α} {k : Nat} {a : α}, (∀ a ∈ l, (f a).length = s) → l[k]? = some a → ∀ j, j < s → (flat f l)[k * s + j]? = (f a)[j]?
 | [], k, a, _, h, j, _ => by simp at h
 | b :: l, 0, a, hf, h, j, hj => by
  simp at h; subst h
  have := hf b (List.mem_cons_self ..)
  rw [flat_cons, Nat.zero_mul, Nat.zero_add, List.getElem?_append_left (by omega)]
 | b :: l, k + 1, a, hf, h, j, hj => by
  have hb := hf b (List.mem_cons_self ..)
  have ih := flat_get (l := l) (k := k) (a := a) (fun b hb => hf b (List.mem_cons_of_mem _ hb)) (by simpa using h) j hj
  rw [flat_cons, Nat.add_mul, Nat.one_mul, List.getElem?_append_right (by omega), hb, ← ih]
  congr 1; omega
end
theorem one_flat {α : Type} {f : α → List Value} (h : ∀ a, ∀ u ∈ f a, u.oneCell' = true) (l : List α) : ∀ u ∈ flat f l, u.oneCell' = true := by
 intro u hu
 unfold flat at hu
 obtain ⟨a, _, hu⟩ := List.mem_flatMap.1 hu
 exact h a u hu
theorem step_append_h {P : Program} {ops : Array Oper} {o : Oper} {a : Act} {w : World} {K : Act → World → Prop} {Q : Exit → Act → World → Prop} {E : Prop}
  (hgd : o.guard = none) (so x : Operand) (t : TypeId)
  (ho : o.op = .call { callee := .builtin .append, args := #[so, x], argTypes := #[t, t] })
  (base : Nat) (e : TypeId) (i : TypeInfo) (z : Value) (s bytes : Nat) (ht : P.underlying t = some (.slice e)) (hi : P.info? e = some i) (hz : i.zero = some z)
  (hsize : i.size = s) (hby : i.bytes = bytes) (hzs : z.cells.size = s) (hsz : 0 < s)
  (v : Value) (n : Nat) (xs : List Value) (hs : a.eval so = v) (hown : w.ownsRow base e s v n xs)
  (A : Option Addr) (m c : Nat) (news : List Value) (hx : a.eval x = .slice A m c) (hr : RdG w s A m news) (h1 : ∀ u ∈ news, u.oneCell' = true)
  (h63 : n + m ≤ maxLen) (hbytes : (n + m) * bytes ≤ 140737488355328) (hbase : base ≤ w.heap.size)
  (hK : ∀ v' w', w'.ownsRow base e s v' (n + m) (xs ++ news) → w.grownBy w' v.ownBlock → (v'.ownBlock = v.ownBlock ∨ v'.ownBlock = some w.heap.size) → K (a.put o.dst v') w') :
  if Region.wanted o (yielded ops a.tmps) = true then Oper.wp P o a w K Q else E := by
 have hw : Region.wanted o (yielded ops a.tmps) = true := by simp [Region.wanted, hgd]
 rw [if_pos hw]
 obtain ⟨v', w', hrun, h2, h3, h4⟩ := run_append_g (P := P) w base t o.type e i z s bytes ht hi hz hsize hby hzs hsz v n xs hown A m c news hr h1 h63 hbytes hbase
 unfold Oper.wp execOp
 simp only [ho, resolve, invoke, builtin, Sem.run_bind, Sem.run_pure, Result.andThen_ok, List.map_toArray, List.map_cons, List.map_nil, hs, hx, hrun]
 exact hK _ _ h2 h3 h4
theorem own_some {w : World} {base s n c : Nat} {e : TypeId} {A : Option Addr} {xs : List Value} (h : w.ownsRow base e s (.slice A n c) n xs) (hn : 0 < n) : ∃ q, A = some ⟨q, 0, none⟩ ∧ base ≤ q ∧ ∀ j u, xs[j]? = some u → w.cell? ⟨q, j, none⟩ = some u := by
 obtain ⟨g, cap, hv, hb, hlt⟩ := h.form hn
 have hA : A = some ⟨g, 0, none⟩ := by injection hv
 subst hA
 refine ⟨g, rfl, hb, fun j u hu => ?_⟩
 have := h.cells (g := g) rfl j u hu
 rwa [show (⟨g, 0, none⟩ : Addr).add j = ⟨g, j, none⟩ by unfold Addr.add; split <;> simp_all] at this
structure Kept (S : TypeId → Prop) (a b : World) : Prop where
 os : b.os = a.os
 tape : b.tape = a.tape
 output : b.output = a.output
 size : a.heap.size ≤ b.heap.size
 box : ∀ (g : Nat) (e : TypeId) (cs : Array Value), ¬ S e → Box a g e cs → Box b g e cs
section
variable {S : TypeId → Prop} {a b c : World}
theorem Kept.trans (h : Kept S a b) (k : Kept S b c) : Kept S a c := ⟨k.os.trans h.os, k.tape.trans h.tape, k.output.trans h.output, Nat.le_trans h.size k.size, fun g e cs he hb => k.box g e cs he (h.box g e cs he hb)⟩
theorem Kept.of_below (h : Below a.heap.size a b) : Kept S a b := ⟨h.os, h.tape, h.output, h.size, fun g e cs _ hb => hb.below h hb.lt⟩
theorem Kept.set {g i : Nat} {e : TypeId} {cs : Array Value} (h : Box a g e cs) (he : S e) (u : Value) : Kept S a (a.setCell ⟨g, i, none⟩ u) := by
 have k : Below g a (a.setCell ⟨g, i, none⟩ u) := (Below.refl g a).setCell (p := ⟨g, i, none⟩) (Nat.le_refl g) u
 refine ⟨k.os, k.tape, k.output, k.size, fun g' e' cs' he' hb => hb.far (p := ⟨g, i, none⟩) (fun e2 => ?_) u⟩
 have e3 : g' = g := e2
 subst e3
 rw [Box] at h hb
 rw [h] at hb
 injection hb with hb
 injection hb with _ hb
 exact he' (hb ▸ he)
theorem Kept.grown {base s n : Nat} {e : TypeId} {v : Value} {xs : List Value} (h : a.ownsRow base e s v n xs) (he : S e) (hg : a.grownBy b v.ownBlock) : Kept S a b := by
 refine ⟨hg.os, hg.tape, hg.output, hg.size, fun g' e' cs' he' hb => hb.grown hg (fun e2 => ?_)⟩
 obtain ⟨_, cur, hx⟩ := own_block h e2.symm
 rw [Box] at hx hb
 rw [hx] at hb
 injection hb with hb
 injection hb with _ hb
 exact he' (hb ▸ he)
theorem Kept.own {base s n : Nat} {e : TypeId} {v : Value} {xs : List Value} (k : Kept S a b) (h : a.ownsRow base e s v n xs) (he : ¬ S e) : b.ownsRow base e s v n xs := by
 refine ⟨h.1, ?_⟩
 rcases h.2 with h0 | ⟨g, cap, cur, hv, hb, hx, hrest⟩
 ·exact .inl h0
 ·exact .inr ⟨g, cap, cur, hv, hb, k.box _ _ _ he hx, hrest⟩
theorem Kept.mono {S' : TypeId → Prop} (k : Kept S a b) (h : ∀ e, S e → S' e) : Kept S' a b := ⟨k.os, k.tape, k.output, k.size, fun g e cs he hb => k.box g e cs (fun hs => he (h e hs)) hb⟩
end
end Go.Proofs.YteebeiaokfenmaaGreat

namespace Go.Proofs.YteebeiaokfenmaaGreat.TP
open Go.RowKit
set_option linter.unusedVariables false
set_option linter.unusedSimpArgs false
set_option maxRecDepth 100000
theorem isnan_any (x : Int) (w : World) : Calls Tryz.prog 99 #[.int .i64 x] w fun e w' => e = .returned (.bool false) ∧ w = w' := by
 have h : ((x : Int) != x) = false := by simp
 go_enter Tryz.func99, Tryz.ntmps99
 go_wp2_with fail
 go_ret
 exact ⟨by simp, rfl⟩
set_option maxHeartbeats 1000000 in
theorem compare_any (a b : Int) (w : World) : Calls Tryz.prog 82 #[.int .i64 a, .int .i64 b] w fun e w' => e = .returned (.int .i64 (TM.cmpI a b)) ∧ w = w' := by
 obtain ⟨z, hz⟩ : ∃ z, z = TM.cmpI a b := ⟨_, rfl⟩
 rw [← hz]
 unfold TM.cmpI at hz
 rcases (show a < b ∨ (¬ a < b ∧ b < a) ∨ (¬ a < b ∧ ¬ b < a) by omega) with h1 | ⟨h1, h2⟩ | ⟨h1, h2⟩
 ·obtain rfl : z = -1 := by rw [hz, if_pos h1]
  clear hz
  go_enter Tryz.func82, Tryz.ntmps82
  go_wp2_with fail
  refine (isnan_any a w).mono ?_
  rintro e w1 ⟨rfl, rfl⟩
  go_wp2_with fail
  refine (isnan_any b w).mono ?_
  rintro e w1 ⟨rfl, rfl⟩
  go_wp2_with fail
  go_ret
  exact ⟨rfl, rfl⟩
 ·obtain rfl : z = 1 := by rw [hz, if_neg h1, if_pos h2]
  clear hz
  go_enter Tryz.func82, Tryz.ntmps82
  go_wp2_with fail
  refine (isnan_any a w).mono ?_
  rintro e w1 ⟨rfl, rfl⟩
  go_wp2_with fail
  refine (isnan_any b w).mono ?_
  rintro e w1 ⟨rfl, rfl⟩
  go_wp2_with fail
  go_ret
  exact ⟨rfl, rfl⟩
 ·obtain rfl : z = 0 := by rw [hz, if_neg h1, if_neg h2]
  clear hz
  go_enter Tryz.func82, Tryz.ntmps82
  go_wp2_with fail
  refine (isnan_any a w).mono ?_
  rintro e w1 ⟨rfl, rfl⟩
  go_wp2_with fail
  refine (isnan_any b w).mono ?_
  rintro e w1 ⟨rfl, rfl⟩
  go_wp2_with fail
  go_ret
  exact ⟨rfl, rfl⟩
set_option maxHeartbeats 1000000 in
theorem or_any (bl : Nat) (z y x : Int) (w : World) (h : Box w bl 3 #[.int .i64 z, .int .i64 y]) (hx : x = TM.orI z y) :
  Calls Tryz.prog 81 #[.slice (some ⟨bl, 0, none⟩) 2 2] w fun e w' => e = .returned (.int .i64 x) ∧ w = w' := by
 have c0 := h.cell 0
 have c1 := h.cell 1
 simp at c0 c1
 unfold TM.orI at hx
 have HX := h! hx
 clear h hx
 go_enter Tryz.func81, Tryz.ntmps81
 go_wp2_with fail
 go_loop [8] (fun i => ∃ k : Nat, k ≤ 2 ∧ i = .int .i64 k ∧ Hid ((1 ≤ k → z = 0) ∧ (2 ≤ k → y = 0))) (fun i => 2 - (intOf i).toNat)
 case atStart => exact ⟨0, by omega, rfl, h! ⟨by omega, by omega⟩⟩
 case round =>
  obtain ⟨k, hk, rfl, HK⟩ := hrel
  rcases (show k = 0 ∨ k = 1 ∨ k = 2 by omega) with rfl | rfl | rfl
  ·by_cases hz : z = 0
   ·have HZ := h! hz
    have hb : (z != 0) = false := by simp [hz]
    clear hz
    go_wp2_with fail
    go_round
    case rel => exact ⟨1, by omega, rfl, h! ⟨fun _ => HZ.out, by omega⟩⟩
    case measure => simp [intOf]
   ·have HZ := h! (show x = z by rw [HX.out, if_pos hz])
    have hb : (z != 0) = true := by simp [hz]
    clear hz
    go_wp2_with fail
    go_ret
    exact ⟨by rw [HZ.out]; rfl, rfl⟩
  ·have hz := HK.out.1 (by omega)
   by_cases hy : y = 0
   ·have HZ := h! (And.intro hz hy)
    have hb : (y != 0) = false := by simp [hy]
    clear hz hy
    go_wp2_with fail
    go_round
    case rel => exact ⟨2, by omega, rfl, h! ⟨fun _ => HZ.out.1, fun _ => HZ.out.2⟩⟩
    case measure => simp [intOf]
   ·have HZ := h! (show x = y by rw [HX.out, if_neg (fun h => h hz)])
    have hb : (y != 0) = true := by simp [hy]
    clear hy hz
    go_wp2_with fail
    go_ret
    exact ⟨by rw [HZ.out]; rfl, rfl⟩
  ·have HZ := h! (show x = 0 by rw [HX.out, if_neg (fun h => h (HK.out.1 (by omega)))]; exact HK.out.2 (by omega))
   go_wp2_with fail
   go_ret
   exact ⟨by rw [HZ.out]; rfl, rfl⟩
end Go.Proofs.YteebeiaokfenmaaGreat.TP

namespace Go.Proofs.YteebeiaokfenmaaGreat
open Go.RowKit
set_option linter.unusedVariables false
def Src (w : World) (g : Nat) (A : Option Addr) (n c : Nat) (l : List UInt8) : Prop := Rd w A n (bc l) ∧ n ≤ c ∧ c ≤ maxLen ∧ (∀ ad, A = some ad → 0 < n → ad.block < g)
theorem Src.below {w w' : World} {g : Nat} {A : Option Addr} {n c : Nat} {l : List UInt8} (h : Src w g A n c l) (hb : Below g w w') : Src w' g A n c l :=
 ⟨⟨h.1.1, fun hn => by
  obtain ⟨ad, e, hB, hc⟩ := h.1.2 hn
  exact ⟨ad, e, Nat.lt_of_lt_of_le hB hb.size, fun j u hu => (hb.cell (by rw [block_of_add]; exact h.2.2.2 ad e hn)).trans (hc j u hu)⟩⟩, h.2⟩
theorem Src.cut {w : World} {g : Nat} {A : Option Addr} {n c k : Nat} {l : List UInt8} (h : Src w g A n c l) (hk : k ≤ n) : Src w g (if c = k then A else A.map (fun x => x.add k)) (n - k) (c - k) (l.drop k) := by
 obtain ⟨h1, h2, h3, h4⟩ := h
 refine ⟨by rw [← bc_drop]; exact h1.cut hk h2, by omega, by omega, fun ad e hn => ?_⟩
 by_cases hck : c = k
 ·omega
 ·rw [if_neg hck] at e
  rcases A with _ | a
  ·cases e
  ·simp at e
   subst e
   rw [block_of_add]
   exact h4 a rfl (by omega)
theorem src_len {w : World} {g : Nat} {A : Option Addr} {n c : Nat} {l : List UInt8} (h : Src w g A n c l) : l.length = n := by have := h.1.1; rwa [bc_length] at this
theorem src_new {w : World} {A : Option Addr} {n c : Nat} {l : List UInt8} (h : Rd w A n (bc l)) (h1 : n ≤ c) (h2 : c ≤ maxLen) : Src w w.heap.size A n c l :=
 ⟨h, h1, h2, fun ad e hn => by obtain ⟨a, e2, hb, _⟩ := h.2 hn; rw [e] at e2; injection e2 with e2; rw [e2]; exact hb⟩
end Go.Proofs.YteebeiaokfenmaaGreat
