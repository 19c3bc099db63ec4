/-
  An argument of rows of texts ([]string, [][]string), opened to cells. Conditions: as each theorem says.
  What the contracts of a group's clock answer, and what they ask; no walk.
  What a log's Commands answers. No walk.
  Arguments that are slices of texts, as the walks of layer 13 read them. No walk.
  A clock that may be fits; so does what a command answers. No walk.
  Owned rows of what waits through stores elsewhere; a copy of a clock as it grows. No walk.
  Package skeen: isDone, its closure, slices.ContainsFunc, IndexFunc over it. Conditions: the stamps read as such.
-/
import Derived.Test.YteebeiaokfenmaaGreatK07
import Derived.SliceStrings
import Derived.Deep.Strs
import Derived.Test.YteebeiaokfenmaaGreatProg
import Derived.Test.YteebeiaokfenmaaGreatK08
import Derived.Test.YteebeiaokfenmaaGreatK05
import Derived.Test.YteebeiaokfenmaaGreatK01
import Derived.Deep.QuietTactic
import Derived.BigQuiet
import Derived.Deep.RegionHeld3
import Derived.Deep.DeepCutAuto
import Derived.Lib.MinMax
import Derived.WalkKit
import Derived.Test.YteebeiaokfenmaaGreatK04
import Derived.Test.YteebeiaokfenmaaGreatK03
namespace Go.Proofs.YteebeiaokfenmaaGreat.SP
open Go.RowKit Go.Joins Go.ChangeShapes Go.WideShapes Go.Deep
set_option linter.unusedVariables false
section
variable {H : Type} {enc : TypeId × Value → H} {w : World} {spare : Nat → Bool} {held : Bool} {base : Nat}
theorem text_cells {fuel : Nat} {cs : List Value} {x : DataW H × List MemPlace} (h : DataW.trod enc Tryz.prog w base spare held fuel 26 cs = some x) :
  ∃ B c, ∃ l : List ByteArray, cs = [.slice B l.length c] ∧ Rd w B l.length (tc l) ∧ l.length ≤ c ∧ c ≤ maxLen ∧ ∀ s ∈ l, s.size ≤ maxLen := by
 rcases open_strings Tryz.underlying26 Tryz.underlying9 (by kernel_rfl) h with ⟨hcs, _⟩ | ⟨a, len, cap, ss, hcs, _, hl, hm, hz, _, hcell, hws⟩
 ·exact ⟨none, 0, [], hcs, Rd.nil, Nat.zero_le _, Nat.zero_le _, fun s hs => by cases hs⟩
 ·have hlz : len ≤ ss.length := by rw [hz]; split <;> omega
  have hlt : (ss.take len).length = len := by rw [List.length_take]; omega
  refine ⟨some a, cap, ss.take len, by rw [hlt]; exact hcs, ⟨by rw [tc_length], fun hn => ⟨a, rfl, ?_, fun j u hu => ?_⟩⟩, by rw [hlt]; exact hl, hm, fun s hs => hws s (List.mem_of_mem_take hs)⟩
  ·rw [hlt] at hn
   have := cell_block (hcell 0 (by omega))
   rwa [block_of_add] at this
  ·unfold tc at hu
   rw [List.getElem?_map, List.getElem?_take] at hu
   split at hu
   ·rename_i hj
    have hjz : j < ss.length := by omega
    rw [hcell j hjz]
    rw [List.getElem?_eq_getElem hjz] at hu
    simp only [Option.map_some, Option.some.injEq] at hu
    rw [← hu]
    simp [hjz]
   ·simp at hu
theorem logs_cells {fuel : Nat} {cs : List Value} {x : DataW H × List MemPlace} (h : DataW.trod enc Tryz.prog w base spare held fuel 27 cs = some x) :
  ∃ A c, ∃ ls : List (List ByteArray), cs = [.slice A ls.length c] ∧ LogsIs w A ls.length c ls ∧ ∀ l ∈ ls, ∀ v ∈ l, v.size ≤ maxLen := by
 rcases open_slice1 Tryz.underlying27 (by kernel_rfl) h with ⟨hcs, _⟩ | ⟨a, len, cap, m, k, V, D, Pl, hcs, _, hl, hm, hmm, _, hi⟩
 ·exact ⟨none, 0, [], hcs, ⟨[], Rd.nil, ⟨rfl, fun i l hl => by simp at hl⟩, rfl, Nat.le_refl _, Nat.zero_le _⟩, fun l hl => by cases hl⟩
 ·have hlm : len ≤ m := by rw [hmm]; split <;> omega
  obtain ⟨f, hf⟩ := choose_lt (α := List ByteArray) (n := len) (p := fun i q => ∃ B c, V i = .slice B q.length c ∧ Rd w B q.length (tc q) ∧ q.length ≤ c ∧ c ≤ maxLen ∧ ∀ s ∈ q, s.size ≤ maxLen) (fun i hi' => by
   obtain ⟨_, g2⟩ := hi i (by omega)
   obtain ⟨B, c, l, e, h1, h2, h3, h4⟩ := text_cells g2
   exact ⟨l, B, c, by simpa using e, h1, h2, h3, h4⟩)
  refine ⟨some a, cap, (List.range len).map f, by simpa using hcs, ⟨(List.range len).map V, ⟨by simp, fun hn => ⟨a, rfl, ?_, fun j u hu => ?_⟩⟩, ⟨by simp, fun i l hl' => ?_⟩, rfl, by simpa using hl, hm⟩, fun l hl' => ?_⟩
  ·simp at hn
   have := cell_block (hi 0 (by omega)).1
   rwa [block_of_add] at this
  ·have hjl : j < len := by have := (List.getElem?_eq_some_iff.1 hu).1; simpa using this
   simp [hjl] at hu
   subst hu
   exact (hi j (by omega)).1
  ·have hjl : i < len := by have := (List.getElem?_eq_some_iff.1 hl').1; simpa using this
   simp [hjl] at hl'
   subst hl'
   obtain ⟨B, c, e, h1, h2, h3, _⟩ := hf i hjl
   exact ⟨B, c, by simp [hjl, e], h1, h2, h3⟩
  ·obtain ⟨i, hil, rfl⟩ := List.mem_map.1 hl'
   obtain ⟨_, _, _, _, _, _, h4⟩ := hf i (List.mem_range.1 hil)
   exact h4
def LogsArg (w : World) (A : Option Addr) (len cap : Nat) (ls : List (List ByteArray)) : Prop := LogsIs w A len cap ls ∧ ∀ l ∈ ls, ∀ v ∈ l, v.size ≤ maxLen
theorem open_logs {fuel : Nat} {A : Option Addr} {len cap : Nat} {x : DataW H × List MemPlace} (h : DataW.trod enc Tryz.prog w base spare held fuel 27 [.slice A len cap] = some x) : ∃ ls, LogsArg w A len cap ls := by
 obtain ⟨A', c, ls, e, h1, h2⟩ := logs_cells h
 simp only [List.cons.injEq, Value.slice.injEq, and_true] at e
 obtain ⟨rfl, rfl, rfl⟩ := e
 exact ⟨ls, h1, h2⟩
end
end Go.Proofs.YteebeiaokfenmaaGreat.SP

namespace Go.Proofs.YteebeiaokfenmaaGreat.KP
open Go.RowKit CP TP
open CM (Mg Cm)
open TM (Sp)
open KM (Wt Sk)
set_option linter.unusedVariables false
set_option linter.unusedSimpArgs false
set_option maxRecDepth 100000
theorem box_two {w : World} {g : Nat} {t : TypeId} {a b : Value} (h : Box w g t #[a, b]) : w.cell? ⟨g, 0, none⟩ = some a ∧ w.cell? ⟨g, 1, none⟩ = some b := ⟨h.cell 0, h.cell 1⟩
theorem info_mg : (Tryz.prog.info? 33).map (fun i => (i.zero, i.size, i.bytes)) = some (some (.agg #[.int .i64 0, .slice none 0 0, .int .i64 0, .string ⟨#[]⟩, .string ⟨#[]⟩]), 5, 72) := by kernel_rfl
def IsSp (a : Sp) (w : World) (e : Ending) (w' : World) : Prop := e = .returned (vsp a) ∧ Below w.heap.size w w'
def Upto (l : List Wt) (k a : Nat) : Prop := ∃ x, l[a]? = some x ∧ a < k ∧ (∀ j b, j < k → l[j]? = some b → TM.less (KM.stp b) (KM.stp x) = false) ∧ ∀ j b, j < a → l[j]? = some b → TM.less (KM.stp x) (KM.stp b) = true
theorem upto_one {l : List Wt} (h : l ≠ []) : Upto l 1 0 := by
  rcases l with _ | ⟨x, r⟩
  · exact absurd rfl h
  · exact ⟨x, rfl, by omega, fun j b hj hb => by obtain rfl : j = 0 := by omega
                                                 injection hb with hb; subst hb; exact TM.less_irrefl _, fun j b hj => absurd hj (by omega)⟩
theorem Upto.all {l : List Wt} {k a : Nat} (h : Upto l k a) (hk : l.length ≤ k) : KM.lst l = a := by
 obtain ⟨x, h1, h2, h3, h4⟩ := h
 exact KM.lst_eq ⟨x, h1, fun j b hb => h3 j b (by have := (List.getElem?_eq_some_iff.1 hb).1; omega) hb, h4⟩
theorem Upto.keep {l : List Wt} {k a : Nat} {x y : Wt} (h : Upto l k a) (ha : l[a]? = some x) (hy : l[k]? = some y) (hl : TM.less (KM.stp y) (KM.stp x) = false) : Upto l (k + 1) a := by
 obtain ⟨x', h1, h2, h3, h4⟩ := h
 rw [ha] at h1; injection h1 with h1; subst h1
 refine ⟨x, ha, by omega, fun j b hj hb => ?_, h4⟩
 rcases (show j < k ∨ j = k by omega) with h | rfl
 ·exact h3 j b h hb
 ·rw [hy] at hb; injection hb with hb; subst hb; exact hl
theorem Upto.turn {l : List Wt} {k a : Nat} {x y : Wt} (h : Upto l k a) (ha : l[a]? = some x) (hy : l[k]? = some y) (hl : TM.less (KM.stp y) (KM.stp x) = true) : Upto l (k + 1) k := by
 obtain ⟨x', h1, h2, h3, h4⟩ := h
 rw [ha] at h1; injection h1 with h1; subst h1
 refine ⟨y, hy, by omega, fun j b hj hb => ?_, fun j b hj hb => ?_⟩
 ·rcases (show j < k ∨ j = k by omega) with h | rfl
  ·exact KM.less_neg (KM.less_asymm hl) (h3 j b h hb)
  ·rw [hy] at hb; injection hb with hb; subst hb; exact TM.less_irrefl _
 ·have h5 := h3 j b (by omega) hb
  simp only [TM.less, decide_eq_false_iff_not, decide_eq_true_eq] at hl h5 ⊢
  unfold TM.lt at hl h5 ⊢
  omega
theorem take_more {α : Type} {x y : List α} {k : Nat} {a : α} (h : x.take k = y.take k) (hx : x[k]? = some a) (hy : y[k]? = some a) : x.take (k + 1) = y.take (k + 1) := by
 rw [List.take_add_one, List.take_add_one, h, hx, hy]
theorem take_all {α : Type} {x y : List α} {k : Nat} (h : x.take k = y.take k) (hx : x.length = k) (hy : y.length = k) : x = y := by
 rwa [List.take_of_length_le (by omega), List.take_of_length_le (by omega)] at h
theorem ne_at {α : Type} {x y : List α} {k : Nat} {a b : α} (hx : x[k]? = some a) (hy : y[k]? = some b) (h : a ≠ b) : x ≠ y := by
 rintro rfl
 rw [hx] at hy
 injection hy with hy
 exact h hy
theorem box_wtf {w : World} {g : Nat} {t : TypeId} {a0 a1 a2 a3 a4 a5 a6 : Value} (h : Box w g t #[a0, a1, a2, a3, a4, a5, a6]) :
  (w.cell? ⟨g, 0, none⟩ = some a0 ∧ w.cell? ⟨g, 1, none⟩ = some a1 ∧ w.cell? ⟨g, 2, none⟩ = some a2 ∧ w.cell? ⟨g, 3, none⟩ = some a3 ∧ w.cell? ⟨g, 4, none⟩ = some a4 ∧ w.cell? ⟨g, 5, none⟩ = some a5 ∧ w.cell? ⟨g, 6, none⟩ = some a6) ∧
  w.frozen? ⟨g, 0, none⟩ = false ∧ w.frozen? ⟨g, 1, none⟩ = false ∧ w.frozen? ⟨g, 2, none⟩ = false ∧ w.frozen? ⟨g, 3, none⟩ = false ∧ w.frozen? ⟨g, 4, none⟩ = false ∧ w.frozen? ⟨g, 5, none⟩ = false ∧ w.frozen? ⟨g, 6, none⟩ = false :=
 ⟨box_wt h, h.frozen 0, h.frozen 1, h.frozen 2, h.frozen 3, h.frozen 4, h.frozen 5, h.frozen 6⟩
def Two (w : World) (a b : Array Value) (u v : Value) (wx : World) : Prop := ∃ p q, u = .pointer (some ⟨p, 0, none⟩) ∧ v = .pointer (some ⟨q, 0, none⟩) ∧ Box wx p 78 a ∧ Box wx q 78 b ∧ Below w.heap.size w wx
def wcs (A : Option Addr) (c : Nat) (x : Wt) : Array Value := #[.int .i64 x.m.id, .slice A x.m.gs.length c, .int .i64 x.m.tp, .string x.m.key, .string x.m.body, .int .i64 x.t, .bool x.f]
theorem wt_ne {x y : Wt} (h : x ≠ y) : x.m ≠ y.m ∨ (x.m = y.m ∧ x.t ≠ y.t) ∨ (x.m = y.m ∧ x.t = y.t ∧ x.f ≠ y.f) := by
 obtain ⟨a, b, c⟩ := x
 obtain ⟨d, e, f⟩ := y
 by_cases h1 : a = d
 ·by_cases h2 : b = e
  ·exact .inr (.inr ⟨h1, h2, fun h3 => h (by simp only at h1 h2 h3; rw [h1, h2, h3])⟩)
  ·exact .inr (.inl ⟨h1, h2⟩)
 ·exact .inl h1
def WtFit (x : Wt) : Prop := MgFit x.m ∧ i64In x.t
def SpIn (a : Sp) : Prop := i64In a.t ∧ i64In a.i
def SkFit (s : Sk) : Prop := i64In s.c ∧ (∀ x ∈ s.ws, WtFit x ∧ x.m.gs.length ≤ 17592186044416) ∧ ∀ x ∈ s.ds, SpIn x
theorem box_mg5 {w : World} {g : Nat} {t : TypeId} {a b c d e : Value} (h : Box w g t #[a, b, c, d, e]) :
  (w.cell? ⟨g, 0, none⟩ = some a ∧ w.cell? ⟨g, 1, none⟩ = some b ∧ w.cell? ⟨g, 2, none⟩ = some c ∧ w.cell? ⟨g, 3, none⟩ = some d ∧ w.cell? ⟨g, 4, none⟩ = some e) ∧
   w.frozen? ⟨g, 0, none⟩ = false ∧ w.frozen? ⟨g, 1, none⟩ = false ∧ w.frozen? ⟨g, 2, none⟩ = false ∧ w.frozen? ⟨g, 3, none⟩ = false ∧ w.frozen? ⟨g, 4, none⟩ = false :=
 ⟨box_mg h, h.frozen 0, h.frozen 1, h.frozen 2, h.frozen 3, h.frozen 4⟩
theorem info_int15 : (Tryz.prog.info? 3).map (fun i => (i.zero, i.size, i.bytes)) = some (some (.int .i64 0), 1, 8) := by kernel_rfl
def TmIs (m : Mg) (w : World) (e : Ending) (w' : World) : Prop := ∃ A c, e = .returned (.agg (mcells A c m)) ∧ RowGe w' w.heap.size A c m.gs ∧ Below w.heap.size w w'
theorem RowGe.setB {w : World} {b : Nat} {A : Option Addr} {c : Nat} {l : List Int} (h : RowGe w b A c l) {g : Nat} (hg : g < b) (a0 a1 a2 a3 a4 : Value) : RowGe (pt5 w g a0 a1 a2 a3 a4) b A c l := by
 unfold pt5
 exact ((((h.set hg a0).set hg a1).set hg a2).set hg a3).set hg a4
theorem info_sp : (Tryz.prog.info? 46).map (fun i => (i.zero, i.size, i.bytes)) = some (some (.agg #[.int .i64 0, .int .i64 0]), 2, 16) := by kernel_rfl
theorem info_wt : (Tryz.prog.info? 78).map (fun i => (i.zero, i.size, i.bytes)) = some (some (.agg #[.int .i64 0, .slice none 0 0, .int .i64 0, .string ⟨#[]⟩, .string ⟨#[]⟩, .int .i64 0, .bool false]), 7, 88) := by kernel_rfl
def SkNew (s : Sk) (w : World) (e : Ending) (w' : World) : Prop := ∃ v, e = .returned v ∧ SkO w' w.heap.size v s ∧ Below w.heap.size w w'
def ApIs (R : Sk × List Mg × Int) (w : World) (e : Ending) (w' : World) : Prop := ∃ v vm, e = .returned (.tuple #[v, vm, .int .i64 R.2.2]) ∧ SkO w' w.heap.size v R.1 ∧ KO KM_ w' w.heap.size 33 vm R.2.1 ∧ Below w.heap.size w w'
end Go.Proofs.YteebeiaokfenmaaGreat.KP

namespace Go.Proofs.YteebeiaokfenmaaGreat.LP
open Go.RowKit CP
open CM (Cm Mg)
set_option linter.unusedVariables false
set_option linter.unusedSimpArgs false
set_option maxRecDepth 100000
def CoIs (l : List ByteArray) (w : World) (x : Ending) (w' : World) : Prop :=
 Below w.heap.size w w' ∧ ((LM.chk l ≠ 0 ∧ x = .returned (.tuple #[.slice none 0 0, .int .i64 (LM.chk l)])) ∨ (LM.chk l = 0 ∧ ∃ v, x = .returned (.tuple #[v, .int .i64 0]) ∧ CmsO w' w.heap.size v (LM.cmds l)))
end Go.Proofs.YteebeiaokfenmaaGreat.LP

namespace Go.Proofs.YteebeiaokfenmaaGreat.LP
open Go.RowKit CP
set_option linter.unusedVariables false
theorem tcx_tx (l : List ByteArray) : tcx l = sc (l.map fun s => s.data.toList) := by simp [tcx, sc]
theorem tx_of {w : World} {a : Option Addr} {len cap : Nat} {ss : List ByteArray} (h : IsTexts w a len cap ss) : TxIs w a len cap (ss.take len) := by
 obtain ⟨h1, h2, _⟩ := h.len_le
 refine ⟨?_, h1, h2, fun s hs => ?_⟩
 ·have := h.texts
  rwa [show sc (textsOf ss len) = tcx (ss.take len) from (tcx_tx _).symm] at this
 ·have := h.small s.data.toList (by unfold textsOf; exact List.mem_map.2 ⟨s, hs, rfl⟩)
  exact this
end Go.Proofs.YteebeiaokfenmaaGreat.LP

namespace Go.Proofs.YteebeiaokfenmaaGreat.KP
open CP TP
open CM (Mg Cm)
open TM (Sp)
open KM (Wt Sk)
theorem fit_mg {m : Mg} (h : CM.mgOk m) : MgFit m ∧ m.gs.length ≤ 4 := by
 obtain ⟨h1, h2, h3, h4, h5, h6⟩ := h
 have h7 := CM.riseG_len h3 (by decide)
 unfold CM.idOk at h1
 unfold MgFit i64In maxLen
 omega
theorem fit_may {s : Sk} (h : KM.may s) : SkFit s := by
 obtain ⟨⟨h1, h2, h3, h4⟩, ⟨h5, h6, h7⟩, ⟨h8, h9⟩, h10⟩ := h
 refine ⟨⟨by omega, by omega⟩, fun x hx => ?_, fun x hx => ?_⟩
 ·obtain ⟨k1, ⟨k2, k3⟩, _⟩ := h8 x hx
  have := fit_mg k1
  exact ⟨⟨this.1, by omega, by omega⟩, by omega⟩
 ·obtain ⟨k1, k2, k3⟩ := h5 x hx
  obtain ⟨k4, k5, k6, k7⟩ := k1
  exact ⟨⟨by omega, by omega⟩, ⟨by omega, by omega⟩⟩
def PApply : Prop := ∀ (vs : Value) (s : Sk) (g : Int) (vc : Value) (c : Cm) (w : World), SkIs w vs s → SkFit s → CmIs w vc c → CmFit c → c.m.gs.length ≤ 17592186044416 → Calls Tryz.prog 57 #[vs, .int .i64 g, vc] w (ApIs (KM.applyF s g c) w)
end Go.Proofs.YteebeiaokfenmaaGreat.KP

namespace Go.Proofs.YteebeiaokfenmaaGreat.KP
open Go.RowKit CP TP
open CM (Mg Cm)
open TM (Sp)
open KM (Wt Sk)
set_option linter.unusedVariables false
set_option linter.unusedSimpArgs false
theorem box_type {w : World} {g : Nat} {t t' : TypeId} {cs cs' : Array Value} (h : Box w g t cs) (h' : Box w g t' cs') : t = t' := by
 rw [Box] at h h'
 rw [h] at h'
 injection h' with h'
 injection h' with _ h'
section
variable {α : Type} {K : Kd α} {w w' : World} {b : Nat} {T : TypeId} {v : Value} {l : List α} {S : TypeId → Prop}
theorem rowGe_kept {A : Option Addr} {c : Nat} {L : List Int} (k : Kept S w w') (hi : ¬ S 3) (h : RowGe w b A c L) : RowGe w' b A c L := by
 refine ⟨⟨⟨h.1.1.1, fun hn => ?_⟩, h.1.2⟩, h.2, fun hn => ?_⟩
 ·obtain ⟨g, cur, e, hb, hx, hs⟩ := h.3 hn
  obtain ⟨ad, e2, hB, hc⟩ := h.1.1.2 hn
  rw [e] at e2
  injection e2 with e2
  subst e2
  have hx' := k.box g _ cur hi hx
  refine ⟨⟨g, 0, none⟩, e, hx'.lt, fun j u hu => ?_⟩
  have := hc j u hu
  rw [add_none] at this ⊢
  rw [hx.cell] at this
  rw [hx'.cell]
  exact this
 ·obtain ⟨g, cur, e, hb, hx, hs⟩ := h.3 hn
  exact ⟨g, cur, e, hb, k.box g _ cur hi hx, hs⟩
theorem KO.kept (k : Kept S w w') (hi : ¬ S 3) (hT : ¬ S T) (h : KO K w b T v l) : KO K w' b T v l := by
 obtain ⟨es, h1, h2, h3⟩ := h
 exact ⟨es, h1, k.own h2 hT, fun e he => ⟨rowGe_kept k hi (h3 e he).1, (h3 e he).2⟩⟩
theorem KO.set (h : KO K w b T v l) {g i : Nat} (hg : g < b) (u : Value) : KO K (w.setCell ⟨g, i, none⟩ u) b T v l := by
 obtain ⟨es, h1, h2, h3⟩ := h
 exact ⟨es, h1, ownsRow_setCell_below h2 (a := ⟨g, i, none⟩) hg u, fun e he => ⟨(h3 e he).1.set hg u, (h3 e he).2⟩⟩
theorem own_ne {base s n g : Nat} {e t : TypeId} {xs : List Value} {cs : Array Value} (h : w.ownsRow base e s v n xs) (hx : Box w g t cs) (hne : e ≠ t) : some g ≠ v.ownBlock := fun k => by
 obtain ⟨_, cur, hc⟩ := own_block h k.symm
 exact hne (box_type hc hx)
theorem own_ne2 {base base' s s' n n' : Nat} {e t : TypeId} {v' : Value} {xs ys : List Value} (h : w.ownsRow base e s v n xs) (h' : w.ownsRow base' t s' v' n' ys) (hne : e ≠ t) : ∀ g, v'.ownBlock = some g → some g ≠ v.ownBlock := fun g hg => by
 obtain ⟨_, cur, hc⟩ := own_block h' hg
 exact own_ne h hc hne
end
theorem kept_put3 {w : World} {g : Nat} {t : TypeId} {cs : Array Value} (h : Box w g t cs) (x y z : Value) : Kept (fun e => e = t) w (((w.setCell ⟨g, 0, none⟩ x).setCell ⟨g, 1, none⟩ y).setCell ⟨g, 2, none⟩ z) :=
 Kept.trans (Kept.trans (Kept.set (S := fun e => e = t) h rfl x) (Kept.set (S := fun e => e = t) (h.stored 0 x) rfl y)) (Kept.set (S := fun e => e = t) ((h.stored 0 x).stored 1 y) rfl z)
structure TwR (w1 : World) (p b2 : Nat) (c : Int) (vd : Value) (ds : List Sp) (l : List Wt) (W : World) : Prop where
 bl : Below w1.heap.size w1 W
 ok : w1.heap.size ≤ p ∧ p < b2 ∧ b2 ≤ W.heap.size
 bp : ∃ vW, Box W p 39 #[.int .i64 c, vW, vd] ∧ KO KW W b2 78 vW l
 dn : W.ownsRow w1.heap.size 46 2 vd ds.length (flat spc ds)
theorem twR_next {w1 W Wa W' : World} {p b2 : Nat} {c : Int} {vd vW v2 : Value} {ds : List Sp} {l : List Wt} {x : Wt} {A : Option Addr} {d : Nat} (hT : TwR w1 p b2 c vd ds l W) (hbp : Box W p 39 #[.int .i64 c, vW, vd])
  {k : Nat} (es : List (Ex Wt)) (hk : es.length = k) (hl : es.map Ex.x = l) (ho : W.ownsRow b2 78 7 vW k (flat (exc KW) es)) (hr : ∀ e ∈ es, RowGe W b2 e.A e.c (KW.gs e.x) ∧ ∀ ad, e.A = some ad → 0 < (KW.gs e.x).length → vW.ownBlock ≠ some ad.block)
  (hb : Below W.heap.size W Wa) (h1 : RowGe Wa W.heap.size A d x.m.gs) (hg : Wa.grownBy W' vW.ownBlock)
  (ho2 : W'.ownsRow b2 78 7 v2 (k + 1) (flat (exc KW) es ++ KW.cel A d x)) (hob : v2.ownBlock = vW.ownBlock ∨ v2.ownBlock = some Wa.heap.size) : TwR w1 p b2 c vd ds (l ++ [x]) (W'.setCell ⟨p, 1, none⟩ v2) := by
 subst hk
 have hsz : W.heap.size ≤ Wa.heap.size := hb.size
 have hoa := own_below3 ho hb
 have hbpa := hbp.below hb hbp.lt
 have hdn := own_below3 hT.dn hb
 have hpw := own_ne hoa hbpa (by decide)
 have hbp' := hbpa.grown hg hpw
 have hKO : KO KW W' b2 78 v2 (l ++ [x]) := kO_next (K := KW) es hl (fun e he => ⟨(hr e he).1.below hb, (hr e he).2⟩) (h1.mono hT.ok.2.2) (fun ad ea hn k => by
  obtain ⟨_, cur, hc⟩ := own_block ho k
  have := h1.2 ad ea hn
  have := hc.lt
  omega) hg ho2 hob
 have hk : Kept (· = 39) W' (W'.setCell ⟨p, 1, none⟩ v2) := Kept.set (S := fun e => e = 39) hbp' rfl v2
 refine ⟨?_, ⟨hT.ok.1, hT.ok.2.1, ?_⟩, ⟨v2, by have := hbp'.stored 1 v2; simpa using this, KO.kept hk (by decide) (by decide) hKO⟩, hk.own (own_grown hdn hg (own_ne2 hoa hdn (by decide))) (by decide)⟩
 ·refine Below.setCell ?_ (p := ⟨p, 1, none⟩) hT.ok.1 v2
  exact below_row (bmore hT.bl hb n!) (own_base hoa (Nat.le_of_lt (Nat.lt_of_le_of_lt hT.ok.1 hT.ok.2.1))) (Nat.le_trans hT.bl.size hsz) hg
 ·have h1 := hT.ok.2.2
  have h2 := hg.size
  show b2 ≤ (W'.setCell ⟨p, 1, none⟩ v2).heap.size
  have : (W'.setCell ⟨p, 1, none⟩ v2).heap.size = W'.heap.size := by simp
  omega
end Go.Proofs.YteebeiaokfenmaaGreat.KP

namespace Go.Proofs.YteebeiaokfenmaaGreat.KP
open Go.RowKit CP TP
open CM (Mg Cm)
open TM (Sp)
open KM (Wt Sk)
set_option linter.unusedVariables false
set_option linter.unusedSimpArgs false
set_option maxRecDepth 100000
set_option maxHeartbeats 1000000 in
theorem isId_any (a : Sp) (g : Nat) (id : Int) (w : World) (h : w.cell? ⟨g, 0, none⟩ = some (.int .i64 id)) : Calls Tryz.prog 154 #[vsp a, .pointer (some ⟨g, 0, none⟩)] w (IsB (decide (a.i = id)) w) := by
 obtain ⟨d, hd⟩ : ∃ d, d = decide (a.i = id) := ⟨_, rfl⟩
 have HD := h! hd
 rw [← hd]
 clear hd
 obtain ⟨at_, ai⟩ := a
 simp only at HD
 unfold vsp
 simp only
 have HB := h! (show Below w.heap.size w (w.alloc (.cells #[.int .i64 at_, .int .i64 ai] 46)) from (Below.refl _ _).alloc n! _)
 have X := h! (Box.new w 46 #[.int .i64 at_, .int .i64 ai])
 have HC := h! (HB.out.cell (p := ⟨g, 0, none⟩) (cell_block h))
 have HC2 := h! (HC.out.trans h)
 clear HC h
 go_enter Tryz.func154, Tryz.ntmps154
 go_upto_region 1 with (fail)
 generalize w.alloc (.cells #[.int .i64 at_, .int .i64 ai] 46) = w1 at HB X HC2 ⊢
 generalize w.heap.size = g0 at X ⊢
 obtain ⟨x0, x1⟩ := box_two X.out
 have c0 := HC2.out
 by_cases k : ai = id
 ·have e : d = true := by rw [HD.out]; simp [k]
  subst e
  subst k
  go_wp2_with fail
  go_ret
  exact ⟨rfl, HB.out⟩
 ·have e : d = false := by rw [HD.out]; simp [k]
  subst e
  have k2 : (ai == id) = false := by simpa using k
  go_wp2_with fail
  go_ret
  exact ⟨by simp [k2], HB.out⟩
def IxPost (ds : List Sp) (id : Int) (w : World) (e : Ending) (w' : World) : Prop := ∃ z : Int, e = .returned (.int .i64 z) ∧ (0 ≤ z ↔ KM.doneF ds id = true) ∧ Below w.heap.size w w'
set_option maxHeartbeats 2000000 in
theorem indexId_any (A : Option Addr) (n c : Nat) (ds : List Sp) (g : Nat) (id : Int) (w : World) (h : SpsIs w A n c ds) (hc : w.cell? ⟨g, 0, none⟩ = some (.int .i64 id)) :
  Calls Tryz.prog 165 #[.slice A n c, .func (.func 154) #[] #[.pointer (some ⟨g, 0, none⟩)]] w (IxPost ds id w) := by
 have HL := h! h.2.1
 have hn63 := h.small
 have H := h! (fun W (hb : Below w.heap.size w W) => h.below hb)
 have HC := h! (fun W (hb : Below w.heap.size w W) => (hb.cell (p := ⟨g, 0, none⟩) (cell_block hc)).trans hc)
 clear h hc
 go_enter Tryz.func165, Tryz.ntmps165
 go_wp2_with fail
 go_loopw [8] (fun i wr => ∃ k : Nat, k ≤ n ∧ i = .int .i64 k ∧ Hid (Below w.heap.size w wr) ∧ Hid (∀ (j : Nat) x, j < k → ds[j]? = some x → x.i ≠ id)) (fun i _ => n - (intOf i).toNat)
 case atStart => exact ⟨0, by omega, rfl, h! (Below.refl _ _), h! (fun j x hj => absurd hj (Nat.not_lt_zero _))⟩
 case round =>
  obtain ⟨k, hk, rfl, HB, HS⟩ := hrel
  by_cases hlt : k < n
  ·obtain ⟨x, hx⟩ : ∃ x, ds[k]? = some x := ⟨_, List.getElem?_eq_getElem (by have := HL.out; omega)⟩
   have HX := h! hx
   obtain ⟨bl, o, rfl, _, hbl, a0, a1⟩ := (H.out _ HB.out).at_ hx
   have C1 := h! (isId_any x g id wr (HC.out _ HB.out))
   have hk0 : (0 : Int) ≤ (k : Int) := by omega
   have hkn : (k : Int) < (n : Int) := by omega
   clear hx hbl
   obtain ⟨d, hd⟩ : ∃ d, d = decide (x.i = id) := ⟨_, rfl⟩
   rw [← hd] at C1
   have HD := h! hd
   clear hd
   obtain ⟨xt, xi⟩ := x
   unfold vsp at C1
   simp only at a0 a1 C1 HD
   go_wp2_with fail
   refine (C1.out).mono ?_
   rintro e w4 ⟨rfl, hb⟩
   have HB2 := h! (bmore HB.out hb n!)
   clear hb a0 a1 C1
   rcases d with _ | _
   ·have NX := h! (show ∀ (j : Nat) x, j < k + 1 → ds[j]? = some x → x.i ≠ id from fun j x hj hx => by
     rcases Nat.lt_or_ge j k with h1 | h1
     ·exact HS.out j x h1 hx
     ·obtain rfl : j = k := by omega
      rw [HX.out] at hx
      injection hx with hx
      rw [← hx]
      exact of_decide_eq_false HD.out.symm)
    go_wp2_with fail
    go_roundw
    case rel => exact ⟨k + 1, by omega, by go_num, HB2, NX⟩
    case measure => simp [intOf]; omega
   ·have HF := h! (show KM.doneF ds id = true from by
     unfold KM.doneF
     rw [List.any_eq_true]
     exact ⟨_, List.mem_of_getElem? HX.out, by simpa using of_decide_eq_true HD.out.symm⟩)
    go_wp2_with fail
    go_ret
    exact ⟨k, rfl, ⟨fun _ => HF.out, fun _ => by omega⟩, HB2.out⟩
  ·have HF := h! (show KM.doneF ds id = false from KM.doneF_no.2 fun x hx => by
    obtain ⟨j, hj, rfl⟩ := List.getElem_of_mem hx
    exact HS.out j _ (by have := HL.out; omega) (List.getElem?_eq_getElem hj))
   go_wp2_with fail
   go_ret
   exact ⟨-1, rfl, ⟨fun h => absurd h (by decide), fun h => by rw [HF.out] at h; cases h⟩, HB.out⟩
set_option maxHeartbeats 1000000 in
theorem containsId_any (A : Option Addr) (n c : Nat) (ds : List Sp) (g : Nat) (id : Int) (w : World) (h : SpsIs w A n c ds) (hc : w.cell? ⟨g, 0, none⟩ = some (.int .i64 id)) :
  Calls Tryz.prog 153 #[.slice A n c, .func (.func 154) #[] #[.pointer (some ⟨g, 0, none⟩)]] w (IsB (KM.doneF ds id) w) := by
 have CI := h! (indexId_any A n c ds g id w h hc)
 generalize hd : KM.doneF ds id = d at CI ⊢
 clear h hc
 go_enter Tryz.func153, Tryz.ntmps153
 go_wp2_with fail
 refine (CI.out).mono ?_
 rintro e w1 ⟨z, rfl, hz, hb⟩
 rw [hd] at hz
 have HB := h! hb
 clear hb CI hd
 by_cases k : 0 ≤ z
 ·have e : d = true := hz.1 k
  subst e
  clear hz
  go_wp2_with fail
  go_ret
  exact ⟨rfl, HB.out⟩
 ·have e : d = false := by
   rcases d with _ | _
   ·rfl
   ·exact absurd (hz.2 rfl) k
  subst e
  clear hz
  go_wp2_with fail
  go_ret
  exact ⟨by have kd : decide (0 ≤ z) = false := decide_eq_false (by omega); simp [kd], HB.out⟩
set_option maxHeartbeats 1000000 in
theorem isDone_any (p : Nat) (B : Option Addr) (m c : Nat) (ds : List Sp) (id : Int) (w : World) (h : SpsIs w B m c ds) (hc : w.cell? ⟨p, 2, none⟩ = some (.slice B m c)) :
  Calls Tryz.prog 135 #[.pointer (some ⟨p, 0, none⟩), .int .i64 id] w (IsB (KM.doneF ds id) w) := by
 have HB := h! (show Below w.heap.size w (w.alloc (.cells #[.int .i64 id] 3)) from (Below.refl _ _).alloc n! _)
 have X := h! ((Box.new w 3 #[.int .i64 id]).cell 0)
 have CC := h! (containsId_any B m c ds w.heap.size id _ (h.below HB.out) X.out)
 have HC := h! ((HB.out.cell (p := ⟨p, 2, none⟩) (cell_block hc)).trans hc)
 generalize KM.doneF ds id = d at CC ⊢
 clear h hc X
 go_enter Tryz.func135, Tryz.ntmps135
 go_upto_region 1 with (fail)
 generalize w.alloc (.cells #[.int .i64 id] 3) = w1 at HB HC CC ⊢
 generalize w.heap.size = g0 at CC ⊢
 have c0 := HC.out
 go_wp2_with fail
 refine (CC.out).mono ?_
 rintro e w2 ⟨rfl, hb⟩
 have HB2 := h! (bmore HB.out hb n!)
 clear hb CC c0
 go_wp2_with fail
 go_ret
 exact ⟨rfl, HB2.out⟩
end Go.Proofs.YteebeiaokfenmaaGreat.KP
