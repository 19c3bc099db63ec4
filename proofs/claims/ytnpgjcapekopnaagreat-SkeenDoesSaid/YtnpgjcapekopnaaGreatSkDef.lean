/-
  What the contracts of a group's clock answer, and what they ask; no walk.
-/
import Derived.Test.YtnpgjcapekopnaaGreatProg
import Derived.Test.YtnpgjcapekopnaaGreatSkMem
import Derived.Test.YtnpgjcapekopnaaGreatSkPut
import Derived.Test.YtnpgjcapekopnaaGreatCmSame
import Derived.Test.YtnpgjcapekopnaaGreatQq
import Derived.Deep.QuietTactic
import Derived.BigQuiet
import Derived.Deep.RegionHeld3
import Derived.Deep.DeepCutAuto
import Derived.Lib.MinMax
import Derived.WalkKit
namespace Go.Proofs.YtnpgjcapekopnaaGreat.KP
open Go.RowKit CP TP
open CM (Mg Cm)
open TM (Sp)
open KM (Wt Sk)
set_option linter.unusedVariables false
set_option linter.unusedSimpArgs false
set_option maxRecDepth 100000

theorem box_two {w : World} {g : Nat} {t : TypeId} {a b : Value} (h : Box w g t #[a, b]) : w.cell? ⟨g, 0, none⟩ = some a ∧ w.cell? ⟨g, 1, none⟩ = some b := ⟨h.cell 0, h.cell 1⟩
theorem info_mg : (Tryz.prog.info? 28).map (fun i => (i.zero, i.size, i.bytes)) = some (some (.agg #[.int .i64 0, .slice none 0 0, .int .i64 0, .string ⟨#[]⟩, .string ⟨#[]⟩]), 5, 72) := by kernel_rfl
/-- an answer that is a stamp -/
def IsSp (a : Sp) (w : World) (e : Ending) (w' : World) : Prop := e = .returned (vsp a) ∧ Below w.heap.size w w'
def Upto (l : List Wt) (k a : Nat) : Prop := ∃ x, l[a]? = some x ∧ a < k ∧ (∀ j b, j < k → l[j]? = some b → TM.less (KM.stp b) (KM.stp x) = false) ∧ ∀ j b, j < a → l[j]? = some b → TM.less (KM.stp x) (KM.stp b) = true
theorem upto_one {l : List Wt} (h : l ≠ []) : Upto l 1 0 := by
  rcases l with _ | ⟨x, r⟩
  · exact absurd rfl h
  · exact ⟨x, rfl, by omega, fun j b hj hb => by obtain rfl : j = 0 := by omega
                                                 injection hb with hb; subst hb; exact TM.less_irrefl _, fun j b hj => absurd hj (by omega)⟩
theorem Upto.all {l : List Wt} {k a : Nat} (h : Upto l k a) (hk : l.length ≤ k) : KM.lst l = a := by
  obtain ⟨x, h1, h2, h3, h4⟩ := h
  exact KM.lst_eq ⟨x, h1, fun j b hb => h3 j b (by have := (List.getElem?_eq_some_iff.1 hb).1; omega) hb, h4⟩
theorem Upto.keep {l : List Wt} {k a : Nat} {x y : Wt} (h : Upto l k a) (ha : l[a]? = some x) (hy : l[k]? = some y) (hl : TM.less (KM.stp y) (KM.stp x) = false) : Upto l (k + 1) a := by
  obtain ⟨x', h1, h2, h3, h4⟩ := h
  rw [ha] at h1; injection h1 with h1; subst h1
  refine ⟨x, ha, by omega, fun j b hj hb => ?_, h4⟩
  rcases (show j < k ∨ j = k by omega) with h | rfl
  · exact h3 j b h hb
  · rw [hy] at hb; injection hb with hb; subst hb; exact hl
theorem Upto.turn {l : List Wt} {k a : Nat} {x y : Wt} (h : Upto l k a) (ha : l[a]? = some x) (hy : l[k]? = some y) (hl : TM.less (KM.stp y) (KM.stp x) = true) : Upto l (k + 1) k := by
  obtain ⟨x', h1, h2, h3, h4⟩ := h
  rw [ha] at h1; injection h1 with h1; subst h1
  refine ⟨y, hy, by omega, fun j b hj hb => ?_, fun j b hj hb => ?_⟩
  · rcases (show j < k ∨ j = k by omega) with h | rfl
    · exact KM.less_neg (KM.less_asymm hl) (h3 j b h hb)
    · rw [hy] at hb; injection hb with hb; subst hb; exact TM.less_irrefl _
  · have h5 := h3 j b (by omega) hb
    simp only [TM.less, decide_eq_false_iff_not, decide_eq_true_eq] at hl h5 ⊢
    unfold TM.lt at hl h5 ⊢
    omega
theorem take_more {α : Type} {x y : List α} {k : Nat} {a : α} (h : x.take k = y.take k) (hx : x[k]? = some a) (hy : y[k]? = some a) : x.take (k + 1) = y.take (k + 1) := by
  rw [List.take_add_one, List.take_add_one, h, hx, hy]
theorem take_all {α : Type} {x y : List α} {k : Nat} (h : x.take k = y.take k) (hx : x.length = k) (hy : y.length = k) : x = y := by
  rwa [List.take_of_length_le (by omega), List.take_of_length_le (by omega)] at h
theorem ne_at {α : Type} {x y : List α} {k : Nat} {a b : α} (hx : x[k]? = some a) (hy : y[k]? = some b) (h : a ≠ b) : x ≠ y := by
  rintro rfl
  rw [hx] at hy
  injection hy with hy
  exact h hy
theorem box_wtf {w : World} {g : Nat} {t : TypeId} {a0 a1 a2 a3 a4 a5 a6 : Value} (h : Box w g t #[a0, a1, a2, a3, a4, a5, a6]) :
    (w.cell? ⟨g, 0, none⟩ = some a0 ∧ w.cell? ⟨g, 1, none⟩ = some a1 ∧ w.cell? ⟨g, 2, none⟩ = some a2 ∧ w.cell? ⟨g, 3, none⟩ = some a3 ∧ w.cell? ⟨g, 4, none⟩ = some a4 ∧ w.cell? ⟨g, 5, none⟩ = some a5 ∧ w.cell? ⟨g, 6, none⟩ = some a6) ∧
    w.frozen? ⟨g, 0, none⟩ = false ∧ w.frozen? ⟨g, 1, none⟩ = false ∧ w.frozen? ⟨g, 2, none⟩ = false ∧ w.frozen? ⟨g, 3, none⟩ = false ∧ w.frozen? ⟨g, 4, none⟩ = false ∧ w.frozen? ⟨g, 5, none⟩ = false ∧ w.frozen? ⟨g, 6, none⟩ = false :=
  ⟨box_wt h, h.frozen 0, h.frozen 1, h.frozen 2, h.frozen 3, h.frozen 4, h.frozen 5, h.frozen 6⟩
/-- two variables just laid -/
def Two (w : World) (a b : Array Value) (u v : Value) (wx : World) : Prop := ∃ p q, u = .pointer (some ⟨p, 0, none⟩) ∧ v = .pointer (some ⟨q, 0, none⟩) ∧ Box wx p 52 a ∧ Box wx q 52 b ∧ Below w.heap.size w wx
def wcs (A : Option Addr) (c : Nat) (x : Wt) : Array Value := #[.int .i64 x.m.id, .slice A x.m.gs.length c, .int .i64 x.m.tp, .string x.m.key, .string x.m.body, .int .i64 x.t, .bool x.f]
theorem wt_ne {x y : Wt} (h : x ≠ y) : x.m ≠ y.m ∨ (x.m = y.m ∧ x.t ≠ y.t) ∨ (x.m = y.m ∧ x.t = y.t ∧ x.f ≠ y.f) := by
  obtain ⟨a, b, c⟩ := x
  obtain ⟨d, e, f⟩ := y
  by_cases h1 : a = d
  · by_cases h2 : b = e
    · exact .inr (.inr ⟨h1, h2, fun h3 => h (by simp only at h1 h2 h3; rw [h1, h2, h3])⟩)
    · exact .inr (.inl ⟨h1, h2⟩)
  · exact .inl h1
def WtFit (x : Wt) : Prop := MgFit x.m ∧ i64In x.t
def SpIn (a : Sp) : Prop := i64In a.t ∧ i64In a.i
/-- a clock as it comes in: each number an int, each text one that Go has, each slice of at most 2^47 bytes -/
def SkFit (s : Sk) : Prop := i64In s.c ∧ (∀ x ∈ s.ws, WtFit x ∧ x.m.gs.length ≤ 17592186044416) ∧ ∀ x ∈ s.ds, SpIn x
/-- where it is no great one -/
def Few (s : Sk) : Prop := s.ws.length ≤ 300 ∧ s.ds.length ≤ 300
def GrPost (s : Sk) (W : World) (e : Ending) (w' : World) : Prop := ∃ b : Bool, e = .returned (.bool b) ∧ (b = false → Few s) ∧ Below W.heap.size W w'
theorem box_mg5 {w : World} {g : Nat} {t : TypeId} {a b c d e : Value} (h : Box w g t #[a, b, c, d, e]) :
    (w.cell? ⟨g, 0, none⟩ = some a ∧ w.cell? ⟨g, 1, none⟩ = some b ∧ w.cell? ⟨g, 2, none⟩ = some c ∧ w.cell? ⟨g, 3, none⟩ = some d ∧ w.cell? ⟨g, 4, none⟩ = some e) ∧
      w.frozen? ⟨g, 0, none⟩ = false ∧ w.frozen? ⟨g, 1, none⟩ = false ∧ w.frozen? ⟨g, 2, none⟩ = false ∧ w.frozen? ⟨g, 3, none⟩ = false ∧ w.frozen? ⟨g, 4, none⟩ = false :=
  ⟨box_mg h, h.frozen 0, h.frozen 1, h.frozen 2, h.frozen 3, h.frozen 4⟩
theorem info_int15 : (Tryz.prog.info? 3).map (fun i => (i.zero, i.size, i.bytes)) = some (some (.int .i64 0), 1, 8) := by kernel_rfl
/-- a message in new memory -/
def TmIs (m : Mg) (w : World) (e : Ending) (w' : World) : Prop := ∃ A c, e = .returned (.agg (mcells A c m)) ∧ RowGe w' w.heap.size A c m.gs ∧ Below w.heap.size w w'
theorem RowGe.setB {w : World} {b : Nat} {A : Option Addr} {c : Nat} {l : List Int} (h : RowGe w b A c l) {g : Nat} (hg : g < b) (a0 a1 a2 a3 a4 : Value) : RowGe (pt5 w g a0 a1 a2 a3 a4) b A c l := by
  unfold pt5
  exact ((((h.set hg a0).set hg a1).set hg a2).set hg a3).set hg a4
theorem info_sp : (Tryz.prog.info? 70).map (fun i => (i.zero, i.size, i.bytes)) = some (some (.agg #[.int .i64 0, .int .i64 0]), 2, 16) := by kernel_rfl
theorem info_wt : (Tryz.prog.info? 52).map (fun i => (i.zero, i.size, i.bytes)) = some (some (.agg #[.int .i64 0, .slice none 0 0, .int .i64 0, .string ⟨#[]⟩, .string ⟨#[]⟩, .int .i64 0, .bool false]), 7, 88) := by kernel_rfl
/-- a copy, all of it new -/
def SkNew (s : Sk) (w : World) (e : Ending) (w' : World) : Prop := ∃ v, e = .returned v ∧ SkO w' w.heap.size v s ∧ Below w.heap.size w w'
/-- what Apply answers: all of it new -/
def ApIs (R : Sk × List Mg × Int) (w : World) (e : Ending) (w' : World) : Prop := ∃ v vm, e = .returned (.tuple #[v, vm, .int .i64 R.2.2]) ∧ SkO w' w.heap.size v R.1 ∧ KO KM_ w' w.heap.size 28 vm R.2.1 ∧ Below w.heap.size w w'
end Go.Proofs.YtnpgjcapekopnaaGreat.KP
