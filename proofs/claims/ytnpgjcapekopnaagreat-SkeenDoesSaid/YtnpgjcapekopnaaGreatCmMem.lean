/-
  A command in memory: twelve cells by value, two of them slices of ints. No walk, no program.
-/
import Derived.Test.YtnpgjcapekopnaaGreatBox
import Derived.Test.YtnpgjcapekopnaaGreatCmdMath
namespace Go.Proofs.YtnpgjcapekopnaaGreat.CP
open Go.RowKit
open CM (Mg Cm)
set_option linter.unusedVariables false
set_option linter.unusedSimpArgs false

/-- answers a bool, new memory at most -/
def BoolIs (b : Bool) (w : World) (e : Ending) (w' : World) : Prop := e = .returned (.bool b) ∧ Below w.heap.size w w'
theorem bool_ret {x y : Bool} {w w' : World} (h : y = x) (hb : Below w.heap.size w w') : BoolIs x w (.returned (.bool y)) w' := ⟨by rw [h], hb⟩
def i64In (n : Int) : Prop := -9223372036854775808 ≤ n ∧ n ≤ 9223372036854775807
/-- a message by value: its groups' slice is A, with room c -/
def mcells (A : Option Addr) (c : Nat) (m : Mg) : Array Value := #[.int .i64 m.id, .slice A m.gs.length c, .int .i64 m.tp, .string m.key, .string m.body]
def ccells (A : Option Addr) (c : Nat) (B : Option Addr) (d : Nat) (x : Cm) : Array Value :=
  #[.int .u8 x.k, .int .i64 x.m.id, .slice A x.m.gs.length c, .int .i64 x.m.tp, .string x.m.key, .string x.m.body, .int .i64 x.id, .int .i64 x.tm, .slice B x.ms.length d, .int .i64 x.tp, .int .i64 x.wh, .int .i64 x.n]
def RowIs (w : World) (A : Option Addr) (c : Nat) (l : List Int) : Prop := Rd w A l.length (ic l) ∧ l.length ≤ c ∧ c ≤ maxLen
def MgFit (m : Mg) : Prop := i64In m.id ∧ i64In m.tp ∧ m.key.size ≤ maxLen ∧ m.body.size ≤ maxLen
def CmFit (x : Cm) : Prop := (0 ≤ x.k ∧ x.k ≤ 255) ∧ MgFit x.m ∧ i64In x.id ∧ i64In x.tm ∧ i64In x.tp ∧ i64In x.wh ∧ i64In x.n
def MgIs (w : World) (v : Value) (m : Mg) : Prop := ∃ A c, v = .agg (mcells A c m) ∧ RowIs w A c m.gs
def CmIs (w : World) (v : Value) (x : Cm) : Prop := ∃ A c B d, v = .agg (ccells A c B d x) ∧ RowIs w A c x.m.gs ∧ RowIs w B d x.ms
theorem RowIs.below {w w' : World} {A : Option Addr} {c : Nat} {l : List Int} (h : RowIs w A c l) (hb : Below w.heap.size w w') : RowIs w' A c l := ⟨h.1.below hb, h.2⟩
theorem MgIs.below {w w' : World} {v : Value} {m : Mg} (h : MgIs w v m) (hb : Below w.heap.size w w') : MgIs w' v m := by
  obtain ⟨A, c, e, h1⟩ := h
  exact ⟨A, c, e, h1.below hb⟩
theorem CmIs.below {w w' : World} {v : Value} {x : Cm} (h : CmIs w v x) (hb : Below w.heap.size w w') : CmIs w' v x := by
  obtain ⟨A, c, B, d, e, h1, h2⟩ := h
  exact ⟨A, c, B, d, e, h1.below hb, h2.below hb⟩
/-- nothing: no elements, wherever -/
theorem RowIs.none (w : World) : RowIs w none 0 [] := ⟨⟨rfl, fun h => absurd h (Nat.lt_irrefl 0)⟩, Nat.le_refl _, by unfold maxLen; omega⟩
theorem zero_is (w : World) : CmIs w (.agg #[.int .u8 0, .int .i64 0, .slice none 0 0, .int .i64 0, .string .empty, .string .empty, .int .i64 0, .int .i64 0, .slice none 0 0, .int .i64 0, .int .i64 0, .int .i64 0]) CM.zero := ⟨none, 0, none, 0, rfl, RowIs.none w, RowIs.none w⟩
theorem mz_is (w : World) : MgIs w (.agg #[.int .i64 0, .slice none 0 0, .int .i64 0, .string .empty, .string .empty]) CM.mz := ⟨none, 0, rfl, RowIs.none w⟩
/-- the cells of a box that holds a command -/
theorem box_cm {w : World} {g : Nat} {t : TypeId} {a0 a1 a2 a3 a4 a5 a6 a7 a8 a9 a10 a11 : Value} (h : Box w g t #[a0, a1, a2, a3, a4, a5, a6, a7, a8, a9, a10, a11]) :
    w.cell? ⟨g, 0, none⟩ = some a0 ∧ w.cell? ⟨g, 1, none⟩ = some a1 ∧ w.cell? ⟨g, 2, none⟩ = some a2 ∧ w.cell? ⟨g, 3, none⟩ = some a3 ∧ w.cell? ⟨g, 4, none⟩ = some a4 ∧ w.cell? ⟨g, 5, none⟩ = some a5 ∧
      w.cell? ⟨g, 6, none⟩ = some a6 ∧ w.cell? ⟨g, 7, none⟩ = some a7 ∧ w.cell? ⟨g, 8, none⟩ = some a8 ∧ w.cell? ⟨g, 9, none⟩ = some a9 ∧ w.cell? ⟨g, 10, none⟩ = some a10 ∧ w.cell? ⟨g, 11, none⟩ = some a11 :=
  ⟨h.cell 0, h.cell 1, h.cell 2, h.cell 3, h.cell 4, h.cell 5, h.cell 6, h.cell 7, h.cell 8, h.cell 9, h.cell 10, h.cell 11⟩
theorem box_mg {w : World} {g : Nat} {t : TypeId} {a b c d e : Value} (h : Box w g t #[a, b, c, d, e]) :
    w.cell? ⟨g, 0, none⟩ = some a ∧ w.cell? ⟨g, 1, none⟩ = some b ∧ w.cell? ⟨g, 2, none⟩ = some c ∧ w.cell? ⟨g, 3, none⟩ = some d ∧ w.cell? ⟨g, 4, none⟩ = some e :=
  ⟨h.cell 0, h.cell 1, h.cell 2, h.cell 3, h.cell 4⟩
end Go.Proofs.YtnpgjcapekopnaaGreat.CP
