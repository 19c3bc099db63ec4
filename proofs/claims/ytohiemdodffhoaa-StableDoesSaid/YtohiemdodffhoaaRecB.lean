/-
  What package record's Write answers: its closure that gathers (Gat: the bytes so far, the first error), Put by Put. Conditions: as each theorem says.
-/
import Derived.Test.YtohiemdodffhoaaRecA
import Derived.Test.YtohiemdodffhoaaRecFr
import Derived.Test.YtohiemdodffhoaaNumF
import Derived.Test.YtohiemdodffhoaaNumP
namespace Go.Proofs.Ytohiemdodffhoaa.RP
open Go.RowKit
set_option linter.unusedVariables false

/-- what is gathered: a variable of bytes, and one of the first error -/
def Gat (w : World) (g : Nat) (pre : List UInt8) : Prop :=
  ∃ v, Box w g 94 #[v] ∧ Box w (g + 1) 33 #[.int .i64 0] ∧ w.ownsRow (g + 2) 5 1 v pre.length (bc pre)
theorem Gat.below {w w' : World} {g : Nat} {pre : List UInt8} (h : Gat w g pre) (hb : Below w.heap.size w w') : Gat w' g pre := by
  obtain ⟨v, h1, h2, h3⟩ := h
  exact ⟨v, h1.below hb h1.lt, h2.below hb h2.lt, own_below h3 hb⟩

theorem box_grown {w w' : World} {g : Nat} {t : TypeId} {cs : Array Value} {r : Option Nat} (h : Box w g t cs) (hg : w.grownBy w' r) (hr : ∀ k, r = some k → g + 1 ≤ k) : Box w' g t cs :=
  (hg.block g h.lt (fun e => by have := hr g e.symm; omega)).trans h
theorem own_ge {w : World} {base : Nat} {e : TypeId} {v : Value} {n : Nat} {xs : List Value} (h : w.ownsRow base e 1 v n xs) : ∀ k, v.ownBlock = some k → base ≤ k := by
  intro k hk
  rcases h.2 with ⟨rfl, _⟩ | ⟨g', cap, cur, rfl, hb, _⟩
  · simp [Value.ownBlock] at hk
  · simp [Value.ownBlock] at hk; omega
/-- the bytes laid into their variable, the error into its own -/
theorem gat_more {w w2 : World} {g : Nat} {v v2 : Value} {r : Option Nat} {pre l : List UInt8} (b1 : Box w g 94 #[v]) (b2 : Box w (g + 1) 33 #[.int .i64 0]) (hg : w.grownBy w2 r) (hr : ∀ k, r = some k → g + 2 ≤ k)
    (ho : w2.ownsRow (g + 2) 5 1 v2 (pre.length + l.length) (bc pre ++ bc l)) :
    Gat ((w2.setCell ⟨g, 0, none⟩ v2).setCell ⟨g + 1, 0, none⟩ (.int .i64 0)) g (pre ++ l) ∧ Below g w ((w2.setCell ⟨g, 0, none⟩ v2).setCell ⟨g + 1, 0, none⟩ (.int .i64 0)) := by
  have h1 := box_grown b1 hg (fun k hk => by have := hr k hk; omega)
  have h2 := box_grown b2 hg (fun k hk => by have := hr k hk; omega)
  refine ⟨⟨v2, ?_, ?_, ?_⟩, ?_⟩
  · have := (h1.stored 0 v2).far (p := ⟨g + 1, 0, none⟩) (by simp) (.int .i64 0)
    simpa using this
  · have := (h2.far (p := ⟨g, 0, none⟩) (by simp) v2).stored 0 (.int .i64 0)
    simpa using this
  · rw [List.length_append, bc_append]
    exact ownsRow_setCell_below (ownsRow_setCell_below ho (by simp) _) (by simp) _
  · have hb := (Below.refl g w).grown hg (by have := b1.lt; omega) (fun k hk => by have := hr k hk; omega)
    exact (hb.setCell (p := ⟨g, 0, none⟩) (Nat.le_refl _) _).setCell (p := ⟨g + 1, 0, none⟩) (Nat.le_succ _) _

set_option maxRecDepth 100000 in
set_option maxHeartbeats 1000000 in
theorem gather_any (g : Nat) (pre l : List UInt8) (A : Option Addr) (n c : Nat) (w : World) (h : Gat w g pre) (hr : Rd w A n (bc l)) (hn : n ≤ 5000) (hp : pre.length ≤ 10000) :
    Calls Try.prog 63 #[.slice A n c, .int .i64 0, .pointer (some ⟨g, 0, none⟩), .pointer (some ⟨g + 1, 0, none⟩)] w fun e w' => e = .returned (.tuple #[]) ∧ Gat w' g (pre ++ l) ∧ Below g w w' := by
  obtain ⟨i0, hi, hz0, hz1, hz2⟩ := info_parts info_u8
  obtain ⟨v, b1, b2, ho⟩ := h
  have hl : l.length = n := by have := hr.1; rwa [bc_length] at this
  have hg2 : g + 2 ≤ w.heap.size := by have := b2.lt; omega
  have c1 := b1.cell 0
  have c2 := b2.cell 0
  simp at c1 c2
  have B1 := Lib.hid b1; have B2 := Lib.hid b2; have HO := Lib.hid ho; have HR := Lib.hid hr; have HL := Lib.hid hl
  have HG := Lib.hid (own_ge ho)
  clear b1 b2 ho hr hl
  go_enter Try.func63, Try.ntmps63
  go_wp2_with (at_builtin; refine wpList_append_rd _ rfl _ _ 94 rfl (g + 2) 5 i0 (.int .u8 0) 1 Try.underlying94 hi hz0 hz1 hz2 rfl v _ _ rfl HO.out A n c (bc l) rfl HR.out (bc_one l) (by unfold maxLen; omega) (by omega) hg2 ?_; intro v2 w2 hown2 hgr2 hob2; have b1 := box_grown B1.out hgr2 (fun k hk => (by have := HG.out k hk; omega)); have b2 := box_grown B2.out hgr2 (fun k hk => (by have := HG.out k hk; omega)); have d1 := b1.cell 0; have d2 := b2.cell 0; have f1 := b1.frozen 0; have f2 := b2.frozen 0; clear b1 b2; simp at d1 d2; obtain ⟨A2, c3, rfl, _, _⟩ := own_slice hown2)
  go_end0
  have e := gat_more (pre := pre) (l := l) B1.out B2.out hgr2 HG.out (by rw [HL.out]; exact hown2)
  exact ⟨rfl, e.1, e.2⟩
end Go.Proofs.Ytohiemdodffhoaa.RP
