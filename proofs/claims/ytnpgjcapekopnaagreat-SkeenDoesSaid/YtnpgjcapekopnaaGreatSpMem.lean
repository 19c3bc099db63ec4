/-
  Stamps in memory: by value, two cells an element in a row. No walk, no program.
-/
import Derived.Test.YtnpgjcapekopnaaGreatRowG
import Derived.Test.YtnpgjcapekopnaaGreatSpMath
import Derived.Lib.Hide
namespace Go.Proofs.YtnpgjcapekopnaaGreat.TP
open Go.RowKit
open TM (Sp)
set_option linter.unusedVariables false
set_option linter.unusedSimpArgs false

/-- a stamp, by value; its cells -/
def vsp (a : Sp) : Value := .agg #[.int .i64 a.t, .int .i64 a.i]
def spc (a : Sp) : List Value := [.int .i64 a.t, .int .i64 a.i]
theorem spc_one (a : Sp) : ∀ u ∈ spc a, u.oneCell' = true := by intro u hu; simp [spc] at hu; rcases hu with rfl | rfl <;> rfl
theorem spc_len (l : List Sp) : ∀ a ∈ l, (spc a).length = 2 := fun _ _ => rfl
theorem flat_spc (l : List Sp) : (flat spc l).length = l.length * 2 := flat_length (spc_len l)
theorem flat_spc_one (l : List Sp) : ∀ u ∈ flat spc l, u.oneCell' = true := by
  intro u hu
  unfold flat at hu
  obtain ⟨a, _, ha⟩ := List.mem_flatMap.1 hu
  exact spc_one a u ha
theorem add_none (bl o j : Nat) : (⟨bl, o, none⟩ : Addr).add j = ⟨bl, o + j, none⟩ := by unfold Addr.add; split <;> simp_all
theorem spot_none {w : World} {a : Addr} {v : Value} (h : w.cell? a = some v) : a.spot = none := by
  unfold World.cell? at h
  split at h
  · split at h
    · cases h
    · rename_i hn
      cases hs : a.spot
      · rfl
      · simp [hs] at hn
  · cases h
/-- a slice of stamps: nil let in -/
def SpsIs (w : World) (A : Option Addr) (n c : Nat) (l : List Sp) : Prop := RdG w 2 A n (flat spc l) ∧ l.length = n ∧ n ≤ c ∧ c ≤ maxLen
theorem SpsIs.below {w w' : World} {A : Option Addr} {n c : Nat} {l : List Sp} (h : SpsIs w A n c l) (hb : Below w.heap.size w w') : SpsIs w' A n c l := ⟨h.1.below hb, h.2⟩
theorem SpsIs.small {w : World} {A : Option Addr} {n c : Nat} {l : List Sp} (h : SpsIs w A n c l) : n ≤ 9223372036854775807 := by
  have h1 := h.2.2.1
  have h2 := h.2.2.2
  unfold maxLen at h2
  omega
theorem spsIs_nil (w : World) : SpsIs w none 0 0 [] := ⟨⟨rfl, fun h => absurd h (by omega)⟩, rfl, Nat.le_refl _, Nat.zero_le _⟩
/-- an element's two cells -/
theorem SpsIs.at_ {w : World} {A : Option Addr} {n c k : Nat} {l : List Sp} {a : Sp} (h : SpsIs w A n c l) (hk : l[k]? = some a) :
    ∃ bl o, A = some ⟨bl, o, none⟩ ∧ k < n ∧ bl < w.heap.size ∧ w.cell? ⟨bl, o + k * 2, none⟩ = some (.int .i64 a.t) ∧ w.cell? ⟨bl, o + k * 2 + 1, none⟩ = some (.int .i64 a.i) := by
  have hkl := (List.getElem?_eq_some_iff.1 hk).1
  have hl := h.2.1
  obtain ⟨ad, e, hb, hc⟩ := h.1.2 (by omega)
  have g0 := hc (k * 2 + 0) _ (by rw [flat_get (spc_len l) hk 0 (by omega)]; rfl)
  have g1 := hc (k * 2 + 1) _ (by rw [flat_get (spc_len l) hk 1 (by omega)]; rfl)
  have hsp : ad.spot = none := by
    have hp : 0 < (flat spc l).length := by rw [flat_spc]; omega
    have h0 := hc 0 _ (List.getElem?_eq_getElem hp)
    rw [show ad.add 0 = ad from by simp [Addr.add]] at h0
    exact spot_none h0
  obtain ⟨bl, o, sp⟩ := ad
  simp only at hsp
  subst hsp
  rw [add_none] at g0 g1
  exact ⟨bl, o, e, by omega, hb, g0, g1⟩
/-- an answer that is a bool -/
def IsB (b : Bool) (w : World) (e : Ending) (w' : World) : Prop := e = .returned (.bool b) ∧ Below w.heap.size w w'
/-- an answer that is a number -/
def IsN (y : Int) (w : World) (e : Ending) (w' : World) : Prop := e = .returned (.int .i64 y) ∧ Below w.heap.size w w'
end Go.Proofs.YtnpgjcapekopnaaGreat.TP
