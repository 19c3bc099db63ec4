/-
  What the document's Great (towncrierref08) tells of any attempt: one that is not great has short lists. Conditions: lengths fit in an int.
-/
import Derived.Test.YtiiobafcgdelmaaK03
import Derived.Test.YtiiobafcgdelmaaK08
import Derived.Lib.MinMax
import Derived.Deep.DeepCutAuto
namespace Go.Proofs.Ytiiobafcgdelmaa
open Go.RowKit
set_option linter.unusedVariables false
set_option linter.unusedSimpArgs false

/-- what fits, but for the lists' lengths -/
structure FitL (a : AM.At) : Prop where
  p1 : 0 ≤ a.ph
  p2 : a.ph ≤ 255
  b1 : -9223372036854775808 ≤ a.ba
  b2 : a.ba ≤ 9223372036854775807
  wi : a.wi.size ≤ maxLen
  va : a.va.size ≤ maxLen
  all : ∀ p ∈ a.ps, FitP p
  ms : a.ms.length ≤ maxLen
  ps : a.ps.length ≤ maxLen
  ac : a.ac.length ≤ maxLen
theorem FitL.fit {a : AM.At} (h : FitL a) (h1 : a.ms.length ≤ 100) (h2 : a.ps.length ≤ 50) (h3 : a.ac.length ≤ 100) : Fit a := ⟨h.p1, h.p2, h.b1, h.b2, h.wi, by omega, by omega, by omega, h.all⟩
def GreatIs (a : AM.At) (w : World) (e : Ending) (w' : World) : Prop := ∃ b, e = .returned (.bool b) ∧ (b = false → a.ms.length ≤ 100 ∧ a.ps.length ≤ 50 ∧ a.ac.length ≤ 100) ∧ Below w.heap.size w w'
theorem GreatIs.mk {a : AM.At} {b : Bool} {w w' : World} (h : b = false → a.ms.length ≤ 100 ∧ a.ps.length ≤ 50 ∧ a.ac.length ≤ 100) (hb : Below w.heap.size w w') : GreatIs a w (.returned (.bool b)) w' := ⟨b, rfl, h, hb⟩

set_option maxRecDepth 100000 in
set_option maxHeartbeats 4000000 in
theorem great_any (v : Value) (a : AM.At) (w : World) (H : AtIs w v a) (F : FitL a) :
    Calls Try.prog 25 #[v] w (GreatIs a w) := by
  obtain ⟨A, n, c, B, m, d, C, k, f, rfl, h1, h2, h3⟩ := H
  have l1 : a.ms.length = n := by have := h1.1; rwa [ic_length] at this
  have l2 : a.ps.length = m := h2.1
  have l3 : a.ac.length = k := by have := h3.1; rwa [ic_length] at this
  have hn : n ≤ 9223372036854775807 := by have := F.ms; unfold maxLen at this; omega
  have hm : m ≤ 9223372036854775807 := by have := F.ps; unfold maxLen at this; omega
  have hk : k ≤ 9223372036854775807 := by have := F.ac; unfold maxLen at this; omega
  have hwi : a.wi.size ≤ 9223372036854775807 := by have := F.wi; unfold maxLen at this; omega
  have hva : a.va.size ≤ 9223372036854775807 := by have := F.va; unfold maxLen at this; omega
  have HF := Lib.hid F.all
  have hret : ∀ (b : Bool), (b = false → n ≤ 100 ∧ m ≤ 50 ∧ k ≤ 100) → ∀ w', Below w.heap.size w w' → GreatIs a w (.returned (.bool b)) w' := fun b hb w' hw => GreatIs.mk (by rw [l1, l2, l3]; exact hb) hw
  have HRET := Lib.hid hret
  obtain ⟨W0, hW0⟩ : ∃ W0, W0 = w.alloc (.cells #[.int .u8 a.ph, .int .i64 a.ba, .slice A n c, .string a.wi, .string a.va, .slice B m d, .slice C k f] 49) := ⟨_, rfl⟩
  have hb0 : Below w.heap.size w W0 := by rw [hW0]; exact (Below.refl _ _).alloc (Nat.le_refl _) _
  have hx0 : Box W0 w.heap.size 49 #[.int .u8 a.ph, .int .i64 a.ba, .slice A n c, .string a.wi, .string a.va, .slice B m d, .slice C k f] := by rw [hW0]; exact Box.new _ _ _
  have HB0 := Lib.hid hb0
  have X0 := Lib.hid hx0
  have H2 := Lib.hid (h2.below hb0)
  clear hret hb0 hx0 h1 h2 h3 l1 l2 l3 F
  go_enter Try.func25, Try.ntmps25
  go_upto_region 2 with (fail)
  rw [← hW0]
  clear hW0
  obtain ⟨⟨x0, x1, x2, x3, x4, x5, x6⟩, _⟩ := X0.out.seven
  go_wp2_with fail
  go_loop [3, 4] (fun s i => ∃ (j : Nat) (z : Int), j ≤ m ∧ i = .int .i64 j ∧ s = .int .i64 z) (fun _ i => m - (intOf i).toNat)
  case atStart => exact ⟨0, _, by omega, rfl, rfl⟩
  case round =>
    obtain ⟨j, z, hj, rfl, rfl⟩ := hrel
    by_cases hlt : j < m ∧ j < 100
    · obtain ⟨hl1, hl2⟩ := hlt
      obtain ⟨bl, o, p, rfl, hbl, hp, c0, c1, c2⟩ := H2.out.at_ hl1
      have hpv : p.v.size ≤ 9223372036854775807 := by
        have := (HF.out p (List.mem_of_getElem? hp)).v
        unfold maxLen at this; omega
      have t1 : decide ((j : Int) < (m : Int)) = true := by simp; omega
      have t2 : decide ((j : Int) < 100) = true := by simp; omega
      have t3 : decide (j < m) = true := by simp; omega
      have t4 : decide (j < 100) = true := by simp; omega
      clear hp
      go_wp2_with fail
      go_round
      case rel => exact ⟨j + 1, _, by omega, by go_num, rfl⟩
      case measure => simp [intOf]; omega
    · rcases (show (¬ j < m) ∨ (j < m ∧ ¬ j < 100) by omega) with h0 | ⟨h0, h0'⟩
      all_goals
        clear hlt
        by_cases e1 : n ≤ 100
        · by_cases e2 : m ≤ 50
          · by_cases e3 : k ≤ 100
            · first
                | (exfalso; omega)
                | (go_wp2_with fail
                   go_ret
                   exact HRET.out _ (fun _ => ⟨e1, e2, e3⟩) _ HB0.out)
            · first
                | (exfalso; omega)
                | (go_wp2_with fail
                   go_ret
                   exact HRET.out true (fun h => by cases h) _ HB0.out)
          · go_wp2_with fail
            go_ret
            exact HRET.out true (fun h => by cases h) _ HB0.out
        · go_wp2_with fail
          go_ret
          exact HRET.out true (fun h => by cases h) _ HB0.out
end Go.Proofs.Ytiiobafcgdelmaa
