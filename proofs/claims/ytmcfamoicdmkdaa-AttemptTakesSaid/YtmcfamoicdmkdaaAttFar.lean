/-
  Rows of the call's own stay where a variable that holds an attempt is stored into. No walk.
-/
import Derived.Test.YtmcfamoicdmkdaaAttAlive
namespace Go.Proofs.Ytmcfamoicdmkdaa
open Go.RowKit
set_option linter.unusedVariables false

theorem own_setother {w : World} {base s n g i : Nat} {e T : TypeId} {v : Value} {xs : List Value} {cs : Array Value} (h : w.ownsRow base e s v n xs) (hb : Box w g T cs) (he : T ≠ e) (u : Value) : (w.setCell ⟨g, i, none⟩ u).ownsRow base e s v n xs := by
  refine ⟨h.1, ?_⟩
  rcases h.2 with h0 | ⟨g', cap, cur, hv, hbg, hx, hrest⟩
  · exact .inl h0
  · refine .inr ⟨g', cap, cur, hv, hbg, Box.far (g := g') hx (p := ⟨g, i, none⟩) (fun e' => ?_) u, hrest⟩
    have e2 : g' = g := e'
    subst e2
    rw [Box] at hb
    rw [hx] at hb
    injection hb with hb
    injection hb with _ hb
    exact he hb.symm
theorem AtOwn.setother {w : World} {base g i : Nat} {v : Value} {a : AM.At} {cs : Array Value} (h : AtOwn w base v a) (hb : Box w g 25 cs) (u : Value) : AtOwn (w.setCell ⟨g, i, none⟩ u) base v a := by
  obtain ⟨x, y, z, e, h1, h2, h3⟩ := h
  exact ⟨x, y, z, e, own_setother h1 hb (by decide) u, own_setother h2 hb (by decide) u, own_setother h3 hb (by decide) u⟩
theorem AtOwn.far7 {w : World} {base g : Nat} {v : Value} {a : AM.At} {c0 c1 c2 c3 c4 c5 c6 : Value} (h : AtOwn w base v a) (hb : Box w g 25 #[c0, c1, c2, c3, c4, c5, c6]) (x1 x2 x3 x4 x5 x6 x7 : Value) : AtOwn (Go.Proofs.Ytmcfamoicdmkdaa.put7 w g x1 x2 x3 x4 x5 x6 x7) base v a := by
  have k1 := h.setother (i := 0) hb x1
  have b1 := hb.stored 0 x1
  have k2 := k1.setother (i := 1) b1 x2
  have b2 := b1.stored 1 x2
  have k3 := k2.setother (i := 2) b2 x3
  have b3 := b2.stored 2 x3
  have k4 := k3.setother (i := 3) b3 x4
  have b4 := b3.stored 3 x4
  have k5 := k4.setother (i := 4) b4 x5
  have b5 := b4.stored 4 x5
  have k6 := k5.setother (i := 5) b5 x6
  have b6 := b5.stored 5 x6
  exact k6.setother (i := 6) b6 x7
end Go.Proofs.Ytmcfamoicdmkdaa
