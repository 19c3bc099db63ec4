/-
  A law's variable that holds what Do answered. No walk.
-/
import Derived.Test.YtiiobafcgdelmaaK40
namespace Go.Proofs.Ytiiobafcgdelmaa.PD
open Go.RowKit Go.Shelf
set_option linter.unusedVariables false
set_option linter.unusedSimpArgs false

def DoMid (u : World) (w : DC.Wd) (m : DC.Mv) (x y : Value) (wx : World) : Prop :=
  ∃ g yy, x = .pointer (some ⟨g, 0, none⟩) ∧ y = .int .i64 yy ∧ Below u.heap.size u wx ∧ u.heap.size ≤ g ∧ DoIs w m yy ∧
    ((yy ≠ 0 ∧ Box wx g 28 #[.slice none 0 0, .slice none 0 0, .slice none 0 0, .slice none 0 0, .slice none 0 0]) ∨ (yy = 0 ∧ WVar u wx g (DC.aft w m)))
theorem doMid_zero {u wz : World} {w : DC.Wd} {m : DC.Mv} {g : Nat} {yy : Int} (hb : Below u.heap.size u wz) (hg : u.heap.size ≤ g) (hx : Box wz g 28 #[.slice none 0 0, .slice none 0 0, .slice none 0 0, .slice none 0 0, .slice none 0 0]) (hd : DoIs w m yy) (hy : yy ≠ 0) :
    DoMid u w m (.pointer (some ⟨g, 0, none⟩)) (.int .i64 yy) (((((wz.setCell ⟨g, 0, none⟩ (.slice none 0 0)).setCell ⟨g, 1, none⟩ (.slice none 0 0)).setCell ⟨g, 2, none⟩ (.slice none 0 0)).setCell ⟨g, 3, none⟩ (.slice none 0 0)).setCell ⟨g, 4, none⟩ (.slice none 0 0)) := by
  have hres := res5 hx (.slice none 0 0) (.slice none 0 0) (.slice none 0 0) (.slice none 0 0) (.slice none 0 0)
  exact ⟨g, yy, rfl, rfl, hres.2.2 _ _ hb hg, hg, hd, .inl ⟨hy, hres.1⟩⟩
theorem doMid_own {u wz : World} {w wa : DC.Wd} {m : DC.Mv} {g : Nat} {A0 A1 A2 A3 A4 : Option Addr} {c0 c1 c2 c3 c4 : Nat} (hb : Below u.heap.size u wz) (hg : u.heap.size ≤ g) (hx : Box wz g 28 #[.slice none 0 0, .slice none 0 0, .slice none 0 0, .slice none 0 0, .slice none 0 0]) (hd : DoIs w m 0)
    (ha : DC.aft w m = wa) (ho : WOwn wz u.heap.size (.agg #[.slice A0 wa.ms.length c0, .slice A1 wa.vs.length c1, .slice A2 wa.ts.length c2, .slice A3 wa.ml.length c3, .slice A4 wa.ch.length c4]) wa) :
    DoMid u w m (.pointer (some ⟨g, 0, none⟩)) (.int .i64 0) (((((wz.setCell ⟨g, 0, none⟩ (.slice A0 wa.ms.length c0)).setCell ⟨g, 1, none⟩ (.slice A1 wa.vs.length c1)).setCell ⟨g, 2, none⟩ (.slice A2 wa.ts.length c2)).setCell ⟨g, 3, none⟩ (.slice A3 wa.ml.length c3)).setCell ⟨g, 4, none⟩ (.slice A4 wa.ch.length c4)) := by
  subst ha
  have hres := res5 hx (.slice A0 (DC.aft w m).ms.length c0) (.slice A1 (DC.aft w m).vs.length c1) (.slice A2 (DC.aft w m).ts.length c2) (.slice A3 (DC.aft w m).ml.length c3) (.slice A4 (DC.aft w m).ch.length c4)
  exact ⟨g, 0, rfl, rfl, hres.2.2 _ _ hb hg, hg, hd, .inr ⟨rfl, A0, c0, A1, c1, A2, c2, A3, c3, A4, c4, hg, hres.1, ho.kept hres.2.1⟩⟩
end Go.Proofs.Ytiiobafcgdelmaa.PD
