/-
  What the document's own Apply of layer 11 answers (towncrierref11.Apply). Conditions: texts' lengths are ones that Go has.
-/
import Derived.Test.YtohiemdodffhoaaStTw
import Derived.Test.YtohiemdodffhoaaStD
import Derived.Test.YtohiemdodffhoaaStLen
import Derived.Test.YtohiemdodffhoaaRecRM
import Derived.Test.YtohiemdodffhoaaVoteR
namespace Go.Proofs.Ytohiemdodffhoaa.SP
open Go.RowKit Go.Shelf
open SM (Sn Sb Vo)
set_option linter.unusedVariables false
set_option linter.unusedSimpArgs false
set_option maxRecDepth 100000

/-- what May answers (StMay) -/
def MayC : Prop := ∀ (v : Value) (x : Sb) (W : World), StIs W v x → Fit x →
    Calls Try.prog 27 #[v] W fun e w' => e = .returned (.bool (decide (SM.may x))) ∧ Below W.heap.size W w'
theorem llen_at {ls : List (List ByteArray)} {g : Nat} {l : List ByteArray} (h : ls[g]? = some l) : SM.llen ls g = l.length := by unfold SM.llen; simp [h]
theorem app_6 {x : Sb} {r : RM.Rc} (hm : SM.may x) (hr : RM.may r) (h : (x.logs.length : Int) ≤ r.g) : SM.appF x r = (SM.zero, 6) := by
  unfold SM.appF; rw [if_neg (fun k => k.elim (fun k => k hm) (fun k => k hr)), if_pos h]
theorem app_8 {x : Sb} {r : RM.Rc} (hm : SM.may x) (hr : RM.may r) (h : ¬ (x.logs.length : Int) ≤ r.g) (h2 : r.s ≤ SM.llen x.logs r.g ∨ (r.k = 3 ∧ r.s ≠ SM.llen x.logs r.g + 1)) : SM.appF x r = (SM.zero, 8) := by
  unfold SM.appF; rw [if_neg (fun k => k.elim (fun k => k hm) (fun k => k hr)), if_neg h, if_pos h2]
theorem app_1 {x : Sb} {g s b : Int} {t : ByteArray} (hm : SM.may x) (hr : RM.may ⟨1, g, s, b, t⟩) (h : ¬ (x.logs.length : Int) ≤ g) (h2 : ¬ s ≤ SM.llen x.logs g) :
    SM.appF x ⟨1, g, s, b, t⟩ = if (SM.prepF (SM.find x.votes g s) b).2 ≠ 0 then (SM.zero, (SM.prepF (SM.find x.votes g s) b).2) else (⟨x.logs, SM.put x.votes ⟨g, s, (SM.prepF (SM.find x.votes g s) b).1⟩⟩, 0) := by
  unfold SM.appF; rw [if_neg (fun k => k.elim (fun k => k hm) (fun k => k hr)), if_neg h, if_neg (fun k => k.elim h2 (fun k => absurd k.1 (show ¬ (1 : Int) = 3 by decide)))]; exact if_pos rfl
theorem app_2 {x : Sb} {g s b : Int} {t : ByteArray} (hm : SM.may x) (hr : RM.may ⟨2, g, s, b, t⟩) (h : ¬ (x.logs.length : Int) ≤ g) (h2 : ¬ s ≤ SM.llen x.logs g) :
    SM.appF x ⟨2, g, s, b, t⟩ = if (SM.accF (SM.find x.votes g s) b t).2 ≠ 0 then (SM.zero, (SM.accF (SM.find x.votes g s) b t).2) else (⟨x.logs, SM.put x.votes ⟨g, s, (SM.accF (SM.find x.votes g s) b t).1⟩⟩, 0) := by
  unfold SM.appF; rw [if_neg (fun k => k.elim (fun k => k hm) (fun k => k hr)), if_neg h, if_neg (fun k => k.elim h2 (fun k => absurd k.1 (show ¬ (2 : Int) = 3 by decide)))]; exact (if_neg (show ¬ (2 : Int) = 1 by decide)).trans (if_pos rfl)
theorem app_3 {x : Sb} {g s b : Int} {t : ByteArray} (hm : SM.may x) (hr : RM.may ⟨3, g, s, b, t⟩) (h : ¬ (x.logs.length : Int) ≤ g) (h2 : ¬ s ≤ SM.llen x.logs g) (h3 : s = SM.llen x.logs g + 1) :
    SM.appF x ⟨3, g, s, b, t⟩ = (⟨x.logs.modify g.toNat (· ++ [t]), SM.put x.votes ⟨g, s, SM.vz⟩⟩, 0) := by
  unfold SM.appF; rw [if_neg (fun k => k.elim (fun k => k hm) (fun k => k hr)), if_neg h, if_neg (fun k => k.elim h2 (fun k => k.2 h3))]; exact (if_neg (show ¬ (3 : Int) = 1 by decide)).trans (if_neg (show ¬ (3 : Int) = 2 by decide))
/-- Apply's variables -/
structure ApR (W : World) (g0 : Nat) (X R : Array Value) (wr : World) : Prop where
  bl : Below W.heap.size W wr
  hg : g0 = W.heap.size
  bx : Box wr g0 25 X
  br : Box wr (g0 + 1) 29 R
  bz : Box wr (g0 + 1 + 1) 25 #[.slice none 0 0, .slice none 0 0]
theorem ApR.below {W wr wr' : World} {g0 : Nat} {X R : Array Value} (h : ApR W g0 X R wr) (hb : Below wr.heap.size wr wr') : ApR W g0 X R wr' :=
  ⟨bmore h.bl hb (Nat.le_refl _), h.hg, h.bx.below hb h.bx.lt, h.br.below hb h.br.lt, h.bz.below hb h.bz.lt⟩
theorem ap_new {W : World} {X R : Array Value} : ApR W W.heap.size X R (((W.alloc (.cells X 25)).alloc (.cells R 29)).alloc (.cells #[.slice none 0 0, .slice none 0 0] 25)) := by
  have b3 : Below W.heap.size W (((W.alloc (.cells X 25)).alloc (.cells R 29)).alloc (.cells #[.slice none 0 0, .slice none 0 0] 25)) := (((Below.refl _ _).alloc (Nat.le_refl _) _).alloc (by simp) _).alloc (by simp; omega) _
  exact ⟨b3, rfl, ((Box.new W _ _).alloc _).alloc _, (Box.new_at _ (by simp)).alloc _, Box.new_at _ (by simp)⟩
def AppPost (x : Sb) (r : RM.Rc) (W : World) (e : Ending) (w' : World) : Prop := ∃ v', e = .returned (.tuple #[v', .int .i64 (SM.appF x r).2]) ∧ StTy w' v' (SM.appF x r).1 ∧ Below W.heap.size W w'
/-- an error -/
theorem ap_err {W wr : World} {g0 : Nat} {X R : Array Value} {x : Sb} {r : RM.Rc} {e : Int} (h : ApR W g0 X R wr) (he : SM.appF x r = (SM.zero, e)) :
    AppPost x r W (.returned (.tuple #[.agg #[.slice none 0 0, .slice none 0 0], .int .i64 e])) ((wr.setCell ⟨g0 + 1 + 1, 0, none⟩ (.slice none 0 0)).setCell ⟨g0 + 1 + 1, 1, none⟩ (.slice none 0 0)) :=
  ⟨_, by rw [he], by rw [he]; exact ty_zero _, (h.bl.setCell (p := ⟨g0 + 1 + 1, 0, none⟩) (by show _ ≤ g0 + 1 + 1; have := h.hg; omega) _).setCell (p := ⟨g0 + 1 + 1, 1, none⟩) (by show _ ≤ g0 + 1 + 1; have := h.hg; omega) _⟩
/-- what is done, told -/
theorem ap_fin {W wr : World} {g0 : Nat} {X R : Array Value} {x : Sb} {r : RM.Rc} {ls : List (List ByteArray)} {vs : List Sn} {vL vV : Value} {rows : List Value} (h : ApR W g0 X R wr) (he : SM.appF x r = (⟨ls, vs⟩, 0))
    (h1 : wr.ownsRow W.heap.size 32 1 vL ls.length rows) (h2 : RwOwn wr W.heap.size rows ls) (h3 : wr.ownsRow W.heap.size 75 5 vV vs.length (flat sncell vs)) :
    AppPost x r W (.returned (.tuple #[.agg #[vL, vV], .int .i64 0])) ((wr.setCell ⟨g0 + 1 + 1, 0, none⟩ vL).setCell ⟨g0 + 1 + 1, 1, none⟩ vV) := by
  have b1 := h.bz.stored 0 vL
  have k2 : Kept isSt wr ((wr.setCell ⟨g0 + 1 + 1, 0, none⟩ vL).setCell ⟨g0 + 1 + 1, 1, none⟩ vV) := (Kept.set (S := isSt) h.bz rfl _).trans (Kept.set (S := isSt) b1 rfl _)
  exact ⟨_, by rw [he], by rw [he]; exact ⟨_, _, rows, rfl, own_base (k2.own h1 (by unfold isSt; decide)) (Nat.zero_le _), (h2.kept k2 (by unfold isSt; decide)).zero, own_base (k2.own h3 (by unfold isSt; decide)) (Nat.zero_le _)⟩, (h.bl.setCell (p := ⟨g0 + 1 + 1, 0, none⟩) (by show _ ≤ g0 + 1 + 1; have := h.hg; omega) _).setCell (p := ⟨g0 + 1 + 1, 1, none⟩) (by show _ ≤ g0 + 1 + 1; have := h.hg; omega) _⟩
theorem five_box {w : World} {g : Nat} {t : TypeId} {a b c d f : Value} (h : Box w g t #[a, b, c, d, f]) :
    w.cell? ⟨g, 0, none⟩ = some a ∧ w.cell? ⟨g, 1, none⟩ = some b ∧ w.cell? ⟨g, 2, none⟩ = some c ∧ w.cell? ⟨g, 3, none⟩ = some d ∧ w.cell? ⟨g, 4, none⟩ = some f :=
  ⟨h.cell 0, h.cell 1, h.cell 2, h.cell 3, h.cell 4⟩
/-- one log lengthened: its row in its own block, the others in others -/
theorem rw_more {w w9 : World} {base gi : Nat} {rows : List Value} {ls : List (List ByteArray)} {l : List ByteArray} {t : ByteArray} {u u9 : Value} (h : RwOwn w base rows ls) (ha : Apart rows) (hu : rows[gi]? = some u) (hl : ls[gi]? = some l)
    (o9 : w9.ownsRow base 9 1 u9 (l.length + 1) (tc l ++ [.string t])) (g9 : w.grownBy w9 u.ownBlock) : RwOwn w9 base (rows.set gi u9) (ls.set gi (l ++ [t])) := by
  have hk := (List.getElem?_eq_some_iff.1 hl).1
  refine ⟨by simp [h.1], fun i m hi => ?_⟩
  rw [List.getElem?_set] at hi
  by_cases hik : gi = i
  · subst hik
    rw [if_pos rfl, if_pos hk] at hi
    injection hi with hi
    subst hi
    refine ⟨u9, by rw [List.getElem?_set, if_pos rfl, if_pos (by rw [h.1]; exact hk)], ?_⟩
    rw [List.length_append, tc_append]
    exact o9
  · rw [if_neg hik] at hi
    obtain ⟨y, h1, h2⟩ := h.2 i m hi
    refine ⟨y, by rw [List.getElem?_set, if_neg hik]; exact h1, own_grown h2 g9 (fun b hb e => ?_)⟩
    exact ha gi i u y b hik hu h1 e.symm hb
theorem modify_set {ls : List (List ByteArray)} {gi : Nat} {l : List ByteArray} {t : ByteArray} (hl : ls[gi]? = some l) : ls.modify gi (· ++ [t]) = ls.set gi (l ++ [t]) := by
  obtain ⟨hgl, hv⟩ := List.getElem?_eq_some_iff.1 hl
  apply List.ext_getElem?
  intro i
  rw [SM.get_modify, List.getElem?_set]
  by_cases h : gi = i
  · subst h; rw [if_pos rfl, if_pos rfl, if_pos hgl, hl]; rfl
  · rw [if_neg h, if_neg h]
def isStr (e : TypeId) : Prop := e = 9
/-- a variable behind them is stored into -/
theorem ApR.set {W wr : World} {g0 q i : Nat} {X R : Array Value} (h : ApR W g0 X R wr) (hq : g0 + 1 + 1 < q) (v : Value) : ApR W g0 X R (wr.setCell ⟨q, i, none⟩ v) :=
  ⟨h.bl.setCell (p := ⟨q, i, none⟩) (by show _ ≤ q; have := h.hg; omega) v, h.hg, h.bx.far (p := ⟨q, i, none⟩) (by show g0 ≠ q; omega) v, h.br.far (p := ⟨q, i, none⟩) (by show g0 + 1 ≠ q; omega) v, h.bz.far (p := ⟨q, i, none⟩) (by show g0 + 1 + 1 ≠ q; omega) v⟩
theorem ApR.behind {W wr : World} {g0 : Nat} {X R : Array Value} (h : ApR W g0 X R wr) : g0 + 1 + 1 < wr.heap.size := h.bz.lt
end Go.Proofs.Ytohiemdodffhoaa.SP
