/-
  Words for the laws' loops: an answer in a variable of the round; what an attempt keeps as promises come; the greatest ballot. No walk.
-/
import Derived.Test.YtmcfamoicdmkdaaAttW
import Derived.Test.YtmcfamoicdmkdaaAttFit
namespace Go.Proofs.Ytmcfamoicdmkdaa
open Go.RowKit
set_option linter.unusedVariables false

/-- a call's answer in a variable that the round lays -/
def LoopMid (wr : World) (y : AM.At) (e : Int) (u v : Value) (wx : World) : Prop :=
  ∃ g A c D q C f, u = .pointer (some ⟨g, 0, none⟩) ∧ v = .int .i64 e ∧ Below wr.heap.size wr wx ∧ wr.heap.size ≤ g ∧
    Box wx g 25 #[.int .u8 y.ph, .int .i64 y.ba, .slice A y.ms.length c, .string y.wi, .string y.va, .slice D y.ps.length q, .slice C y.ac.length f] ∧
    AtOwn wx wr.heap.size (.agg #[.int .u8 y.ph, .int .i64 y.ba, .slice A y.ms.length c, .string y.wi, .string y.va, .slice D y.ps.length q, .slice C y.ac.length f]) y
theorem lm_1 {wr w4 : World} {y : AM.At} {e : Int} {A D C : Option Addr} {c q f : Nat} (hb : Below wr.drew.heap.size wr.drew w4)
    (own : AtOwn w4 wr.drew.heap.size (.agg #[.int .u8 y.ph, .int .i64 y.ba, .slice A y.ms.length c, .string y.wi, .string y.va, .slice D y.ps.length q, .slice C y.ac.length f]) y) :
    Below wr.heap.size wr w4 ∧ LoopMid wr y e (.pointer (some ⟨w4.heap.size, 0, none⟩)) (.int .i64 e) (w4.alloc (.cells #[.int .u8 y.ph, .int .i64 y.ba, .slice A y.ms.length c, .string y.wi, .string y.va, .slice D y.ps.length q, .slice C y.ac.length f] 25)) := by
  have h : Below wr.heap.size wr w4 := bmore ((Below.refl _ _).drew) hb (Nat.le_refl _)
  exact ⟨h, _, A, c, D, q, C, f, rfl, rfl, h.alloc h.size _, h.size, Box.new _ _ _, own.below ((Below.refl _ _).alloc (Nat.le_refl _) _)⟩
theorem lm_2 {wr w4 : World} {y : AM.At} {e : Int} {A D C : Option Addr} {c q f : Nat} {z0 z1 z2 z3 z4 z5 z6 : Value}
    (hb : Below ((wr.alloc (.cells #[z0, z1, z2, z3, z4, z5, z6] 25)).drew).heap.size ((wr.alloc (.cells #[z0, z1, z2, z3, z4, z5, z6] 25)).drew) w4)
    (own : AtOwn w4 ((wr.alloc (.cells #[z0, z1, z2, z3, z4, z5, z6] 25)).drew).heap.size (.agg #[.int .u8 y.ph, .int .i64 y.ba, .slice A y.ms.length c, .string y.wi, .string y.va, .slice D y.ps.length q, .slice C y.ac.length f]) y) :
    Below wr.heap.size wr w4 ∧ Box w4 wr.heap.size 25 #[z0, z1, z2, z3, z4, z5, z6] ∧ LoopMid wr y e (.pointer (some ⟨wr.heap.size, 0, none⟩)) (.int .i64 e)
      (put7 w4 wr.heap.size (.int .u8 y.ph) (.int .i64 y.ba) (.slice A y.ms.length c) (.string y.wi) (.string y.va) (.slice D y.ps.length q) (.slice C y.ac.length f)) := by
  have h : Below wr.heap.size wr w4 := bmore (((Below.refl _ _).alloc (Nat.le_refl _) _).drew) hb (Nat.le_refl _)
  have hlt : wr.heap.size < ((wr.alloc (.cells #[z0, z1, z2, z3, z4, z5, z6] 25)).drew).heap.size := by show wr.heap.size < (wr.alloc (.cells #[z0, z1, z2, z3, z4, z5, z6] 25)).heap.size; simp
  have hx : Box w4 wr.heap.size 25 #[z0, z1, z2, z3, z4, z5, z6] := ((Box.new wr 25 #[z0, z1, z2, z3, z4, z5, z6]).drew).below hb hlt
  obtain ⟨x, y', z, ev, o1, o2, o3⟩ := own
  exact ⟨h, hx, _, A, c, D, q, C, f, rfl, rfl, below_put7 h (Nat.le_refl _) .., Nat.le_refl _, hx.put7 .., x, y', z, ev, own_base (own_put7 o1 hlt ..) (Nat.le_of_lt hlt), own_base (own_put7 o2 hlt ..) (Nat.le_of_lt hlt), own_base (own_put7 o3 hlt ..) (Nat.le_of_lt hlt)⟩

-- what an attempt keeps as promises come
def TellInv (ms : List Int) (ba : Int) (wi : ByteArray) (x : AM.At) : Prop := AM.may x = true ∧ (x.ph = 1 ∨ x.ph = 2) ∧ x.ba = ba ∧ x.wi = wi ∧ x.ms = ms ∧ Fit x
theorem tell_start {ms : List Int} {ba : Int} {wi : ByteArray} (h : AM.BegIs ms ba wi 0) (F : Fit (AM.start ms ba wi)) : TellInv ms ba wi (AM.start ms ba wi) := by
  have hb := AM.begIs_zero.1 h
  refine ⟨AM.may_mk (by simp [AM.start]) (by simp [AM.start]) (AM.okL_parts'.2 ⟨hb, rfl, rfl, rfl⟩) ?_, .inl rfl, rfl, rfl, rfl, F⟩
  show if (1 : Int) = 1 then _ else _
  rw [if_pos rfl]
  exact ⟨AM.most_none, rfl, rfl⟩
theorem tell_next {ms : List Int} {ba b : Int} {wi : ByteArray} {x : AM.At} {p : AM.Pr} (h : TellInv ms ba wi x) (FP : FitP p) (he : AM.errP x b p = 0) : TellInv ms ba wi (AM.prom x b p) := by
  obtain ⟨h1, h2, h3, h4, h5, h6⟩ := h
  have m1 := AM.may_prom he
  have f1 := fit_prom (b := b) h6 FP
  have e := AM.prom_eq he
  refine ⟨m1, ?_, ?_, ?_, ?_, f1⟩
  all_goals rw [e]; split
  all_goals first | exact .inr rfl | exact .inl rfl | exact h3 | exact h4 | exact h5
-- the greatest ballot
def grF : Int → List AM.Pr → Int
  | g, [] => g
  | g, p :: l => grF (max g p.b) l
theorem best_gr : ∀ (l : List AM.Pr) (m : Int) (s : ByteArray), (grF m l = m ∧ AM.bestF m s l = s) ∨ (m < grF m l ∧ ∃ p ∈ l, p.b = grF m l ∧ p.v = AM.bestF m s l)
  | [], m, s => .inl ⟨rfl, rfl⟩
  | p :: l, m, s => by
    unfold grF AM.bestF
    by_cases h : m < p.b
    · rw [if_pos h, show max m p.b = p.b by omega]
      rcases best_gr l p.b p.v with ⟨e1, e2⟩ | ⟨e1, q, hq, e2, e3⟩
      · exact .inr ⟨by omega, p, List.mem_cons_self .., by omega, e2.symm⟩
      · exact .inr ⟨by omega, q, List.mem_cons_of_mem _ hq, e2, e3⟩
    · rw [if_neg h, show max m p.b = m by omega]
      rcases best_gr l m s with ⟨e1, e2⟩ | ⟨e1, q, hq, e2, e3⟩
      · exact .inl ⟨e1, e2⟩
      · exact .inr ⟨e1, q, List.mem_cons_of_mem _ hq, e2, e3⟩
/-- is a promise the one that tells? -/
def hit (G : Int) (va : ByteArray) (p : AM.Pr) : Bool := (p.b == G) && (p.v.toList == va.toList)
theorem best_hit {l : List AM.Pr} {wi : ByteArray} {G : Int} (hG : grF 0 l = G) : (¬ 0 < G → AM.best l wi = wi) ∧ (0 < G → l.any (hit G (AM.best l wi)) = true) := by
  unfold AM.best
  rcases best_gr l 0 wi with ⟨e1, e2⟩ | ⟨e1, q, hq, e2, e3⟩
  · exact ⟨fun _ => e2, fun h => by omega⟩
  · refine ⟨fun h => by omega, fun _ => List.any_eq_true.2 ⟨q, hq, ?_⟩⟩
    unfold hit
    rw [← e3, ← hG, e2]
    simp
end Go.Proofs.Ytmcfamoicdmkdaa
