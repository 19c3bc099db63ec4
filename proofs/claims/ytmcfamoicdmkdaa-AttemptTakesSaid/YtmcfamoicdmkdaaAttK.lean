/-
  slices.Insert at the place where an element belongs, in a row of the call's own. Conditions: as in AttI.
-/
import Derived.Test.YtmcfamoicdmkdaaAttI
import Derived.Test.YtmcfamoicdmkdaaAttP
namespace Go.Proofs.Ytmcfamoicdmkdaa
open Go.RowKit
set_option linter.unusedVariables false

theorem insI_any (base n c i vb : Nat) (A : Option Addr) (xs vs : List Value) (w : World) (hi : i ≤ n) (hn : n ≤ 2000) (hbase : base ≤ w.heap.size) (ho : w.ownsRow base 3 1 (.slice A n c) n xs)
    (hv : Box w vb 3 vs.toArray) (hvl : vs.length = 1) (hvb : Value.ownBlock (.slice A n c) ≠ some vb) (h1 : ∀ u ∈ xs, u.oneCell' = true) (h1v : ∀ u ∈ vs, u.oneCell' = true) :
    Calls Try.prog 38 #[.slice A n c, .int .i64 i, .slice (some ⟨vb, 0, none⟩) 1 1] w (InsIs base 3 1 n (xs.take (i) ++ vs ++ xs.drop (i)) (Value.ownBlock (.slice A n c)) w) := by
  have hl := ho.1
  have hform := own_form ho
  obtain ⟨_, _, e, hnc, hcm⟩ := hform
  injection e with e1 e2 e3
  subst e3
  by_cases hin : i = n
  · subst hin
    rw [List.take_of_length_le (by omega), List.drop_eq_nil_of_le (by omega), List.append_nil]
    exact insI_end base i c vb A xs vs w hn hnc hcm hbase ho hv hvl h1v
  · have hlt : i < n := by omega
    rcases ho.2 with ⟨_, h0⟩ | ⟨g, cap, cur, hs, hb, hx, hnc', hcm', hsz, htk⟩
    · omega
    · injection hs with e1 e2 e3
      subst e1
      subst e3
      by_cases hroom : n + 1 ≤ c
      · exact insI_shift base g n c i vb xs vs cur w hlt hn hroom hcm hb hx hsz htk hl hv hvl (by intro h; apply hvb; rw [h]; rfl) h1 h1v
      · obtain rfl : n = c := by omega
        exact insI_grow base g n i vb xs vs cur w hlt hn hbase hx htk hl hv hvl h1 h1v

theorem insP_any (base n c i vb : Nat) (A : Option Addr) (xs vs : List Value) (w : World) (hi : i ≤ n) (hn : n ≤ 2000) (hbase : base ≤ w.heap.size) (ho : w.ownsRow base 31 3 (.slice A n c) n xs)
    (hv : Box w vb 31 vs.toArray) (hvl : vs.length = 3) (hvb : Value.ownBlock (.slice A n c) ≠ some vb) (h1 : ∀ u ∈ xs, u.oneCell' = true) (h1v : ∀ u ∈ vs, u.oneCell' = true) :
    Calls Try.prog 36 #[.slice A n c, .int .i64 i, .slice (some ⟨vb, 0, none⟩) 1 1] w (InsIs base 31 3 n (xs.take (i * 3) ++ vs ++ xs.drop (i * 3)) (Value.ownBlock (.slice A n c)) w) := by
  have hl := ho.1
  have hform := own_form ho
  obtain ⟨_, _, e, hnc, hcm⟩ := hform
  injection e with e1 e2 e3
  subst e3
  by_cases hin : i = n
  · subst hin
    rw [List.take_of_length_le (by omega), List.drop_eq_nil_of_le (by omega), List.append_nil]
    exact insP_end base i c vb A xs vs w hn hnc hcm hbase ho hv hvl h1v
  · have hlt : i < n := by omega
    rcases ho.2 with ⟨_, h0⟩ | ⟨g, cap, cur, hs, hb, hx, hnc', hcm', hsz, htk⟩
    · omega
    · injection hs with e1 e2 e3
      subst e1
      subst e3
      by_cases hroom : n + 1 ≤ c
      · exact insP_shift base g n c i vb xs vs cur w hlt hn hroom hcm hb hx hsz htk hl hv hvl (by intro h; apply hvb; rw [h]; rfl) h1 h1v
      · obtain rfl : n = c := by omega
        exact insP_grow base g n i vb xs vs cur w hlt hn hbase hx htk hl hv hvl h1 h1v

theorem insI_at (base n c vb : Nat) (A : Option Addr) (zs : List Int) (x : Int) (w : World) (hn : n ≤ 2000) (hbase : base ≤ w.heap.size) (ho : w.ownsRow base 3 1 (.slice A n c) n (ic zs))
    (hv : Box w vb 3 #[.int .i64 x]) (hvb : Value.ownBlock (.slice A n c) ≠ some vb) :
    Calls Try.prog 38 #[.slice A n c, .int .i64 (pos zs x : Nat), .slice (some ⟨vb, 0, none⟩) 1 1] w (InsIs base 3 1 n (ic (AM.insI zs x)) (Value.ownBlock (.slice A n c)) w) := by
  have hl : zs.length = n := by have := ho.1; rw [ic_length] at this; omega
  have h := insI_any base n c (pos zs x) vb A (ic zs) [.int .i64 x] w (by have := pos_le zs x; omega) hn hbase ho hv rfl hvb (ic_one _) (by intro u hu; simp at hu; subst hu; rfl)
  rw [insI_pos, ic_append, ← ic_take]
  rw [ic_drop, show [Value.int IntKind.i64 x] = ic [x] from rfl, List.append_assoc, ← ic_append] at h
  exact h
theorem insP_at (base n c vb : Nat) (A : Option Addr) (ps : List AM.Pr) (p : AM.Pr) (w : World) (hn : n ≤ 2000) (hbase : base ≤ w.heap.size) (ho : w.ownsRow base 31 3 (.slice A n c) n (pp ps))
    (hv : Box w vb 31 #[.int .i64 p.n, .int .i64 p.b, .string p.v]) (hvb : Value.ownBlock (.slice A n c) ≠ some vb) :
    Calls Try.prog 36 #[.slice A n c, .int .i64 (pos (AM.nodes ps) p.n : Nat), .slice (some ⟨vb, 0, none⟩) 1 1] w (InsIs base 31 3 n (pp (AM.insP ps p)) (Value.ownBlock (.slice A n c)) w) := by
  have hl : ps.length = n := by have := ho.1; rw [pp_length] at this; omega
  have h := insP_any base n c (pos (AM.nodes ps) p.n) vb A (pp ps) [.int .i64 p.n, .int .i64 p.b, .string p.v] w (by have := pos_le (AM.nodes ps) p.n; rw [AM.nodes_length] at this; omega) hn hbase ho hv rfl hvb (pp_one _) (by intro u hu; simp at hu; rcases hu with rfl | rfl | rfl <;> rfl)
  rw [insP_pos, pp_append, ← pp_take]
  rw [pp_drop, show [Value.int IntKind.i64 p.n, .int .i64 p.b, .string p.v] = pp [p] from rfl, List.append_assoc, ← pp_append] at h
  exact h
end Go.Proofs.Ytmcfamoicdmkdaa
