/-
  What lasts of a node in memory of its own: rows from block 'base' on. No walk.
-/
import Derived.Test.YtohiemdodffhoaaStMem
import Derived.Test.YtohiemdodffhoaaProg
namespace Go.Proofs.Ytohiemdodffhoaa.SP
open Go.RowKit
open SM (Sn Sb Vo)
set_option linter.unusedVariables false
set_option linter.unusedSimpArgs false

theorem _root_.Go.Proofs.Ytohiemdodffhoaa.Box.two {w : World} {g : Nat} {t : TypeId} {a b : Value} (h : Box w g t #[a, b]) :
    w.cell? ⟨g, 0, none⟩ = some a ∧ w.cell? ⟨g, 1, none⟩ = some b ∧ w.frozen? ⟨g, 0, none⟩ = false ∧ w.frozen? ⟨g, 1, none⟩ = false :=
  ⟨h.cell 0, h.cell 1, h.frozen 0, h.frozen 1⟩
def RwOwn (w : World) (base : Nat) (rows : List Value) (ls : List (List ByteArray)) : Prop :=
  rows.length = ls.length ∧ ∀ (i : Nat) l, ls[i]? = some l → ∃ u, rows[i]? = some u ∧ w.ownsRow base 9 1 u l.length (tc l)
theorem RwOwn.below {w w' : World} {base : Nat} {rows : List Value} {ls : List (List ByteArray)} (h : RwOwn w base rows ls) (hb : Below w.heap.size w w') : RwOwn w' base rows ls :=
  ⟨h.1, fun i l hi => by obtain ⟨u, h1, h2⟩ := h.2 i l hi; exact ⟨u, h1, own_below3 h2 hb⟩⟩
theorem RwOwn.kept {w w' : World} {base : Nat} {rows : List Value} {ls : List (List ByteArray)} {S : TypeId → Prop} (h : RwOwn w base rows ls) (k : Kept S w w') (hs : ¬ S 9) : RwOwn w' base rows ls :=
  ⟨h.1, fun i l hi => by obtain ⟨u, h1, h2⟩ := h.2 i l hi; exact ⟨u, h1, k.own h2 hs⟩⟩
theorem RwOwn.nil (w : World) (base : Nat) : RwOwn w base [] [] := ⟨rfl, fun i l hi => by simp at hi⟩
theorem RwOwn.snoc {w : World} {base k : Nat} {rows : List Value} {ls : List (List ByteArray)} {l : List ByteArray} {u : Value} (h : RwOwn w base rows (ls.take k)) (hl : ls[k]? = some l) (hu : w.ownsRow base 9 1 u l.length (tc l)) :
    RwOwn w base (rows ++ [u]) (ls.take (k + 1)) := by
  have hk := (List.getElem?_eq_some_iff.1 hl).1
  have hr : rows.length = k := by have := h.1; rw [List.length_take] at this; omega
  have e : ls.take (k + 1) = ls.take k ++ [l] := by rw [List.take_add_one, hl]; rfl
  rw [e]
  refine ⟨by rw [List.length_append, List.length_append, h.1]; rfl, fun i m hi => ?_⟩
  rcases Nat.lt_or_ge i (ls.take k).length with hik | hik
  · rw [List.getElem?_append_left hik] at hi
    obtain ⟨x, h1, h2⟩ := h.2 i m hi
    exact ⟨x, by rw [List.getElem?_append_left (by rw [h.1]; exact hik)]; exact h1, h2⟩
  · rw [List.getElem?_append_right hik] at hi
    have hi0 : i - (ls.take k).length = 0 := by
      rcases Nat.eq_zero_or_pos (i - (ls.take k).length) with h0 | h0
      · exact h0
      · rw [List.getElem?_eq_none (by simp only [List.length_singleton]; exact h0)] at hi; cases hi
    rw [hi0] at hi
    simp at hi
    subst hi
    refine ⟨u, ?_, hu⟩
    rw [List.getElem?_append_right (by rw [h.1]; exact hik), h.1, hi0]
    rfl
/-- rows of different blocks -/
def Apart (rows : List Value) : Prop := ∀ (i j : Nat) (y z : Value) (b : Nat), i ≠ j → rows[i]? = some y → rows[j]? = some z → y.ownBlock = some b → z.ownBlock ≠ some b
theorem RwOwn.lt {w : World} {base : Nat} {rows : List Value} {ls : List (List ByteArray)} (h : RwOwn w base rows ls) {i b : Nat} {y : Value} (hi : rows[i]? = some y) (hy : y.ownBlock = some b) : b < w.heap.size := by
  have hir := (List.getElem?_eq_some_iff.1 hi).1
  obtain ⟨u, h1, h2⟩ := h.2 i (ls[i]'(by rw [← h.1]; exact hir)) (List.getElem?_eq_getElem _)
  rw [hi] at h1
  injection h1 with h1
  subst h1
  obtain ⟨_, cur, hx⟩ := own_block h2 hy
  exact hx.lt
theorem Apart.nil : Apart [] := fun i j y z b _ h => by simp at h
theorem Apart.snoc {rows : List Value} {u : Value} (h : Apart rows) (hu : ∀ (i b : Nat) y, rows[i]? = some y → y.ownBlock = some b → u.ownBlock ≠ some b) : Apart (rows ++ [u]) := by
  have last : ∀ (i : Nat) y, (rows ++ [u])[i]? = some y → (i < rows.length ∧ rows[i]? = some y) ∨ (i = rows.length ∧ y = u) := by
    intro i y hi
    rcases Nat.lt_or_ge i rows.length with hl | hl
    · rw [List.getElem?_append_left hl] at hi; exact .inl ⟨hl, hi⟩
    · rw [List.getElem?_append_right hl] at hi
      have h0 : i - rows.length = 0 := by
        rcases Nat.eq_zero_or_pos (i - rows.length) with h0 | h0
        · exact h0
        · rw [List.getElem?_eq_none (by simp only [List.length_singleton]; exact h0)] at hi; cases hi
      rw [h0] at hi
      simp at hi
      exact .inr ⟨by omega, hi.symm⟩
  intro i j y z b hij hi hj hy
  rcases last i y hi with ⟨_, ei⟩ | ⟨ei, e1⟩
  · rcases last j z hj with ⟨_, ej⟩ | ⟨ej, e2⟩
    · exact h i j y z b hij ei ej hy
    · subst e2; exact hu i b y ei hy
  · rcases last j z hj with ⟨_, ej⟩ | ⟨ej, e2⟩
    · subst e1; exact fun hz => hu j b z ej hz hy
    · omega
theorem Apart.nones {n : Nat} : Apart (List.replicate n (.slice none 0 0)) := fun i j y z b _ hi _ hy => by
  have := List.eq_of_mem_replicate (List.mem_of_getElem? hi)
  subst this
  cases hy
/-- a row's replacement -/
theorem RwOwn.set {w : World} {base k : Nat} {rows : List Value} {ls : List (List ByteArray)} {l : List ByteArray} {u : Value} (h : RwOwn w base rows ls) (hk : k < ls.length) (hu : w.ownsRow base 9 1 u l.length (tc l)) :
    RwOwn w base (rows.set k u) (ls.set k l) := by
  refine ⟨by simp [h.1], fun i m hi => ?_⟩
  rw [List.getElem?_set] at hi
  by_cases hik : k = i
  · subst hik
    rw [if_pos rfl, if_pos hk] at hi
    injection hi with hi
    subst hi
    exact ⟨u, by rw [List.getElem?_set, if_pos rfl, if_pos (by rw [h.1]; exact hk)], hu⟩
  · rw [if_neg hik] at hi
    obtain ⟨x, h1, h2⟩ := h.2 i m hi
    exact ⟨x, by rw [List.getElem?_set, if_neg hik]; exact h1, h2⟩
theorem rd_of_own3 {w : World} {base s n c : Nat} {e : TypeId} {A : Option Addr} {xs : List Value} (h : w.ownsRow base e s (.slice A n c) n xs) : RdG w s A n xs := by
  refine ⟨h.1, fun hn => ?_⟩
  obtain ⟨q, rfl, hb, hc⟩ := own_some h hn
  have hlt : q < w.heap.size := by
    rcases h.2 with ⟨h0, _⟩ | ⟨g, cap, cur, hv, _, hx, _⟩
    · injection h0 with h0; cases h0
    · injection hv with hv; injection hv with hv; injection hv with hv; subst hv; exact Box.lt (cs := cur) hx
  refine ⟨_, rfl, hlt, fun j u hu => ?_⟩
  have := hc j u hu
  rwa [show (⟨q, 0, none⟩ : Addr).add j = ⟨q, j, none⟩ by unfold Addr.add; split <;> simp_all]
theorem rd_of_own1 {w : World} {base n c : Nat} {e : TypeId} {A : Option Addr} {xs : List Value} (h : w.ownsRow base e 1 (.slice A n c) n xs) : Rd w A n xs := Rd.of_own h
theorem RwOwn.rws {w : World} {base : Nat} {rows : List Value} {ls : List (List ByteArray)} (h : RwOwn w base rows ls) : Rws w rows ls :=
  ⟨h.1, fun i l hi => by
    obtain ⟨u, h1, h2⟩ := h.2 i l hi
    obtain ⟨B, c, rfl, h3, h4⟩ := own_form h2
    exact ⟨B, c, h1, Rd.of_own h2, h3, h4⟩⟩
theorem votes_own {w : World} {base n c : Nat} {A : Option Addr} {vs : List Sn} (h : w.ownsRow base 75 5 (.slice A n c) n (flat sncell vs)) (hn : vs.length = n) (h1 : n ≤ c) (h2 : c ≤ maxLen) : VotesIs w A n c vs :=
  ⟨rd_of_own3 h, hn, h1, h2, fun h0 => by obtain ⟨q, e, _⟩ := own_some h h0; exact ⟨q, 0, e⟩⟩
/-- it, in memory of its own -/
def StOwn (w : World) (base : Nat) (v : Value) (x : Sb) : Prop :=
  ∃ vL vV rows, v = .agg #[vL, vV] ∧ w.ownsRow base 32 1 vL x.logs.length rows ∧ RwOwn w base rows x.logs ∧ Apart rows ∧ w.ownsRow base 75 5 vV x.votes.length (flat sncell x.votes)
theorem StOwn.is {w : World} {base : Nat} {v : Value} {x : Sb} (h : StOwn w base v x) : StIs w v x := by
  obtain ⟨vL, vV, rows, rfl, h1, h2, _, h3⟩ := h
  obtain ⟨A, c, rfl, a1, a2⟩ := own_form h1
  obtain ⟨B, d, rfl, b1, b2⟩ := own_form h3
  exact ⟨A, c, B, d, rfl, ⟨rows, Rd.of_own h1, h2.rws, rfl, a1, a2⟩, votes_own h3 rfl b1 b2⟩
theorem StOwn.below {w w' : World} {base : Nat} {v : Value} {x : Sb} (h : StOwn w base v x) (hb : Below w.heap.size w w') : StOwn w' base v x := by
  obtain ⟨vL, vV, rows, e, h1, h2, ha, h3⟩ := h
  exact ⟨vL, vV, rows, e, own_below3 h1 hb, h2.below hb, ha, own_below3 h3 hb⟩
theorem rows_rd2 {w : World} {A : Option Addr} {n c : Nat} {ls : List (List ByteArray)} (h : LogsIs w A n c ls) : ls.length = n ∧ n ≤ c ∧ c ≤ maxLen := by
  obtain ⟨_, _, _, h3, h4, h5⟩ := h
  exact ⟨h3, h4, h5⟩
/-- it, in rows of their types -/
def StTy (w : World) (v : Value) (x : Sb) : Prop :=
  ∃ vL vV rows, v = .agg #[vL, vV] ∧ w.ownsRow 0 32 1 vL x.logs.length rows ∧ RwOwn w 0 rows x.logs ∧ w.ownsRow 0 75 5 vV x.votes.length (flat sncell x.votes)
theorem RwOwn.zero {w : World} {base : Nat} {rows : List Value} {ls : List (List ByteArray)} (h : RwOwn w base rows ls) : RwOwn w 0 rows ls :=
  ⟨h.1, fun i l hi => by obtain ⟨u, h1, h2⟩ := h.2 i l hi; exact ⟨u, h1, own_base h2 (Nat.zero_le _)⟩⟩
theorem StOwn.ty {w : World} {base : Nat} {v : Value} {x : Sb} (h : StOwn w base v x) : StTy w v x := by
  obtain ⟨vL, vV, rows, e, h1, h2, _, h3⟩ := h
  exact ⟨vL, vV, rows, e, own_base h1 (Nat.zero_le _), h2.zero, own_base h3 (Nat.zero_le _)⟩
theorem StTy.is {w : World} {v : Value} {x : Sb} (h : StTy w v x) : StIs w v x := by
  obtain ⟨vL, vV, rows, rfl, h1, h2, h3⟩ := h
  obtain ⟨A, c, rfl, a1, a2⟩ := own_form h1
  obtain ⟨B, d, rfl, b1, b2⟩ := own_form h3
  exact ⟨A, c, B, d, rfl, ⟨rows, Rd.of_own h1, h2.rws, rfl, a1, a2⟩, votes_own h3 rfl b1 b2⟩
theorem StTy.below {w w' : World} {v : Value} {x : Sb} (h : StTy w v x) (hb : Below w.heap.size w w') : StTy w' v x := by
  obtain ⟨vL, vV, rows, e, h1, h2, h3⟩ := h
  exact ⟨vL, vV, rows, e, own_below3 h1 hb, h2.below hb, own_below3 h3 hb⟩
theorem StTy.kept {w w' : World} {v : Value} {x : Sb} {S : TypeId → Prop} (h : StTy w v x) (k : Kept S w w') (h1 : ¬ S 32) (h2 : ¬ S 9) (h3 : ¬ S 75) : StTy w' v x := by
  obtain ⟨vL, vV, rows, e, a1, a2, a3⟩ := h
  exact ⟨vL, vV, rows, e, k.own a1 h1, a2.kept k h2, k.own a3 h3⟩
theorem ty_zero (w : World) : StTy w (.agg #[.slice none 0 0, .slice none 0 0]) SM.zero := ⟨_, _, [], rfl, World.ownsRow_nil _ _ _ _, RwOwn.nil _ _, World.ownsRow_nil _ _ _ _⟩
theorem st_zero (w : World) : StIs w (.agg #[.slice none 0 0, .slice none 0 0]) SM.zero :=
  ⟨none, 0, none, 0, rfl, ⟨[], Rd.nil, ⟨rfl, fun i l hi => by simp [SM.zero] at hi⟩, rfl, Nat.le_refl _, Nat.zero_le _⟩, ⟨rfl, fun h => absurd h (by decide)⟩, rfl, Nat.le_refl _, Nat.zero_le _, fun h => absurd h (by decide)⟩
end Go.Proofs.Ytohiemdodffhoaa.SP
