/-
  A row of ints that lies from a block on. No walk.
-/
import Derived.Test.YtnpgjcapekopnaaGreatCmMem
import Derived.Test.YtnpgjcapekopnaaGreatRowG
namespace Go.Proofs.YtnpgjcapekopnaaGreat.CP
open Go.RowKit
open CM (Mg Cm)
set_option linter.unusedVariables false
set_option linter.unusedSimpArgs false

/-- ints of one's own, that may be stored into -/
def Tn (b : Nat) (W : World) (M : Option Addr) (k : Nat) : Prop := 0 < k → ∃ g cur, M = some ⟨g, 0, none⟩ ∧ b ≤ g ∧ Box W g 3 cur ∧ k ≤ cur.size
theorem Tn.below {b : Nat} {W W' : World} {M : Option Addr} {k : Nat} (h : Tn b W M k) (hb : Below W.heap.size W W') : Tn b W' M k := fun h0 => by
  obtain ⟨g, cur, e, h1, h2, h3⟩ := h h0
  exact ⟨g, cur, e, h1, h2.below hb h2.lt, h3⟩
theorem Tn.mono {b b' : Nat} {W : World} {M : Option Addr} {k : Nat} (h : Tn b W M k) (hb : b' ≤ b) : Tn b' W M k := fun h0 => by
  obtain ⟨g, cur, e, h1, h2, h3⟩ := h h0
  exact ⟨g, cur, e, Nat.le_trans hb h1, h2, h3⟩
theorem Tn.grown {b : Nat} {W W' : World} {M : Option Addr} {k : Nat} {r : Option Nat} (h : Tn b W M k) (hg : W.grownBy W' r) (hr : ∀ ad, M = some ad → 0 < k → r ≠ some ad.block) : Tn b W' M k := fun h0 => by
  obtain ⟨g, cur, e, h1, h2, h3⟩ := h h0
  exact ⟨g, cur, e, h1, h2.grown hg (fun q => hr _ e h0 q.symm), h3⟩
theorem tn_own {w : World} {b n : Nat} {A : Option Addr} {c : Nat} {l : List Int} (h : w.ownsRow b 3 1 (.slice A n c) n (ic l)) (hn : n = l.length) : Tn b w A l.length := fun h0 => by
  subst hn
  obtain ⟨g, cap, hv, hbg, hlt⟩ := h.form h0
  injection hv with e1 e2 e3
  subst e1
  obtain ⟨_, cur, hc⟩ := own_block h (g := g) rfl
  refine ⟨g, cur, rfl, hbg, hc, ?_⟩
  rcases Nat.lt_or_ge cur.size l.length with k | k
  · exfalso
    have hcs := h.cells (g := g) rfl
    have hkl : cur.size < (ic l).length := by rw [ic_length]; exact k
    have := hcs cur.size (ic l)[cur.size] (List.getElem?_eq_getElem hkl)
    have e2 : (⟨g, 0, none⟩ : Addr).add cur.size = ⟨g, cur.size, none⟩ := by unfold Addr.add; split <;> simp_all
    rw [e2, hc.cell] at this
    simp at this
  · exact k
/-- a row that lies from block b on, of one's own -/
structure RowGe (w : World) (b : Nat) (A : Option Addr) (c : Nat) (l : List Int) : Prop where
  is : RowIs w A c l
  ge : ∀ ad, A = some ad → 0 < l.length → b ≤ ad.block
  tn : Tn b w A l.length
theorem rowGe_own {w : World} {b n : Nat} {A : Option Addr} {c : Nat} {l : List Int} (h : w.ownsRow b 3 1 (.slice A n c) n (ic l)) (hn : n = l.length) (h1 : l.length ≤ c) (h2 : c ≤ maxLen) : RowGe w b A c l := by
  have ht := tn_own h hn
  subst hn
  refine ⟨⟨Rd.of_own h, h1, h2⟩, fun ad e _ => ?_, ht⟩
  rcases h.2 with ⟨hv, _⟩ | ⟨g', cap, cur, hv, hb, _⟩
  · injection hv with hv; rw [hv] at e; cases e
  · injection hv with hv; rw [hv] at e; injection e with e; rw [← e]; exact hb
theorem RowGe.set {w : World} {b : Nat} {A : Option Addr} {c : Nat} {l : List Int} (h : RowGe w b A c l) {g i : Nat} (hg : g < b) (v : Value) : RowGe (w.setCell ⟨g, i, none⟩ v) b A c l := by
  refine ⟨⟨⟨h.1.1.1, fun hn => ?_⟩, h.1.2⟩, h.2, fun h0 => ?_⟩
  · obtain ⟨ad, e, hB, hc⟩ := h.1.1.2 hn
    have hb := h.2 ad e hn
    refine ⟨ad, e, by simpa using hB, fun j u hu => ?_⟩
    exact (World.cell?_of_block (Below.heap_setCell w ⟨g, i, none⟩ v (ad.add j).block (by rw [block_of_add]; show ad.block ≠ g; omega))).trans (hc j u hu)
  · obtain ⟨g', cur, e, h1, h2, h3⟩ := h.3 h0
    exact ⟨g', cur, e, h1, h2.far (p := ⟨g, i, none⟩) (by show g' ≠ g; omega) v, h3⟩
section
variable {w w' : World} {b : Nat} {A : Option Addr} {c : Nat} {L : List Int}
theorem RowGe.below (hr : RowGe w b A c L) (hb : Below w.heap.size w w') : RowGe w' b A c L := ⟨hr.1.below hb, hr.2, hr.3.below hb⟩
theorem RowGe.mono {b' : Nat} (hr : RowGe w b A c L) (hb : b' ≤ b) : RowGe w b' A c L := ⟨hr.1, fun ad e hn => Nat.le_trans hb (hr.2 ad e hn), hr.3.mono hb⟩
theorem RowGe.none (w : World) (b : Nat) : RowGe w b .none 0 [] := ⟨RowIs.none w, (fun _ e => by cases e), fun h => absurd h (Nat.lt_irrefl 0)⟩
/-- a command whose rows lie from block b on -/
def CmGe (w : World) (b : Nat) (v : Value) (x : Cm) : Prop := ∃ A c B d, v = .agg (ccells A c B d x) ∧ RowGe w b A c x.m.gs ∧ RowGe w b B d x.ms
theorem CmGe.is {v : Value} {x : Cm} (h : CmGe w b v x) : CmIs w v x := by
  obtain ⟨A, c, B, d, e, h1, h2⟩ := h
  exact ⟨A, c, B, d, e, h1.1, h2.1⟩
theorem CmGe.below {v : Value} {x : Cm} (h : CmGe w b v x) (hb : Below w.heap.size w w') : CmGe w' b v x := by
  obtain ⟨A, c, B, d, e, h1, h2⟩ := h
  exact ⟨A, c, B, d, e, h1.below hb, h2.below hb⟩
theorem zero_ge (w : World) (b : Nat) : CmGe w b (.agg #[.int .u8 0, .int .i64 0, .slice .none 0 0, .int .i64 0, .string .empty, .string .empty, .int .i64 0, .int .i64 0, .slice .none 0 0, .int .i64 0, .int .i64 0, .int .i64 0]) CM.zero := ⟨.none, 0, .none, 0, rfl, RowGe.none w b, RowGe.none w b⟩
end
end Go.Proofs.YtnpgjcapekopnaaGreat.CP
