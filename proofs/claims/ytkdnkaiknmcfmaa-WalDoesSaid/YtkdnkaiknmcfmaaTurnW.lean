/-
  Words for loops that turn bytes of a disk in memory of its own: what they touch, and what stays. No walk.
-/
import Derived.Test.YtkdnkaiknmcfmaaDiskV
import Derived.Test.YtkdnkaiknmcfmaaMemQ
namespace Go.Proofs.Ytkdnkaiknmcfmaa
open Go.RowKit
set_option linter.unusedVariables false

/-- outside the blocks from lo to hi all that was there is as it was -/
structure Within (lo hi : Nat) (w w' : World) : Prop where
  os : w'.os = w.os
  tape : w'.tape = w.tape
  output : w'.output = w.output
  size : w.heap.size ≤ w'.heap.size
  block : ∀ k, k < w.heap.size → (k < lo ∨ hi ≤ k) → w'.heap[k]? = w.heap[k]?
theorem Within.refl (lo hi : Nat) (w : World) : Within lo hi w w := ⟨rfl, rfl, rfl, Nat.le_refl _, fun _ _ _ => rfl⟩
theorem Within.trans {lo hi : Nat} {a b c : World} (h : Within lo hi a b) (k : Within lo hi b c) : Within lo hi a c :=
  ⟨k.os.trans h.os, k.tape.trans h.tape, k.output.trans h.output, Nat.le_trans h.size k.size, fun i hi' hr => (k.block i (Nat.lt_of_lt_of_le hi' h.size) hr).trans (h.block i hi' hr)⟩
theorem Within.of_below {lo hi : Nat} {a b : World} (h : Below a.heap.size a b) : Within lo hi a b := ⟨h.os, h.tape, h.output, h.size, fun i hi' _ => h.block i hi'⟩
theorem Within.below {lo hi B : Nat} {a b : World} (h : Within lo hi a b) (hB : B ≤ lo) (hs : B ≤ a.heap.size) : Below B a b := ⟨h.os, h.tape, h.output, h.size, fun i hi' => h.block i (by omega) (.inl (by omega))⟩
theorem Within.set {lo hi : Nat} {a b : World} (h : Within lo hi a b) {g i : Nat} (h1 : lo ≤ g) (h2 : g < hi) (u : Value) : Within lo hi a (b.setCell ⟨g, i, none⟩ u) :=
  h.trans ⟨rfl, rfl, rfl, by simp [World.setCell], fun k _ hr => Below.heap_setCell _ _ _ _ (by show k ≠ g; omega)⟩
theorem own_within {lo hi base s n : Nat} {e : TypeId} {v : Value} {xs : List Value} {a b : World} (h : a.ownsRow base e s v n xs) (hw : Within lo hi a b) (hb : hi ≤ base) : b.ownsRow base e s v n xs := by
  refine ⟨h.1, ?_⟩
  rcases h.2 with h0 | ⟨g, cap, cur, hv, hbg, hg, hrest⟩
  · exact .inl h0
  · have hlt : g < a.heap.size := by
      rcases Nat.lt_or_ge g a.heap.size with hlt | hge
      · exact hlt
      · rw [Array.getElem?_eq_none hge] at hg; cases hg
    exact .inr ⟨g, cap, cur, hv, hbg, (hw.block g hlt (.inr (by omega))).trans hg, hrest⟩
theorem DiskOwn.within {lo hi base : Nat} {e t : TypeId} {v : Value} {b : List UInt8} {ps : List DM.Wr} {a c : World} (h : DiskOwn a base e t v b ps) (hw : Within lo hi a c) (hb : hi ≤ base) : DiskOwn c base e t v b ps := by
  obtain ⟨x, y, l, h0, h1, h2, h3⟩ := h
  exact ⟨x, y, l, h0, own_within h1 hw hb, own_within h2 hw hb, h3.1, fun i p q hp hq => ⟨(h3.2 i p q hp hq).1, own_within (h3.2 i p q hp hq).2 hw hb⟩⟩

/-- a slice of n bytes, whatever they are, in a block from lo to hi -/
def ByRow (w : World) (lo hi : Nat) (A : Option Addr) (n : Nat) : Prop := 0 < n → ∃ g cur, A = some ⟨g, 0, none⟩ ∧ lo ≤ g ∧ g < hi ∧ Box w g 5 cur ∧ ∀ j, j < n → ∃ z : Int, cur[j]? = some (.int .u8 z)
theorem byRow_of {w : World} {lo hi n c : Nat} {A : Option Addr} {b : List UInt8} (h : w.ownsRow lo 5 1 (.slice A n c) n (bc b)) (hh : ∀ g, A = some ⟨g, 0, none⟩ → g < hi) : ByRow w lo hi A n := by
  intro hn
  rcases h.2 with ⟨_, h0⟩ | ⟨g, cap, cur, hv, hb, hg, hnc, _, hs, ht⟩
  · omega
  · injection hv with h1 h2 h3
    refine ⟨g, cur, h1, hb, hh g h1, hg, fun j hj => ?_⟩
    have hbl : b.length = n := by have := h.1; rw [bc_length] at this; omega
    have : (cur.toList.take (n * 1))[j]? = (bc b)[j]? := by rw [ht]
    rw [List.getElem?_take, if_pos (by omega), bc_get b j (by omega)] at this
    exact ⟨_, by simpa using this⟩
theorem ByRow.set {w : World} {lo hi n g i : Nat} {A : Option Addr} {cur : Array Value} (h : ByRow w lo hi A n) (hb : Box w g 5 cur) (z : Int) : ByRow (w.setCell ⟨g, i, none⟩ (.int .u8 z)) lo hi A n := by
  intro hn
  obtain ⟨g', cur', h1, h2, h3, h4, h5⟩ := h hn
  by_cases hg : g' = g
  · subst hg
    have hcc : cur' = cur := by
      rw [Box] at h4 hb
      rw [h4] at hb
      injection hb with hb
      injection hb
    subst hcc
    refine ⟨g', _, h1, h2, h3, h4.stored i _, fun j hj => ?_⟩
    obtain ⟨z', hz'⟩ := h5 j hj
    rw [Array.getElem?_setIfInBounds]
    split
    · rename_i hij
      subst hij
      have : i < cur'.size := (Array.getElem?_eq_some_iff.1 hz').1
      exact ⟨z, by simp [this]⟩
    · exact ⟨z', hz'⟩
  · exact ⟨g', cur', h1, h2, h3, h4.far (p := ⟨g, i, none⟩) hg _, h5⟩
theorem ByRow.below {w w' : World} {lo hi n : Nat} {A : Option Addr} (h : ByRow w lo hi A n) (hb : Below w.heap.size w w') : ByRow w' lo hi A n := by
  intro hn
  obtain ⟨g', cur', h1, h2, h3, h4, h5⟩ := h hn
  exact ⟨g', cur', h1, h2, h3, h4.below hb h4.lt, h5⟩
/-- the word of all loops -/
def TurnRel (w : World) (lo hi g : Nat) (A : Option Addr) (n c : Nat) (B : Option Addr) (m d : Nat) (l : List (Bool × Value)) (wr : World) : Prop :=
  Within lo hi w wr ∧ hi ≤ g ∧ Box wr g 25 #[.slice A n c, .slice B m d] ∧ ByRow wr lo hi A n ∧ wr.ownsRow lo 37 2 (.slice B m d) m (pc l) ∧
  ∀ (i : Nat) (p : Bool × Value), l[i]? = some p → ∃ Ai yi ci, p.2 = .slice Ai yi ci ∧ ByRow wr lo hi Ai yi ∧ yi ≤ 9223372036854775807
theorem turn_set {w wr : World} {lo hi g n c m d g' i : Nat} {A B : Option Addr} {l : List (Bool × Value)} {cur : Array Value} (h : TurnRel w lo hi g A n c B m d l wr) (hb : Box wr g' 5 cur) (h1 : lo ≤ g') (h2 : g' < hi) (z : Int) : TurnRel w lo hi g A n c B m d l (wr.setCell ⟨g', i, none⟩ (.int .u8 z)) := by
  obtain ⟨a1, a2, a3, a4, a5, a6⟩ := h
  refine ⟨a1.set h1 h2 _, a2, a3.far (p := ⟨g', i, none⟩) (by show g ≠ g'; omega) _, a4.set hb z, own_far a5 hb (by decide), fun j p hp => ?_⟩
  obtain ⟨Ai, yi, ci, e, b1, b2⟩ := a6 j p hp
  exact ⟨Ai, yi, ci, e, b1.set hb z, b2⟩
theorem turn_drew {w wr : World} {lo hi g n c m d : Nat} {A B : Option Addr} {l : List (Bool × Value)} (h : TurnRel w lo hi g A n c B m d l wr) : TurnRel w lo hi g A n c B m d l wr.drew :=
  ⟨⟨h.1.os, h.1.tape, h.1.output, h.1.size, h.1.block⟩, h.2⟩
theorem TurnRel.at_ {w wr : World} {lo hi g n c m d k : Nat} {A B : Option Addr} {l : List (Bool × Value)} (h : TurnRel w lo hi g A n c B m d l wr) (hlm : l.length = m) (hk : k < m) :
    ∃ bl Ai yi ci s, B = some ⟨bl, 0, none⟩ ∧ l[k]? = some (s, .slice Ai yi ci) ∧ wr.cell? ⟨bl, k * 2 + 1, none⟩ = some (.slice Ai yi ci) ∧ ByRow wr lo hi Ai yi ∧ yi ≤ 9223372036854775807 := by
  obtain ⟨a1, a2, a3, a4, a5, a6⟩ := h
  have hkl : k < l.length := by omega
  obtain ⟨Ai, yi, ci, e, b1, b2⟩ := a6 k _ (List.getElem?_eq_getElem hkl)
  rcases a5.2 with ⟨_, h0⟩ | ⟨bl, cap, cur, hv, _⟩
  · omega
  · injection hv with e1 e2 e3
    subst e1
    refine ⟨bl, Ai, yi, ci, l[k].1, rfl, by rw [List.getElem?_eq_getElem hkl, ← e], ?_, b1, b2⟩
    rw [a5.cellAt _ (by omega), pc_odd l k _ (List.getElem?_eq_getElem hkl), e]

theorem own_same {w0 w : World} {base s n : Nat} {e : TypeId} {v : Value} {xs : List Value} (h : w0.ownsRow base e s v n xs) (hs : ∀ k, base ≤ k → k < w0.heap.size → w.heap[k]? = w0.heap[k]?) : w.ownsRow base e s v n xs := by
  refine ⟨h.1, ?_⟩
  rcases h.2 with h0 | ⟨g, cap, cur, hv, hbg, hg, hrest⟩
  · exact .inl h0
  · have hlt : g < w0.heap.size := by
      rcases Nat.lt_or_ge g w0.heap.size with hlt | hge
      · exact hlt
      · rw [Array.getElem?_eq_none hge] at hg; cases hg
    exact .inr ⟨g, cap, cur, hv, hbg, (hs g hbg hlt).trans hg, hrest⟩
theorem byRow_same {w0 w : World} {base n c : Nat} {A : Option Addr} {b : List UInt8} (h : w0.ownsRow base 5 1 (.slice A n c) n (bc b)) (hs : ∀ k, base ≤ k → k < w0.heap.size → w.heap[k]? = w0.heap[k]?) : ByRow w base w0.heap.size A n := by
  by_cases hn : 0 < n
  · refine byRow_of (own_same h hs) fun g hg => ?_
    obtain ⟨g', cap, hv, _, hlt⟩ := h.form hn
    injection hv with h1
    rw [hg] at h1
    simp at h1
    omega
  · exact fun h => absurd h hn
/-- the word of the loops holds at their start -/
theorem turnRel_start {base g n c m d : Nat} {A B : Option Addr} {b : List UInt8} {ps : List DM.Wr} {w w0 : World} (H0 : DiskOwn w0 base 5 37 (.agg #[.slice A n c, .slice B m d]) b ps) (hs : ∀ k, base ≤ k → k < w0.heap.size → w.heap[k]? = w0.heap[k]?)
    (hg : w0.heap.size ≤ g) (hx : Box w g 25 #[.slice A n c, .slice B m d]) : ∃ l, l.length = m ∧ n ≤ 9223372036854775807 ∧ m ≤ 9223372036854775807 ∧ TurnRel w base w0.heap.size g A n c B m d l w := by
  obtain ⟨x, y, l, e, h1, h2, h3⟩ := H0
  simp at e
  obtain ⟨rfl, rfl⟩ := e
  have hbn : b.length = n := by
    obtain ⟨A', c', e', _, _⟩ := own_slice h1
    injection e' with _ e' _
    exact e'.symm
  have hpm : ps.length = m := by
    obtain ⟨A', c', e', _, _⟩ := own_slice2 h2
    injection e' with _ e' _
    exact e'.symm
  rw [hbn] at h1
  rw [hpm] at h2
  obtain ⟨_, _, e1, g1, g2⟩ := own_slice h1
  injection e1 with _ _ e1
  subst e1
  obtain ⟨_, _, e2, g3, g4⟩ := own_slice2 h2
  injection e2 with _ _ e2
  subst e2
  refine ⟨l, by rw [h3.1]; exact hpm, by unfold maxLen at g2; omega, by unfold maxLen at g4; omega, Within.refl _ _ _, hg, hx, byRow_same h1 hs, own_same h2 hs, fun i p hp => ?_⟩
  have hil : i < l.length := (List.getElem?_eq_some_iff.1 hp).1
  have hip : i < ps.length := by rw [← h3.1]; exact hil
  obtain ⟨_, o2⟩ := h3.2 i p _ hp (List.getElem?_eq_getElem hip)
  obtain ⟨Ai, ci, e3, _, g6⟩ := own_slice o2
  rw [e3] at o2
  exact ⟨Ai, _, ci, e3, byRow_same o2 hs, by unfold maxLen at g6; omega⟩
end Go.Proofs.Ytkdnkaiknmcfmaa
