/-
  What bytes.Clone and the inner functions 'behind' and 'left' of package disk make. Conditions: as each theorem says.
-/
import Derived.Test.YtkdnkaiknmcfmaaDiskA
import Derived.Lib.MinMax
import Derived.Lib.SliceRun
namespace Go.Proofs.Ytkdnkaiknmcfmaa
open Go.RowKit
set_option linter.unusedVariables false

theorem info_byte : (Try.prog.info? 5).map (fun i => (i.zero, i.size, i.bytes)) = some (some (.int .u8 0), 1, 1) := by kernel_rfl
theorem info_put : (Try.prog.info? 37).map (fun i => (i.zero, i.size, i.bytes)) = some (some (.agg #[.bool false, .slice none 0 0]), 2, 32) := by kernel_rfl

theorem own_zero {w : World} {base : Nat} {e : TypeId} {A : Option Addr} {n c : Nat} {xs : List Value} (h : w.ownsRow base e 1 (.slice A n c) n xs) : w.ownsRow base e 1 (.slice A 0 c) 0 [] := by
  refine ⟨rfl, ?_⟩
  rcases h.2 with ⟨hv, rfl⟩ | ⟨g, cap, cur, hv, hb, hh, hnc, hcm, hs, ht⟩
  · injection hv with h1 h2 h3
    subst h1; subst h3
    exact .inl ⟨rfl, rfl⟩
  · injection hv with h1 h2 h3
    subst h1; subst h3
    exact .inr ⟨g, c, cur, rfl, hb, hh, Nat.zero_le _, hcm, hs, by simp⟩
theorem own_block_ge {w : World} {base s n : Nat} {e : TypeId} {v : Value} {xs : List Value} (h : w.ownsRow base e s v n xs) : ∀ g, v.ownBlock = some g → base ≤ g := by
  intro g hg
  rcases h.2 with ⟨rfl, _⟩ | ⟨g', cap, cur, rfl, hb, _⟩
  · simp [Value.ownBlock] at hg
  · simp [Value.ownBlock] at hg; omega

def ClonePost (w : World) (b : List UInt8) (e : Ending) (w' : World) : Prop := ∃ v, e = .returned v ∧ w'.ownsRow w.heap.size 5 1 v b.length (bc b) ∧ Below w.heap.size w w'

set_option maxHeartbeats 1000000 in
theorem clone_any (A : Option Addr) (n c : Nat) (b : List UInt8) (w : World) (HR : Hid (Rd w A n (bc b))) (hn : n ≤ 4000000) :
    Calls Try.prog 42 #[.slice A n c] w (ClonePost w b) := by
  obtain ⟨i0, hi, hz0, hz1, hz2⟩ := info_parts info_byte
  have hbl : b.length = n := by have := HR.out.1; rwa [bc_length] at this
  rcases A with _ | ad
  · have hn0 : n = 0 := by
      rcases Nat.eq_zero_or_pos n with h0 | h0
      · exact h0
      · obtain ⟨ad, h, _⟩ := HR.out.2 h0; cases h
    subst hn0
    have hb0 : b = [] := List.eq_nil_of_length_eq_zero hbl
    subst hb0
    have hfin : ClonePost w [] (.returned (.slice none 0 0)) w := ⟨_, rfl, World.ownsRow_nil _ _ _ _, Below.refl _ _⟩
    have HF := Lib.hid hfin; clear hfin hbl
    have hnil : ∀ W, (binOp .eql 22 (.slice none 0 c) (.slice none 0 0)).run Try.prog W = .ok (.bool true) W := fun W => Lib.run_eql_slice_nil W _ _ _ _ _ _ _ Try.underlying22
    go_enter Try.func42, Try.ntmps42
    go_wp2_with fail
    go_ret
    exact HF.out
  · have HB := Lib.hid hbl; clear hbl
    have hown0 : (w.alloc (.cells #[] 5)).ownsRow w.heap.size 5 1 (.slice (some ⟨w.heap.size, 0, none⟩) 0 0) 0 [] := World.ownsRow_made w #[] 0 (Nat.le_refl _) (by unfold maxLen; omega) (by simp)
    have hr0 : Rd (w.alloc (.cells #[] 5)) (some ad) n (bc b) := HR.out.alloc _
    have HO := Lib.hid hown0
    have HR0 := Lib.hid hr0
    clear hown0 hr0
    have hnil : ∀ W, (binOp .eql 22 (.slice (some ad) n c) (.slice none 0 0)).run Try.prog W = .ok (.bool false) W := fun W => Lib.run_eql_slice_nil W _ _ _ _ _ _ _ Try.underlying22
    go_enter Try.func42, Try.ntmps42
    go_wp2_with (at_builtin; refine wpList_append_rd _ rfl _ _ 22 rfl w.heap.size 5 i0 (.int .u8 0) 1 Try.underlying22 hi hz0 hz1 hz2 rfl _ _ _ rfl HO.out (some ad) n c (bc b) rfl HR0.out (bc_one b) (by unfold maxLen; omega) (by omega) (by simp) ?_; intro v2 w2 hown2 hg2 hob2)
    go_ret
    refine ⟨_, rfl, ?_, ?_⟩
    · rw [HB.out]; simpa using hown2
    · exact ((Below.refl _ _).alloc (Nat.le_refl _) _).grown hg2 (by simp) (own_block_ge HO.out)

def BehindPost (w : World) (r : List UInt8) (e : Ending) (w' : World) : Prop := ∃ v, e = .returned v ∧ w'.ownsRow w.heap.size 5 1 v r.length (bc r) ∧ Below w.heap.size w w'
def BehindRel (w : World) (b : List UInt8) (ps : List DM.Wr) (k : Nat) (u : Value) (wr : World) : Prop :=
  wr.ownsRow w.heap.size 5 1 u (DM.behind b (ps.take k)).length (bc (DM.behind b (ps.take k))) ∧ Below w.heap.size w wr
theorem behindRel_next {w wr w1 w2 : World} {b : List UInt8} {ps : List DM.Wr} {k n0 : Nat} {u u0 v : Value} {xs : List Value} {s : Bool} {d : List UInt8} (h : BehindRel w b ps k u wr) (hk : ps[k]? = some (s, d)) (hb1 : Below w.heap.size w w1)
    (hx : n0 = (if s then [] else DM.behind b (ps.take k)).length) (hxs : xs = bc (if s then [] else DM.behind b (ps.take k)))
    (hu0 : ∀ g, u0.ownBlock = some g → w.heap.size ≤ g) (ho : w2.ownsRow w.heap.size 5 1 v (n0 + d.length) (xs ++ bc d)) (hg : w1.grownBy w2 u0.ownBlock) : BehindRel w b ps (k + 1) v w2 := by
  obtain ⟨hlt, he⟩ := List.getElem?_eq_some_iff.1 hk
  refine ⟨?_, hb1.grown hg hb1.size hu0⟩
  rw [DM.behind_take _ _ _ hlt, he]
  unfold DM.step
  rw [List.length_append, bc_append, ← hx, ← hxs]
  exact ho
theorem behindRel_end {w wr : World} {b : List UInt8} {ps : List DM.Wr} {k : Nat} {u : Value} (h : BehindRel w b ps k u wr) (hk : ps.length = k) : BehindPost w (DM.behind b ps) (.returned u) wr := by
  obtain ⟨h1, h2⟩ := h
  rw [List.take_of_length_le (by omega)] at h1
  exact ⟨u, rfl, h1, h2⟩

set_option maxHeartbeats 2000000 in
theorem behind_any (A B : Option Addr) (n c m d : Nat) (b : List UInt8) (ps : List DM.Wr) (w : World) (HR : Hid (Rd w A n (bc b))) (HW : Hid (WaitIs w B m ps)) (HFit : Hid (DM.fits b ps)) (hm : m ≤ 9223372036854775807) :
    Calls Try.prog 27 #[.slice A n c, .slice B m d] w (BehindPost w (DM.behind b ps)) := by
  obtain ⟨i0, hi, hz0, hz1, hz2⟩ := info_parts info_byte
  have hbl : b.length = n := by have := HR.out.1; rwa [bc_length] at this
  have hn : n ≤ 1048576 := by rw [← hbl]; exact DM.fits_zero HFit.out
  have HP := Lib.hid HW.out.1
  have HB := Lib.hid hbl; clear hbl
  go_enter Try.func27, Try.ntmps27
  go_wp2_with fail
  refine (clone_any A n c b _ HR (by omega)).mono ?_
  rintro e w1 ⟨v, rfl, hown1, hb1⟩
  have hstart : BehindRel w b ps 0 v w1 := ⟨by simpa [DM.behind] using hown1, hb1⟩
  have HS := Lib.hid hstart
  clear hown1 hstart hb1
  go_wp2_with fail
  go_loopw [5, 12] (fun u i wr => ∃ k : Nat, k ≤ m ∧ i = .int .i64 k ∧ BehindRel w b ps k u wr) (fun _ i _ => m - (intOf i).toNat)
  case atStart => exact ⟨0, by omega, rfl, HS.out⟩
  case round =>
    clear HS
    obtain ⟨k, hk, rfl, hrel⟩ := hrel
    by_cases hlt : k < m
    · have hbel := hrel.2
      obtain ⟨bl, o, Ai, ci, s, dd, rfl, hadb, hps, hc0, hc1, h1, h2, hrd⟩ := (HW.out.below hbel).at_ hlt
      have hws := hbel.size
      have hfit1 := HFit.out k (by have := HP.out; omega)
      have hfit2 := HFit.out (k + 1) (by have := HP.out; omega)
      obtain ⟨hlt2, he⟩ := List.getElem?_eq_some_iff.1 hps
      rw [DM.behind_take _ _ _ hlt2, DM.step_length, he] at hfit2
      unfold DM.more at hfit2
      obtain ⟨A0, c0, rfl, hc0', hm0⟩ := own_slice hrel.1
      have HRel := Lib.hid hrel
      have HPs := Lib.hid hps
      obtain ⟨y, hy⟩ : ∃ y, y = dd.length := ⟨_, rfl⟩
      obtain ⟨x, hx⟩ : ∃ x, x = (DM.behind b (ps.take k)).length := ⟨_, rfl⟩
      have hown0 := hrel.1
      rw [← hx] at hfit1 hfit2 hown0 hc0' HRel ⊢
      rw [← hy] at hc1 hrd h1 hfit2
      have HY := Lib.hid hy; clear hy
      have HX := Lib.hid hx; clear hx
      have HRd := Lib.hid hrd
      have HO := Lib.hid hown0
      have HM := Lib.hid hm0
      have hci : ci ≤ 9223372036854775807 := by unfold maxLen at h2; omega
      have hcc : c0 ≤ 9223372036854775807 := by unfold maxLen at hm0; omega
      clear hrel hps hown0 hrd he hm0 h2
      cases s with
      | true =>
        simp only [if_true] at hfit2
        go_wp2_with (at_builtin; refine wpList_append_rd _ rfl _ _ 22 rfl w.heap.size 5 i0 (.int .u8 0) 1 Try.underlying22 hi hz0 hz1 hz2 rfl (.slice A0 0 c0) 0 [] rfl ((own_zero HO.out).alloc _) Ai y ci (bc dd) rfl (HRd.out.alloc _) (bc_one dd) (by unfold maxLen; omega) (by omega) (by simp; omega) ?_; intro v2 w2 hown2 hg2 hob2)
        have hnext := behindRel_next HRel.out HPs.out (hbel.alloc hws _) (n0 := 0) (u0 := .slice A0 0 c0) (xs := []) (by simp) (by simp [bc]) (own_block_ge (own_zero HO.out)) (by rw [← HY.out]; exact hown2) hg2
        clear hown2 hg2 hob2
        go_roundw
        case rel => exact ⟨k + 1, by omega, by go_num, hnext⟩
        case measure => simp [intOf]; omega
      | false =>
        simp only [Bool.false_eq_true, if_false] at hfit2
        go_wp2_with (at_builtin; refine wpList_append_rd _ rfl _ _ 22 rfl w.heap.size 5 i0 (.int .u8 0) 1 Try.underlying22 hi hz0 hz1 hz2 rfl (.slice A0 x c0) x (bc (DM.behind b (ps.take k))) rfl (HO.out.alloc _) Ai y ci (bc dd) rfl (HRd.out.alloc _) (bc_one dd) (by unfold maxLen; omega) (by omega) (by simp; omega) ?_; intro v2 w2 hown2 hg2 hob2)
        have hnext := behindRel_next HRel.out HPs.out (hbel.alloc hws _) (n0 := x) (u0 := .slice A0 x c0) (xs := bc (DM.behind b (ps.take k))) (by simp [HX.out]) (by simp) (own_block_ge HO.out) (by rw [← HY.out]; exact hown2) hg2
        clear hown2 hg2 hob2
        go_roundw
        case rel => exact ⟨k + 1, by omega, by go_num, hnext⟩
        case measure => simp [intOf]; omega
    · obtain rfl : m = k := by omega
      have hfin := behindRel_end hrel HP.out
      have HF := Lib.hid hfin; clear hfin hrel
      go_wp2_with fail
      go_ret
      exact HF.out
/-- the same, the slice written out -/
def SlPost (w : World) (r : List UInt8) (n : Nat) (e : Ending) (w' : World) : Prop := ∃ A c, e = .returned (.slice A n c) ∧ w'.ownsRow w.heap.size 5 1 (.slice A n c) n (bc r) ∧ Below w.heap.size w w'
theorem behind_sl (A B : Option Addr) (n c m d k : Nat) (b r : List UInt8) (ps : List DM.Wr) (w : World) (HR : Hid (Rd w A n (bc b))) (HW : Hid (WaitIs w B m ps)) (HFit : Hid (DM.fits b ps)) (hm : m ≤ 9223372036854775807) (Hr : Hid (r = DM.behind b ps)) (Hk : Hid (r.length = k)) :
    Calls Try.prog 27 #[.slice A n c, .slice B m d] w (SlPost w r k) := by
  refine (behind_any A B n c m d b ps w HR HW HFit hm).mono ?_
  rintro e w' ⟨v, rfl, ho, hb⟩
  rw [← Hr.out, Hk.out] at ho
  obtain ⟨A', c', rfl, _, _⟩ := own_slice ho
  exact ⟨A', c', rfl, ho, hb⟩
theorem clone_sl (A : Option Addr) (n c : Nat) (b : List UInt8) (w : World) (HR : Hid (Rd w A n (bc b))) (hn : n ≤ 4000000) : Calls Try.prog 42 #[.slice A n c] w (SlPost w b n) := by
  refine (clone_any A n c b w HR hn).mono ?_
  rintro e w' ⟨v, rfl, ho, hb⟩
  have hbl : b.length = n := by have := HR.out.1; rwa [bc_length] at this
  rw [hbl] at ho
  obtain ⟨A', c', rfl, _, _⟩ := own_slice ho
  exact ⟨A', c', rfl, ho, hb⟩
end Go.Proofs.Ytkdnkaiknmcfmaa
