/-
  What frame.Frame and frame.Cut do, for every text and whatever bytes. Conditions: the slice reads as bytes.
-/
import Derived.Test.YtkdnkaiknmcfmaaNumF
import Derived.Test.YtkdnkaiknmcfmaaMemT
import Derived.Test.YtkdnkaiknmcfmaaFrameMath
namespace Go.Proofs.Ytkdnkaiknmcfmaa
open Go.RowKit
set_option linter.unusedVariables false

theorem info_str : (Try.prog.info? 9).map (fun i => (i.zero, i.size, i.bytes)) = some (some (.string ByteArray.empty), 1, 16) := by kernel_rfl

theorem frame_all (l : List UInt8) (w : World) (hl : l.length ≤ 9223372036854775807) :
    Calls Try.prog 40 #[.string ⟨l.toArray⟩] w fun e w' => ∃ v x, e = .returned (.tuple #[v, .int .i64 x]) ∧ TextFact w' l v x ∧ Below w.heap.size w w' := by
  by_cases h : l.length ≤ 4096
  · go_enter Try.func40, Try.ntmps40
    go_wp2_with (go_at_call 50; refine (text_all l w hl).mono ?_; rintro e w' ⟨v, x, rfl, hT, hb⟩)
    go_ret2
    exact ⟨v, x, rfl, hT, hb⟩
  · go_enter Try.func40, Try.ntmps40
    go_wp2_with fail
    go_ret2
    exact ⟨_, 3, rfl, .inr ⟨by omega, rfl, rfl⟩, Below.refl _ _⟩

/-- what is said of bytes that are cut -/
def CutPost (w : World) (l : List UInt8) (e : Ending) (w' : World) : Prop :=
  Below w.heap.size w w' ∧ ∃ v, e = .returned (.tuple #[v, .int .i64 ((NM.cut l).2 : Int), .int .i64 0]) ∧ w'.ownsRow w.heap.size 9 1 v (NM.cut l).1.length (sc (NM.cut l).1)
/-- the loop's word -/
def CutAt (w : World) (l : List UInt8) (n k : Nat) (u : Value) (wr : World) (pre : List (List UInt8)) : Prop :=
  k ≤ n ∧ pre.length ≤ k ∧ NM.cut l = (pre ++ (NM.cut (l.drop k)).1, k + (NM.cut (l.drop k)).2) ∧ wr.ownsRow w.heap.size 9 1 u pre.length (sc pre) ∧ Below w.heap.size w wr
def CutRel (w : World) (l : List UInt8) (n k : Nat) (u : Value) (wr : World) : Prop := ∃ pre, CutAt w l n k u wr pre
theorem cutRel_next {w wr w2 : World} {l : List UInt8} {n k q : Nat} {u v b : Value} {t : List UInt8} {pre : List (List UInt8)} (h : CutAt w l n k u wr pre) (hl : l.length = n) (hd : NM.getText (l.drop k) = some (t, q))
    (ho : w2.ownsRow w.heap.size 9 1 v (pre.length + 1) (sc pre ++ [.string ⟨t.toArray⟩]))
    (hg : (wr.alloc (.cells #[b] 9)).grownBy w2 u.ownBlock) : CutRel w l n (k + q) v w2 := by
  obtain ⟨h1, h2, h3, h4, h5⟩ := h
  have hb := NM.getText_bound _ t q hd
  rw [List.length_drop] at hb
  refine ⟨pre ++ [t], by omega, by simp; omega, ?_, ?_, ?_⟩
  · rw [h3, NM.cut_some _ t q hd, List.drop_drop]
    simp [Nat.add_assoc]
  · rw [sc_append, List.length_append]; exact ho
  · refine (h5.alloc h5.size _).grown hg (by have := h5.size; simp; omega) fun g hgu => ?_
    rcases h4.2 with ⟨rfl, _⟩ | ⟨g', cap, cur, rfl, hb, _⟩
    · simp [Value.ownBlock] at hgu
    · simp [Value.ownBlock] at hgu; omega
theorem cutRel_end {w wr : World} {l : List UInt8} {n k : Nat} {u : Value} (h : CutRel w l n k u wr) (hd : NM.getText (l.drop k) = none) : CutPost w l (.returned (.tuple #[u, .int .i64 (k : Int), .int .i64 0])) wr := by
  obtain ⟨pre, h1, h2, h3, h4, h5⟩ := h
  rw [NM.cut_none _ hd] at h3
  refine ⟨h5, u, ?_, ?_⟩
  · rw [h3]; rfl
  · rw [h3]; simpa using h4

theorem cut_great (A : Option Addr) (n c : Nat) (w : World) (hn : 1048576 < n) (hm : n ≤ maxLen) :
    Calls Try.prog 39 #[.slice A n c] w fun e w' => e = .returned (.tuple #[.slice none 0 0, .int .i64 0, .int .i64 3]) ∧ w = w' := by
  unfold maxLen at hm
  go_enter Try.func39, Try.ntmps39
  go_wp2
  go_ret3
  exact ⟨rfl, rfl⟩

set_option maxHeartbeats 2000000 in
theorem cut_any (A : Option Addr) (n c : Nat) (l : List UInt8) (w : World) (hr : Rd w A n (bc l)) (hnc : n ≤ c) (hm : c ≤ maxLen) (hn : n ≤ 1048576) :
    Calls Try.prog 39 #[.slice A n c] w (CutPost w l) := by
  obtain ⟨i0, hi, hz0, hz1, hz2⟩ := info_parts info_str
  have hm2 : c ≤ 9223372036854775807 := by unfold maxLen at hm; omega
  have hl : l.length = n := by have := hr.1; rwa [bc_length] at this
  have HL := Lib.hid hl; clear hl
  have HM := Lib.hid hm; clear hm
  have hstart : CutRel w l n 0 (.slice none 0 0) w := ⟨[], by omega, by simp, by simp, World.ownsRow_nil _ _ _ _, Below.refl _ _⟩
  have HS := Lib.hid hstart; clear hstart
  have HR := Lib.hid hr; clear hr
  go_enter Try.func39, Try.ntmps39
  go_wp2_with fail
  go_loopw [5, 6] (fun u i wr => ∃ k : Nat, k ≤ n ∧ i = .int .i64 k ∧ CutRel w l n k u wr) (fun _ i _ => n - (intOf i).toNat)
  case atStart => exact ⟨0, by omega, rfl, HS.out⟩
  case round =>
    clear HS
    obtain ⟨k, hk, rfl, hrel⟩ := hrel
    have hbel : Below w.heap.size w wr := by obtain ⟨pre, _, _, _, _, h⟩ := hrel; exact h
    have hr2 := HR.out.below hbel
    rcases hd : NM.getText (l.drop k) with _ | ⟨t, q⟩
    · have hfin := cutRel_end hrel hd
      have HF := Lib.hid hfin; clear hfin hrel
      by_cases hcj : c = k
      · have hg2 : Calls Try.prog 49 #[.slice A 0 0] wr fun e w' => e = .returned (textRes none) ∧ wr = w' := by
          have := getText_any A 0 0 [] wr Rd.nil (by omega) (by unfold maxLen; omega)
          exact this
        subst hcj
        obtain rfl : n = c := by omega
        have HG2 := Lib.hid hg2; clear hg2 hr2 hd
        go_wp2_with (go_at_call 49; refine (HG2.out).mono ?_; rintro e w' ⟨rfl, rfl⟩; unfold textRes)
        go_ret3
        exact HF.out
      · have hg2 := getText_any (A.map (fun x => x.add k)) (n - k) (c - k) (l.drop k) wr (by rw [← bc_drop]; exact hr2.cutm hk) (by omega) (by have := HM.out; omega)
        rw [hd] at hg2
        have HG2 := Lib.hid hg2; clear hg2 hr2 hd
        go_wp2_with (go_at_call 49; refine (HG2.out).mono ?_; rintro e w' ⟨rfl, rfl⟩; unfold textRes)
        go_ret3
        exact HF.out
    · have hbd := NM.getText_bound _ t q hd
      rw [List.length_drop, HL.out] at hbd
      obtain ⟨hq1, hqn, ht, hqd⟩ := hbd
      clear hqd
      have hcj : c ≠ k := by omega
      have hg2 := getText_any (A.map (fun x => x.add k)) (n - k) (c - k) (l.drop k) wr (by rw [← bc_drop]; exact hr2.cutm hk) (by omega) (by have := HM.out; omega)
      rw [hd] at hg2
      obtain ⟨pre, hrel⟩ := hrel
      have hown0 : wr.ownsRow w.heap.size 9 1 u5 pre.length (sc pre) := hrel.2.2.2.1
      have hpl : pre.length ≤ k := hrel.2.1
      have hbs := hbel.size
      have HG2 := Lib.hid hg2; clear hg2 hr2
      have HD := Lib.hid hd; clear hd
      have HRel := Lib.hid hrel; clear hrel
      go_wp2_with (first
        | (go_at_call 49; refine (HG2.out).mono ?_; rintro e w' ⟨rfl, rfl⟩; unfold textRes)
        | (at_builtin; refine wpList_append_rd _ rfl _ _ 30 rfl w.heap.size 9 i0 (.string ByteArray.empty) 16 Try.underlying30 hi hz0 hz1 hz2 rfl _ _ _ rfl (hown0.alloc _) (some ⟨wr.heap.size, 0, none⟩) 1 1 [.string ⟨t.toArray⟩] rfl (rd_new _ _ _) (by intro u hu; simp at hu; subst hu; rfl) (by unfold maxLen; omega) (by omega) (by simp; omega) ?_; intro v2 w2 hown2 hg2 hob2))
      have hnext := cutRel_next HRel.out HL.out HD.out hown2 hg2
      clear hown2 hg2 hob2
      go_roundw
      case rel => exact ⟨k + q, by omega, by go_num, hnext⟩
      case measure => simp [intOf]; omega
end Go.Proofs.Ytkdnkaiknmcfmaa
