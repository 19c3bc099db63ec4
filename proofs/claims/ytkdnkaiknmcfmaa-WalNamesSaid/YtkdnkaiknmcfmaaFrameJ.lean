/-
  What frame.Join does, for every list of texts. Conditions: the slice reads as texts, each of a length that a text can have.
-/
import Derived.Test.YtkdnkaiknmcfmaaFrameA
namespace Go.Proofs.Ytkdnkaiknmcfmaa
open Go.RowKit
set_option linter.unusedVariables false

def joinOk (ls : List (List UInt8)) : Prop := (∀ s ∈ ls, s.length ≤ 4096) ∧ (NM.join ls).length ≤ 1048576
theorem join_take_le (ls : List (List UInt8)) (k : Nat) : (NM.join (ls.take k)).length ≤ (NM.join ls).length := by
  have h : NM.join ls = NM.join (ls.take k) ++ NM.join (ls.drop k) := by rw [← NM.join_append, List.take_append_drop]
  rw [h, List.length_append]; omega
theorem join_take_succ (ls : List (List UInt8)) (k : Nat) (h : k < ls.length) : NM.join (ls.take (k + 1)) = NM.join (ls.take k) ++ NM.text ls[k] := by
  rw [List.take_succ_eq_append_getElem h, NM.join_snoc]
theorem joinOk_take (ls : List (List UInt8)) (k : Nat) (h : joinOk ls) : joinOk (ls.take k) :=
  ⟨fun s hs => h.1 s (List.mem_of_mem_take hs), Nat.le_trans (join_take_le ls k) h.2⟩

/-- what is said of texts that are joined -/
def JoinPost (w : World) (ls : List (List UInt8)) (e : Ending) (w' : World) : Prop :=
  Below w.heap.size w w' ∧ ((65536 < ls.length ∧ e = .returned (.tuple #[.slice none 0 0, .int .i64 4])) ∨
    (ls.length ≤ 65536 ∧ joinOk ls ∧ ∃ v, e = .returned (.tuple #[v, .int .i64 0]) ∧ w'.ownsRow w.heap.size 5 1 v (NM.join ls).length (bc (NM.join ls))) ∨
    (ls.length ≤ 65536 ∧ ¬ joinOk ls ∧ e = .returned (.tuple #[.slice none 0 0, .int .i64 3])))
/-- the loop's word: of the first k texts the frames stand there -/
def JoinRel (w : World) (ls : List (List UInt8)) (k : Nat) (u : Value) (wr : World) : Prop :=
  joinOk (ls.take k) ∧ wr.ownsRow w.heap.size 5 1 u (NM.join (ls.take k)).length (bc (NM.join (ls.take k))) ∧ Below w.heap.size w wr
theorem joinRel_start (w : World) (ls : List (List UInt8)) : JoinRel w ls 0 (.slice none 0 0) w :=
  ⟨⟨by simp, by simp [NM.join_nil]⟩, World.ownsRow_nil _ _ _ _, Below.refl _ _⟩
theorem joinRel_below {w wr w2 : World} {ls : List (List UInt8)} {k : Nat} {u : Value} (h : JoinRel w ls k u wr) (hb : Below wr.heap.size wr w2) : JoinRel w ls k u w2 :=
  ⟨h.1, own_below h.2.1 hb, bmore h.2.2 hb (Nat.le_refl _)⟩
theorem joinRel_next {w wr w2 : World} {ls : List (List UInt8)} {k : Nat} {u v : Value} (hk : k < ls.length) (h : JoinRel w ls k u wr) (h4 : ls[k].length ≤ 4096) (hsz : (NM.text ls[k]).length + (NM.join (ls.take k)).length ≤ 1048576)
    (ho : w2.ownsRow w.heap.size 5 1 v ((NM.join (ls.take k)).length + (NM.text ls[k]).length) (bc (NM.join (ls.take k)) ++ bc (NM.text ls[k])))
    (hg : wr.grownBy w2 u.ownBlock) : JoinRel w ls (k + 1) v w2 := by
  obtain ⟨h1, h2, h3⟩ := h
  refine ⟨⟨?_, ?_⟩, ?_, ?_⟩
  · intro s hs
    rw [List.take_succ_eq_append_getElem hk, List.mem_append] at hs
    rcases hs with hs | hs
    · exact h1.1 s hs
    · simp at hs; subst hs; exact h4
  · rw [join_take_succ ls k hk, List.length_append]; omega
  · rw [join_take_succ ls k hk, List.length_append, bc_append]; exact ho
  · refine h3.grown hg h3.size fun g hgu => ?_
    rcases h2.2 with ⟨rfl, _⟩ | ⟨g', cap, cur, rfl, hb, _⟩
    · simp [Value.ownBlock] at hgu
    · simp [Value.ownBlock] at hgu; omega
theorem joinRel_end {w wr : World} {ls : List (List UInt8)} {n : Nat} {u : Value} (h : JoinRel w ls n u wr) (hl : ls.length = n) (hn : n ≤ 65536) : JoinPost w ls (.returned (.tuple #[u, .int .i64 0])) wr := by
  obtain ⟨h1, h2, h3⟩ := h
  rw [List.take_of_length_le (by omega)] at h1 h2
  exact ⟨h3, .inr (.inl ⟨by omega, h1, u, rfl, h2⟩)⟩
theorem joinRel_long {w wr : World} {ls : List (List UInt8)} {k : Nat} (hb : Below w.heap.size w wr) (hn : ls.length ≤ 65536) (hk : k < ls.length) (h4 : 4096 < ls[k].length) : JoinPost w ls (.returned (.tuple #[.slice none 0 0, .int .i64 3])) wr :=
  ⟨hb, .inr (.inr ⟨hn, fun h => by have := h.1 _ (List.getElem_mem hk); omega, rfl⟩)⟩
theorem joinRel_many {w wr : World} {ls : List (List UInt8)} {k : Nat} (hb : Below w.heap.size w wr) (hn : ls.length ≤ 65536) (hk : k < ls.length) (h4 : 1048576 < (NM.text ls[k]).length + (NM.join (ls.take k)).length) : JoinPost w ls (.returned (.tuple #[.slice none 0 0, .int .i64 3])) wr :=
  ⟨hb, .inr (.inr ⟨hn, fun h => by
    have h2 := (joinOk_take ls (k + 1) h).2
    rw [join_take_succ ls k hk, List.length_append] at h2
    omega, rfl⟩)⟩

set_option maxHeartbeats 2000000 in
theorem join_few (A : Option Addr) (n c : Nat) (ls : List (List UInt8)) (w : World) (hr : Rd w A n (sc ls)) (hs : ∀ t ∈ ls, t.length ≤ 9223372036854775807) (hn : n ≤ 65536) :
    Calls Try.prog 31 #[.slice A n c] w (JoinPost w ls) := by
  obtain ⟨i0, hi, hz0, hz1, hz2⟩ := info_parts info_u8
  have hl : ls.length = n := by have := hr.1; rwa [sc_length] at this
  have HL := Lib.hid hl; clear hl
  have HSm := Lib.hid hs; clear hs
  have HR := Lib.hid hr; clear hr
  go_enter Try.func31, Try.ntmps31
  go_wp2_with fail
  go_loopw [4, 14] (fun u i wr => ∃ k : Nat, k ≤ n ∧ i = .int .i64 k ∧ JoinRel w ls k u wr) (fun _ i _ => n - (intOf i).toNat)
  case atStart => exact ⟨0, by omega, rfl, joinRel_start w ls⟩
  case round =>
    obtain ⟨k, hk, rfl, hrel⟩ := hrel
    by_cases hlt : k < n
    · have hkl : k < ls.length := by have := HL.out; omega
      obtain ⟨ad, u, rfl, _, hu, hcell⟩ := (HR.out.below hrel.2.2).at_ hlt
      rw [sc_get ls k hkl] at hu
      injection hu with hu
      subst hu
      have hsm := HSm.out _ (List.getElem_mem hkl)
      have hjl := hrel.1.2
      have hlong := fun w2 hb => @joinRel_long w w2 ls k hb (by have := HL.out; omega) hkl
      have hmany := fun w2 hb => @joinRel_many w w2 ls k hb (by have := HL.out; omega) hkl
      have hnext := fun w1 u v w2 => @joinRel_next w w1 w2 ls k u v hkl
      obtain ⟨s, hs⟩ : ∃ s, s = ls[k] := ⟨_, rfl⟩
      rw [← hs] at hcell hsm
      simp only [← hs] at hnext hlong hmany
      have HLong := Lib.hid hlong; clear hlong
      have HMany := Lib.hid hmany; clear hmany
      have HNext := Lib.hid hnext; clear hnext hs
      obtain ⟨p, hp⟩ : ∃ p, p = NM.join (ls.take k) := ⟨_, rfl⟩
      have HP := Lib.hid hp
      rw [← hp] at hjl
      have hown : wr.ownsRow w.heap.size 5 1 u4 p.length (bc p) := by rw [hp]; exact hrel.2.1
      have hsz := hrel.2.2.size
      have HRel := Lib.hid hrel; clear hrel hp
      go_wp2_with fail
      refine (frame_all s _ hsm).mono ?_
      rintro e w1 ⟨v1, x1, rfl, hT, hb⟩
      have hB := bmore HRel.out.2.2 hb (Nat.le_refl _)
      rcases hT with ⟨h4, rfl, A1, c1, rfl, hr1, hc1, hm1⟩ | ⟨h4, rfl, rfl⟩
      rotate_left
      · go_wp2
        go_ret2
        exact HLong.out _ hB h4
      have htl := NM.text_le s
      obtain ⟨t, ht⟩ : ∃ t, t = NM.text s := ⟨_, rfl⟩
      rw [← ht] at hr1 hc1 htl ⊢
      have hown1 := own_below hown hb
      obtain ⟨pk, hpk⟩ : ∃ k, k = p.length := ⟨_, rfl⟩
      obtain ⟨tk, htk⟩ : ∃ k, k = t.length := ⟨_, rfl⟩
      obtain ⟨A0, c0, rfl, hc0, hm0⟩ := own_slice hown1
      rw [← hpk] at hown1 hjl hc0
      rw [← htk] at hr1 hc1 htl ⊢
      rw [← hpk]
      have HT := Lib.hid ht; clear ht
      have HPK := Lib.hid hpk; clear hpk
      have HTK := Lib.hid htk; clear htk
      have hb1 := hB.size
      clear hown
      by_cases hov : tk + pk ≤ 1048576
      · have h5 : decide ((1048576 : Int) - (pk : Int) < (tk : Int)) = false := by simp; omega
        go_wp2_with (at_builtin; refine wpList_append_rd _ rfl _ _ 22 rfl w.heap.size 5 i0 (.int .u8 0) 1 Try.underlying22 hi hz0 hz1 hz2 rfl _ _ _ rfl hown1 A1 tk c1 (bc t) rfl hr1 (bc_one _) (by unfold maxLen; omega) (by omega) hb1 ?_; intro v2 w2 hown2 hg2 hob2)
        have hnx : JoinRel w ls (k + 1) v2 w2 := by
          have hg3 : w1.grownBy w2 (Value.slice A0 pk c0).ownBlock := hg2
          rw [HPK.out] at hg3
          rw [HPK.out, HTK.out, HP.out, HT.out] at hown2
          refine HNext.out w1 _ v2 w2 (joinRel_below HRel.out hb) h4 ?_ hown2 hg3
          rw [← HT.out, ← HTK.out, ← HP.out, ← HPK.out]; exact hov
        clear hown2 hg2 hob2
        go_roundw
        case rel => exact ⟨k + 1, by omega, by go_num, hnx⟩
        case measure => simp [intOf]; omega
      · have h5 : decide ((1048576 : Int) - (pk : Int) < (tk : Int)) = true := by simp; omega
        have hfin : JoinPost w ls (.returned (.tuple #[.slice none 0 0, .int .i64 3])) w1 := by
          refine HMany.out _ hB ?_
          rw [← HT.out, ← HTK.out, ← HP.out, ← HPK.out]; omega
        have HF := Lib.hid hfin; clear hfin
        go_wp2_with fail
        go_ret2
        exact HF.out
    · obtain rfl : k = n := by omega
      have hfin := joinRel_end hrel HL.out hn
      have HF := Lib.hid hfin; clear hfin hrel
      go_wp2
      go_ret2
      exact HF.out
theorem join_great (A : Option Addr) (n c : Nat) (w : World) (hn : 65536 < n) (hm : n ≤ maxLen) :
    Calls Try.prog 31 #[.slice A n c] w fun e w' => e = .returned (.tuple #[.slice none 0 0, .int .i64 4]) ∧ w = w' := by
  unfold maxLen at hm
  go_enter Try.func31, Try.ntmps31
  go_wp2
  go_ret2
  exact ⟨rfl, rfl⟩
theorem join_any (A : Option Addr) (n c : Nat) (ls : List (List UInt8)) (w : World) (hr : Rd w A n (sc ls)) (hs : ∀ t ∈ ls, t.length ≤ 9223372036854775807) (hm : n ≤ maxLen) :
    Calls Try.prog 31 #[.slice A n c] w (JoinPost w ls) := by
  by_cases h : n ≤ 65536
  · exact join_few A n c ls w hr hs h
  · refine (join_great A n c w (by omega) hm).mono ?_
    rintro e w' ⟨rfl, rfl⟩
    have hl : ls.length = n := by have := hr.1; rwa [sc_length] at this
    exact ⟨Below.refl _ _, .inl ⟨by omega, rfl⟩⟩
end Go.Proofs.Ytkdnkaiknmcfmaa
