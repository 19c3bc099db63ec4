/-
  What the document's own Frame, Join and All (towncrierref02) do. Conditions: the slices read as texts, as bytes.
-/
import Derived.Test.YtkdnkaiknmcfmaaFrameJ
import Derived.Test.YtkdnkaiknmcfmaaNumRT
namespace Go.Proofs.Ytkdnkaiknmcfmaa
open Go.RowKit
set_option linter.unusedVariables false

theorem refFrame_all (l : List UInt8) (w : World) (hl : l.length ≤ 9223372036854775807) :
    Calls Try.prog 35 #[.string ⟨l.toArray⟩] w fun e w' => ∃ v x, e = .returned (.tuple #[v, .int .i64 x]) ∧ TextFact w' l v x ∧ Below w.heap.size w w' := by
  by_cases h : l.length ≤ 4096
  · go_enter Try.func35, Try.ntmps35
    go_wp2_with (go_at_call 47; refine (refTextBytes ⟨l.toArray⟩ w h).mono ?_; rintro e w' ⟨v, rfl, ho, hb⟩)
    go_ret2
    obtain ⟨A, c, rfl, h1, h2⟩ := own_slice ho
    exact ⟨_, 0, rfl, .inl ⟨h, rfl, A, c, rfl, Rd.of_own ho, h1, h2⟩, hb⟩
  · go_enter Try.func35, Try.ntmps35
    go_wp2_with fail
    go_ret2
    exact ⟨_, 3, rfl, .inr ⟨by omega, rfl, rfl⟩, Below.refl _ _⟩

/-- the loop's word: of the first k texts the frames stand there -/
def RJoinRel (w : World) (ls : List (List UInt8)) (k : Nat) (u : Value) (wr : World) : Prop :=
  ((∀ s ∈ ls.take k, s.length ≤ 4096) ∧ (NM.join (ls.take k)).length ≤ 1052678) ∧ wr.ownsRow w.heap.size 5 1 u (NM.join (ls.take k)).length (bc (NM.join (ls.take k))) ∧ Below w.heap.size w wr
theorem rjoinRel_start (w : World) (ls : List (List UInt8)) : RJoinRel w ls 0 (.slice none 0 0) w :=
  ⟨⟨by simp, by simp [NM.join_nil]⟩, World.ownsRow_nil _ _ _ _, Below.refl _ _⟩
theorem rjoinRel_below {w wr w2 : World} {ls : List (List UInt8)} {k : Nat} {u : Value} (h : RJoinRel w ls k u wr) (hb : Below wr.heap.size wr w2) : RJoinRel w ls k u w2 :=
  ⟨h.1, own_below h.2.1 hb, bmore h.2.2 hb (Nat.le_refl _)⟩
theorem rjoinRel_next {w wr w2 : World} {ls : List (List UInt8)} {k : Nat} {u v : Value} (hk : k < ls.length) (h : RJoinRel w ls k u wr) (h4 : ls[k].length ≤ 4096) (hsz : (NM.join (ls.take k)).length ≤ 1048576)
    (ho : w2.ownsRow w.heap.size 5 1 v ((NM.join (ls.take k)).length + (NM.text ls[k]).length) (bc (NM.join (ls.take k)) ++ bc (NM.text ls[k])))
    (hg : wr.grownBy w2 u.ownBlock) : RJoinRel w ls (k + 1) v w2 := by
  obtain ⟨h1, h2, h3⟩ := h
  have htl := NM.text_le ls[k]
  refine ⟨⟨?_, ?_⟩, ?_, ?_⟩
  · intro s hs
    rw [List.take_succ_eq_append_getElem hk, List.mem_append] at hs
    rcases hs with hs | hs
    · exact h1.1 s hs
    · simp at hs; subst hs; exact h4
  · rw [join_take_succ ls k hk, List.length_append]; omega
  · rw [join_take_succ ls k hk, List.length_append, bc_append]; exact ho
  · refine h3.grown hg h3.size fun g hgu => ?_
    rcases h2.2 with ⟨rfl, _⟩ | ⟨g', cap, cur, rfl, hb, _⟩
    · simp [Value.ownBlock] at hgu
    · simp [Value.ownBlock] at hgu; omega
theorem rjoinRel_end {w wr : World} {ls : List (List UInt8)} {n : Nat} {u : Value} (h : RJoinRel w ls n u wr) (hl : ls.length = n) (hn : n ≤ 65536) (hj : (NM.join (ls.take n)).length ≤ 1048576) : JoinPost w ls (.returned (.tuple #[u, .int .i64 0])) wr := by
  obtain ⟨h1, h2, h3⟩ := h
  rw [List.take_of_length_le (by omega)] at h1 h2 hj
  exact ⟨h3, .inr (.inl ⟨by omega, ⟨h1.1, hj⟩, u, rfl, h2⟩)⟩
theorem rjoinRel_many {w wr : World} {ls : List (List UInt8)} {k : Nat} (hb : Below w.heap.size w wr) (hn : ls.length ≤ 65536) (h4 : 1048576 < (NM.join (ls.take k)).length) : JoinPost w ls (.returned (.tuple #[.slice none 0 0, .int .i64 3])) wr :=
  ⟨hb, .inr (.inr ⟨hn, fun h => by
    have h2 := (joinOk_take ls k h).2
    omega, rfl⟩)⟩

set_option maxHeartbeats 2000000 in
theorem refJoin_few (A : Option Addr) (n c : Nat) (ls : List (List UInt8)) (w : World) (hr : Rd w A n (sc ls)) (hs : ∀ t ∈ ls, t.length ≤ 9223372036854775807) (hn : n ≤ 65536) :
    Calls Try.prog 37 #[.slice A n c] w (JoinPost w ls) := by
  obtain ⟨i0, hi, hz0, hz1, hz2⟩ := info_parts info_u8
  have hl : ls.length = n := by have := hr.1; rwa [sc_length] at this
  have HL := Lib.hid hl; clear hl
  have HSm := Lib.hid hs; clear hs
  have HR := Lib.hid hr; clear hr
  have t0 : decide ((65536 : Int) < (n : Int)) = false := by simp; omega
  go_enter Try.func37, Try.ntmps37
  go_wp2_with fail
  go_loopw [4, 5] (fun u i wr => ∃ k : Nat, k ≤ n ∧ i = .int .i64 k ∧ RJoinRel w ls k u wr) (fun _ i _ => n - (intOf i).toNat)
  case atStart => exact ⟨0, by omega, rfl, rjoinRel_start w ls⟩
  case round =>
    obtain ⟨k, hk, rfl, hrel⟩ := hrel
    have hjl := hrel.1.2
    have hB := hrel.2.2
    have hsz := hB.size
    have hmany := @rjoinRel_many w wr ls k hB (by have := HL.out; omega)
    have hend := @rjoinRel_end w wr ls n
    by_cases hlt : k < n
    · have hkl : k < ls.length := by have := HL.out; omega
      obtain ⟨ad, u, rfl, _, hu, hcell⟩ := (HR.out.below hrel.2.2).at_ hlt
      rw [sc_get ls k hkl] at hu
      injection hu with hu
      subst hu
      have hsm := HSm.out _ (List.getElem_mem hkl)
      have hlong := @joinRel_long w wr ls k hB (by have := HL.out; omega) hkl
      have hnext := fun w1 u v w2 => @rjoinRel_next w w1 w2 ls k u v hkl
      obtain ⟨s, hs⟩ : ∃ s, s = ls[k] := ⟨_, rfl⟩
      rw [← hs] at hcell hsm hlong
      simp only [← hs] at hnext
      have HLong := Lib.hid hlong; clear hlong hend
      have HMany := Lib.hid hmany; clear hmany
      have HNext := Lib.hid hnext; clear hnext hs
      obtain ⟨p, hp⟩ : ∃ p, p = NM.join (ls.take k) := ⟨_, rfl⟩
      have HP := Lib.hid hp
      rw [← hp] at hjl
      have hown : wr.ownsRow w.heap.size 5 1 u4 p.length (bc p) := by rw [hp]; exact hrel.2.1
      have HRel := Lib.hid hrel; clear hrel hp
      obtain ⟨pk, hpk⟩ : ∃ k, k = p.length := ⟨_, rfl⟩
      obtain ⟨A0, c0, rfl, hc0, hm0⟩ := own_slice hown
      rw [← hpk] at hown hjl hc0 ⊢
      have HPK := Lib.hid hpk; clear hpk
      by_cases h4 : s.length ≤ 4096
      · by_cases hov : pk ≤ 1048576
        · have htl := NM.text_le s
          go_wp2_with fail
          refine (refTextBytes ⟨s.toArray⟩ wr h4).mono ?_
          rintro e w1 ⟨v1, rfl, ho, hb⟩
          have hown1 := own_below hown hb
          obtain ⟨A1, c1, rfl, hc1, hm1⟩ := own_slice ho
          have hr1 := Rd.of_own ho
          clear ho
          obtain ⟨t, ht⟩ : ∃ t, t = NM.text s := ⟨_, rfl⟩
          have hr2 : Rd w1 A1 (NM.text s).length (bc (NM.text s)) := hr1
          have e1 : (NM.text (⟨s.toArray⟩ : ByteArray).data.toList).length = (NM.text s).length := rfl
          have hc2 : (NM.text s).length ≤ c1 := hc1
          rw [e1]
          clear hr1 hc1 e1
          rw [← ht] at hr2 hc2 htl ⊢
          obtain ⟨tk, htk⟩ : ∃ k, k = t.length := ⟨_, rfl⟩
          rw [← htk] at hr2 hc2 htl ⊢
          have HT := Lib.hid ht; clear ht
          have HTK := Lib.hid htk; clear htk
          have hb1 := (bmore HRel.out.2.2 hb (Nat.le_refl _)).size
          clear hown
          go_wp2_with (at_builtin; refine wpList_append_rd _ rfl _ _ 22 rfl w.heap.size 5 i0 (.int .u8 0) 1 Try.underlying22 hi hz0 hz1 hz2 rfl _ _ _ rfl hown1 A1 tk c1 (bc t) rfl hr2 (bc_one _) (by unfold maxLen; omega) (by omega) hb1 ?_; intro v2 w2 hown2 hg2 hob2)
          have hnx : RJoinRel w ls (k + 1) v2 w2 := by
            have hg3 : w1.grownBy w2 (Value.slice A0 pk c0).ownBlock := hg2
            rw [HPK.out] at hg3
            rw [HPK.out, HTK.out, HP.out, HT.out] at hown2
            refine HNext.out w1 _ v2 w2 (rjoinRel_below HRel.out hb) h4 ?_ hown2 hg3
            rw [← HP.out, ← HPK.out]; exact hov
          clear hown2 hg2 hob2
          go_roundw
          case rel => exact ⟨k + 1, by omega, by go_num, hnx⟩
          case measure => simp [intOf]; omega
        · have hfin : JoinPost w ls (.returned (.tuple #[.slice none 0 0, .int .i64 3])) wr := by
            refine HMany.out ?_
            rw [← HP.out, ← HPK.out]; omega
          have HF := Lib.hid hfin; clear hfin
          go_wp2_with fail
          go_ret2
          exact HF.out
      · have hfin := HLong.out (by omega)
        have HF := Lib.hid hfin; clear hfin
        go_wp2_with fail
        go_ret2
        exact HF.out
    · obtain rfl : k = n := by omega
      have hend2 := hend hrel HL.out hn
      have hown := hrel.2.1
      obtain ⟨A0, c0, rfl, hc0, hm0⟩ := own_slice hown
      clear hend hown
      obtain ⟨pk, hpk⟩ : ∃ y, y = (NM.join (ls.take k)).length := ⟨_, rfl⟩
      rw [← hpk] at hend2 hmany hjl hc0 ⊢
      have HPK := Lib.hid hpk; clear hpk hrel
      have HE := Lib.hid hend2; clear hend2
      have HMany := Lib.hid hmany; clear hmany
      by_cases hov : pk ≤ 1048576
      · have hfin := HE.out hov
        have HF := Lib.hid hfin; clear hfin HE HMany
        go_wp2_with fail
        go_ret2
        exact HF.out
      · have hfin := HMany.out (by omega)
        have HF := Lib.hid hfin; clear hfin HE HMany
        go_wp2_with fail
        go_ret2
        exact HF.out
theorem refJoin_great (A : Option Addr) (n c : Nat) (w : World) (hn : 65536 < n) (hm : n ≤ maxLen) :
    Calls Try.prog 37 #[.slice A n c] w fun e w' => e = .returned (.tuple #[.slice none 0 0, .int .i64 4]) ∧ w = w' := by
  unfold maxLen at hm
  go_enter Try.func37, Try.ntmps37
  go_wp2
  go_ret2
  exact ⟨rfl, rfl⟩
theorem refJoin_any (A : Option Addr) (n c : Nat) (ls : List (List UInt8)) (w : World) (hr : Rd w A n (sc ls)) (hs : ∀ t ∈ ls, t.length ≤ 9223372036854775807) (hm : n ≤ maxLen) :
    Calls Try.prog 37 #[.slice A n c] w (JoinPost w ls) := by
  by_cases h : n ≤ 65536
  · exact refJoin_few A n c ls w hr hs h
  · refine (refJoin_great A n c w (by omega) hm).mono ?_
    rintro e w' ⟨rfl, rfl⟩
    have hl : ls.length = n := by have := hr.1; rwa [sc_length] at this
    exact ⟨Below.refl _ _, .inl ⟨by omega, rfl⟩⟩

/-- what is said of All -/
def AllPost (w : World) (l : List UInt8) (e : Ending) (w' : World) : Prop :=
  Below w.heap.size w w' ∧ ∃ v, e = .returned (.tuple #[v, .int .i64 ((NM.cut l).2 : Int)]) ∧ w'.ownsRow w.heap.size 9 1 v (NM.cut l).1.length (sc (NM.cut l).1)
theorem allRel_end {w wr : World} {l : List UInt8} {n k : Nat} {u : Value} (h : CutRel w l n k u wr) (hd : NM.getText (l.drop k) = none) : AllPost w l (.returned (.tuple #[u, .int .i64 (k : Int)])) wr := by
  obtain ⟨hb, v, he, ho⟩ := cutRel_end h hd
  simp only [Ending.returned.injEq, Value.tuple.injEq, Array.mk.injEq, List.cons.injEq, Value.int.injEq, true_and, and_true] at he
  exact ⟨hb, v, by rw [he.1, he.2], ho⟩

set_option maxHeartbeats 2000000 in
theorem refAll_any (A : Option Addr) (n c : Nat) (l : List UInt8) (w : World) (hr : Rd w A n (bc l)) (hnc : n ≤ c) (hm : c ≤ maxLen) (hn : n ≤ 1048576) :
    Calls Try.prog 33 #[.slice A n c] w (AllPost w l) := by
  obtain ⟨i0, hi, hz0, hz1, hz2⟩ := info_parts info_str
  have hm2 : c ≤ 9223372036854775807 := by unfold maxLen at hm; omega
  have hl : l.length = n := by have := hr.1; rwa [bc_length] at this
  have HL := Lib.hid hl; clear hl
  have HM := Lib.hid hm; clear hm
  have hstart : CutRel w l n 0 (.slice none 0 0) w := ⟨[], by omega, by simp, by simp, World.ownsRow_nil _ _ _ _, Below.refl _ _⟩
  have HS := Lib.hid hstart; clear hstart
  have HR := Lib.hid hr; clear hr
  go_enter Try.func33, Try.ntmps33
  go_wp2_with fail
  go_loopw [4, 5] (fun u i wr => ∃ k : Nat, k ≤ n ∧ i = .int .i64 k ∧ CutRel w l n k u wr) (fun _ i _ => n - (intOf i).toNat)
  case atStart => exact ⟨0, by omega, rfl, HS.out⟩
  case round =>
    clear HS
    obtain ⟨k, hk, rfl, hrel⟩ := hrel
    have hbel : Below w.heap.size w wr := by obtain ⟨pre, _, _, _, _, h⟩ := hrel; exact h
    have hr2 := HR.out.below hbel
    by_cases hlt : k < n
    · have hcj : c ≠ k := by omega
      have hg2 := refGetText_any (A.map (fun x => x.add k)) (n - k) (c - k) (l.drop k) wr (by rw [← bc_drop]; exact hr2.cutm hk) (by omega) (by have := HM.out; omega)
      rcases hd : NM.getText (l.drop k) with _ | ⟨t, q⟩
      · have hfin := allRel_end hrel hd
        have HF := Lib.hid hfin; clear hfin hrel
        rw [hd] at hg2
        have HG2 := Lib.hid hg2; clear hg2 hr2 hd
        go_wp2_with (go_at_call 46; refine (HG2.out).mono ?_; rintro e w' ⟨rfl, rfl⟩; unfold textRes)
        go_ret2
        exact HF.out
      · have hbd := NM.getText_bound _ t q hd
        rw [List.length_drop, HL.out] at hbd
        obtain ⟨hq1, hqn, ht, hqd⟩ := hbd
        clear hqd
        rw [hd] at hg2
        obtain ⟨pre, hrel⟩ := hrel
        have hown0 : wr.ownsRow w.heap.size 9 1 u4 pre.length (sc pre) := hrel.2.2.2.1
        have hpl : pre.length ≤ k := hrel.2.1
        have hbs := hbel.size
        have HG2 := Lib.hid hg2; clear hg2 hr2
        have HD := Lib.hid hd; clear hd
        have HRel := Lib.hid hrel; clear hrel
        go_wp2_with (first
          | (go_at_call 46; refine (HG2.out).mono ?_; rintro e w' ⟨rfl, rfl⟩; unfold textRes)
          | (at_builtin; refine wpList_append_rd _ rfl _ _ 30 rfl w.heap.size 9 i0 (.string ByteArray.empty) 16 Try.underlying30 hi hz0 hz1 hz2 rfl _ _ _ rfl (hown0.alloc _) (some ⟨wr.heap.size, 0, none⟩) 1 1 [.string ⟨t.toArray⟩] rfl (rd_new _ _ _) (by intro u hu; simp at hu; subst hu; rfl) (by unfold maxLen; omega) (by omega) (by simp; omega) ?_; intro v2 w2 hown2 hg2 hob2))
        have hnext := cutRel_next HRel.out HL.out HD.out hown2 hg2
        clear hown2 hg2 hob2
        go_roundw
        case rel => exact ⟨k + q, by omega, by go_num, hnext⟩
        case measure => simp [intOf]; omega
    · obtain rfl : k = n := by omega
      have hd : NM.getText (l.drop k) = none := by
        have e : l.drop k = [] := List.drop_eq_nil_of_le (by have := HL.out; omega)
        rw [e]; decide
      have hfin := allRel_end hrel hd
      have HF := Lib.hid hfin; clear hfin hrel hd
      go_wp2_with fail
      go_ret2
      exact HF.out
end Go.Proofs.Ytkdnkaiknmcfmaa
