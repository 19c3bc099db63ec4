/-
  Plain mathematics of records on a disk: what follows of opening, adding, writing anew, a sync and a crash. No walk.
-/
import Derived.Test.YtkdnkaiknmcfmaaWalD
namespace Go.Proofs.Ytkdnkaiknmcfmaa
open Go.RowKit
set_option linter.unusedVariables false

/-- the disk is whole, and these are its records -/
def Has (b : List UInt8) (ps : List DM.Wr) (ts : List (List UInt8)) : Prop := DM.may b ps ∧ DM.behind b ps = NM.join ts ∧ short ts
theorem cut_whole (ts : List (List UInt8)) (h : short ts) : NM.cut (NM.join ts) = (ts, (NM.join ts).length) := by
  have := NM.cut_join ts [] h
  rw [List.append_nil, NM.cut_none [] (by decide)] at this
  simpa using this
theorem cut_is (r : List UInt8) : NM.join (NM.cut r).1 = r.take (NM.cut r).2 ∧ (NM.cut r).2 ≤ r.length ∧ short (NM.cut r).1 ∧ (NM.cut r).1.length ≤ (NM.cut r).2 := NM.join_cut _ _
theorem open_has {b b1 : List UInt8} {ps p1 : List DM.Wr} {ts : List (List UInt8)} (h : OpenIs b ps b1 p1 ts 0) : Has b1 p1 ts := by
  obtain ⟨c1, c2, c3, c4⟩ := cut_is (DM.behind b ps)
  rcases h with ⟨_, _, _, _, h⟩ | ⟨h1, h2, rfl, rfl, rfl, _⟩ | ⟨h1, h2, h3, h4⟩
  · cases h
  · refine ⟨h1, ?_, c3⟩
    rw [h2, List.take_length] at c1
    exact c1.symm
  · rcases h3 with ⟨_, _, _, h⟩ | ⟨_, _, _, _, h⟩ | ⟨_, h5, rfl, rfl, _⟩
    · cases h
    · cases h
    · rcases h4 with ⟨_, rfl⟩ | ⟨h, _⟩
      · refine ⟨h5, ?_, c3⟩
        rw [DM.behind_snoc, DM.step, c1]; rfl
      · cases h
theorem has_open {b : List UInt8} {ps : List DM.Wr} {ts : List (List UInt8)} (h : Has b ps ts) : OpenIs b ps b ps ts 0 := by
  obtain ⟨h1, h2, h3⟩ := h
  have hc := cut_whole ts h3
  refine .inr (.inl ⟨h1, ?_, rfl, rfl, ?_, rfl⟩)
  · rw [h2, hc]
  · rw [h2, hc]
theorem open_err {b b1 : List UInt8} {ps p1 : List DM.Wr} {ts : List (List UInt8)} {x : Int} (h : OpenIs b ps b1 p1 ts x) (hx : x ≠ 0) : ts = [] ∧ b1 = [] ∧ p1 = [] := by
  rcases h with ⟨_, h2, h3, h4, _⟩ | ⟨_, _, _, _, _, h⟩ | ⟨_, _, h3, h4⟩
  · exact ⟨h4, h2, h3⟩
  · exact absurd h hx
  · rcases h4 with ⟨h, _⟩ | ⟨_, h4⟩
    · exact absurd h hx
    · rcases h3 with ⟨_, g1, g2, _⟩ | ⟨_, _, g1, g2, _⟩ | ⟨_, _, _, _, h⟩
      · exact ⟨h4, g1, g2⟩
      · exact ⟨h4, g1, g2⟩
      · exact absurd h hx
theorem pf_quiet (fs : List (List UInt8)) : DM.quiet (pf fs) := by
  intro p hp
  simp only [pf, List.mem_map] at hp
  obtain ⟨f, _, rfl⟩ := hp
  rfl
theorem pf_flat (ls : List (List UInt8)) : ((pf (ls.map NM.text)).map (·.2)).flatten = NM.join ls := by
  simp [pf, NM.join, List.flatMap, Function.comp_def]
theorem join_pf (ts ls : List (List UInt8)) : DM.behind (NM.join ts) (pf (ls.map NM.text)) = NM.join (ts ++ ls) := by
  rw [DM.behind_quiet _ _ (pf_quiet _), pf_flat, NM.join_append]
theorem add_has {b b1 : List UInt8} {ps p1 : List DM.Wr} {ts ls : List (List UInt8)} (h : Has b ps ts) (ha : AddIs b ps ls b1 p1 0) : Has b1 p1 (ts ++ ls) ∧ b1 = b ∧ p1 = ps ++ pf (ls.map NM.text) ∧ short ls := by
  obtain ⟨h1, h2, h3⟩ := h
  rcases ha with ⟨_, _, _, h⟩ | ⟨_, _, _, _, h⟩ | ⟨_, _, _, _, _, h⟩ | ⟨_, _, _, _, _, _, h⟩ | ⟨_, _, g1, _, g2⟩
  · cases h
  · cases h
  · cases h
  · cases h
  · rcases g2 with ⟨g2, rfl, rfl, _⟩ | ⟨_, _, _, h⟩
    · refine ⟨⟨g2, ?_, ?_⟩, rfl, rfl, g1⟩
      · rw [DM.behind_append, h2, join_pf]
      · intro s hs
        rcases List.mem_append.1 hs with hs | hs
        · exact h3 s hs
        · exact g1 s hs
    · cases h
theorem has_small {b : List UInt8} {ps : List DM.Wr} {ts : List (List UInt8)} (h : Has b ps ts) : (NM.join ts).length ≤ 1048576 := by
  rw [← h.2.1]; exact DM.fits_all h.1.2
theorem join_many (ts : List (List UInt8)) : ts.length ≤ (NM.join ts).length := by
  induction ts with
  | nil => simp
  | cons s t ih => rw [NM.join_cons, List.length_append, List.length_cons]; have := NM.text_pos s; omega
theorem has_many {b : List UInt8} {ps : List DM.Wr} {ts : List (List UInt8)} (h : Has b ps ts) : ts.length ≤ 1048576 := Nat.le_trans (join_many ts) (has_small h)
theorem has_see {b : List UInt8} {ps : List DM.Wr} {ts : List (List UInt8)} (h : Has b ps ts) : SeeIs b ps (NM.join ts) 0 := .inl ⟨h.1, h.2.1.symm, rfl⟩
theorem has_sync {b : List UInt8} {ps : List DM.Wr} {ts : List (List UInt8)} (h : Has b ps ts) : Has (NM.join ts) [] ts := ⟨DM.may_nil.2 (has_small h), DM.behind_nil _, h.2.2⟩
theorem reset_has {b b1 : List UInt8} {ps p1 : List DM.Wr} {ls : List (List UInt8)} (h : ResetIs b ps ls b1 p1 0) : Has b1 p1 ls ∧ b1 = b ∧ p1 = ps ++ [(true, NM.join ls)] := by
  rcases h with ⟨_, _, _, h⟩ | ⟨_, _, _, _, h⟩ | ⟨_, _, _, _, _, h⟩ | ⟨_, _, g1, g2⟩
  · cases h
  · cases h
  · cases h
  · rcases g2 with ⟨_, _, _, h⟩ | ⟨_, _, _, _, h⟩ | ⟨_, h5, rfl, rfl, _⟩
    · cases h
    · cases h
    · exact ⟨⟨h5, by rw [DM.behind_snoc, DM.step]; rfl, g1.1⟩, rfl, rfl⟩

/-- bytes of whatever kind are opened -/
theorem torn_open (r : List UInt8) (hr : r.length ≤ 1048576) : ∃ b1 p1, OpenIs r [] b1 p1 (NM.cut r).1 0 := by
  have hm : DM.may r [] := DM.may_nil.2 hr
  have hb : DM.behind r [] = r := DM.behind_nil r
  by_cases h : (NM.cut r).2 = r.length
  · exact ⟨r, [], .inr (.inl ⟨hm, by rw [hb]; exact h, rfl, rfl, by rw [hb], rfl⟩)⟩
  · refine ⟨r, [] ++ [(true, r.take (NM.cut r).2)], .inr (.inr ⟨hm, by rw [hb]; exact h, .inr (.inr ⟨hm, ?_, rfl, by rw [hb], rfl⟩), .inl ⟨rfl, by rw [hb]⟩⟩)⟩
    rw [DM.may_snoc, hb]
    refine ⟨by decide, hm.2, ?_⟩
    simp only [DM.more, if_true, List.length_take]
    omega
/-- of added records that wait a crash leaves a beginning -/
theorem crash_torn (ts ls : List (List UInt8)) (keep many : Nat) (hk : keep ≤ ls.length) : ∃ n, (NM.join (ts ++ ls.take keep)).length ≤ n ∧ n ≤ (NM.join (ts ++ ls)).length ∧ DM.crash (NM.join ts) (pf (ls.map NM.text)) keep many = (NM.join (ts ++ ls)).take n := by
  have hpl : (pf (ls.map NM.text)).length = ls.length := by rw [pf_length, List.length_map]
  have htk : (pf (ls.map NM.text)).take keep = pf ((ls.take keep).map NM.text) := by simp [pf]
  have hsplit : NM.join (ts ++ ls) = NM.join (ts ++ ls.take keep) ++ NM.join (ls.drop keep) := by
    rw [← NM.join_append, List.append_assoc, List.take_append_drop]
  rcases Nat.lt_or_ge keep ls.length with hlt | hge
  · have hlt' : keep < (pf (ls.map NM.text)).length := by omega
    have he : (pf (ls.map NM.text))[keep] = (false, NM.text ls[keep]) := by simp [pf]
    have hd : NM.join (ls.drop keep) = NM.text ls[keep] ++ NM.join (ls.drop (keep + 1)) := by rw [List.drop_eq_getElem_cons hlt, NM.join_cons]
    refine ⟨(NM.join (ts ++ ls.take keep)).length + ((NM.text ls[keep]).take many).length, by omega, ?_, ?_⟩
    · rw [hsplit, hd]; simp only [List.length_append, List.length_take]; omega
    · unfold DM.crash
      rw [DM.left_torn hlt' (by rw [he]), DM.behind_snoc, htk, join_pf, he, hsplit, List.take_length_add_append, hd]
      unfold DM.step
      simp only [Bool.false_eq_true, if_false]
      congr 1
      rw [List.take_append_of_le_length (by simp only [List.length_take]; omega)]
      simp
  · obtain rfl : keep = ls.length := by omega
    refine ⟨(NM.join (ts ++ ls)).length, by rw [List.take_length]; omega, Nat.le_refl _, ?_⟩
    unfold DM.crash
    rw [DM.left_end (by omega), htk, join_pf, List.take_length, List.take_length]
/-- the records of a beginning: at least those that it holds whole -/
theorem torn_records (all : List (List UInt8)) (n i : Nat) (h : short all) (hn : n ≤ (NM.join all).length) (hi : i ≤ all.length) (hin : (NM.join (all.take i)).length ≤ n) : ∃ j, i ≤ j ∧ j ≤ all.length ∧ (NM.cut ((NM.join all).take n)).1 = all.take j := by
  obtain ⟨j, h1, h2, h3, h4⟩ := NM.cut_torn all n h hn
  refine ⟨j, ?_, h1, by rw [h2]⟩
  rcases Nat.lt_or_ge j i with hlt | hge
  · exfalso
    have hj : j < all.length := by omega
    have h5 := h4 hj
    have e1 : NM.join (all.take (j + 1)) = NM.join (all.take j) ++ NM.text all[j] := by rw [List.take_succ_eq_append_getElem hj, NM.join_snoc]
    have e2 : all.take i = all.take (j + 1) ++ (all.take i).drop (j + 1) := by
      conv => lhs; rw [← List.take_append_drop (j + 1) (all.take i)]
      rw [List.take_take, Nat.min_eq_left (by omega)]
    rw [e2, NM.join_append, e1, List.length_append, List.length_append] at hin
    omega
  · exact hge
/-- adding to a synced disk, and a crash: what is opened -/
theorem torn_math {b3 r4 : List UInt8} {p3 : List DM.Wr} {was ls : List (List UInt8)} {keep many : Int} (h : Has (NM.join was) [] was) (ha : AddIs (NM.join was) [] ls b3 p3 0) (hc : CrashIs b3 p3 keep many r4 0) :
    ∃ j b5 p5, OpenIs r4 [] b5 p5 ((was ++ ls).take j) 0 ∧ j ≤ was.length + ls.length ∧ 0 ≤ keep ∧ (was.length : Int) + keep ≤ j := by
  obtain ⟨h1, rfl, hp, hl⟩ := add_has h ha
  rw [List.nil_append] at hp
  subst hp
  rcases hc with ⟨_, _, h⟩ | ⟨_, _, _, h⟩ | ⟨_, k1, k2, k3, hr, _⟩
  · cases h
  · cases h
  · rw [pf_length, List.length_map] at k2
    obtain ⟨n, g1, g2, g3⟩ := crash_torn was ls keep.toNat many.toNat (by omega)
    rw [← hr] at g3
    have hsm := has_small h1
    have hrl : r4.length ≤ 1048576 := by rw [g3, List.length_take]; omega
    obtain ⟨j, j1, j2, j3⟩ := torn_records (was ++ ls) n (was.length + keep.toNat) h1.2.2 g2 (by rw [List.length_append]; omega) (by rw [List.take_length_add_append]; exact g1)
    obtain ⟨b5, p5, ho⟩ := torn_open r4 hrl
    rw [g3, j3, ← g3] at ho
    rw [List.length_append] at j2
    exact ⟨j, b5, p5, ho, j2, k1, by omega⟩
/-- writing anew a synced disk, and a crash: what is opened -/
theorem reset_math {b3 r4 : List UInt8} {p3 : List DM.Wr} {was ls : List (List UInt8)} {keep many : Int} (h : Has (NM.join was) [] was) (ha : ResetIs (NM.join was) [] ls b3 p3 0) (hc : CrashIs b3 p3 keep many r4 0) :
    (keep = 0 ∧ OpenIs r4 [] r4 [] was 0) ∨ (keep = 1 ∧ OpenIs r4 [] r4 [] ls 0) := by
  obtain ⟨h1, rfl, hp⟩ := reset_has ha
  rw [List.nil_append] at hp
  subst hp
  rcases hc with ⟨_, _, h⟩ | ⟨_, _, _, h⟩ | ⟨_, k1, k2, k3, hr, _⟩
  · cases h
  · cases h
  · have k4 : keep = 0 ∨ keep = 1 := by simp at k2; omega
    rcases k4 with rfl | rfl
    · left
      have e : r4 = NM.join was := by
        rw [hr]; unfold DM.crash
        rw [DM.left_swap (by simp) rfl]; rfl
      subst e
      exact ⟨rfl, has_open h⟩
    · right
      have e : r4 = NM.join ls := by
        rw [hr]; unfold DM.crash
        rw [DM.left_end (by simp)]; rfl
      subst e
      exact ⟨rfl, has_open (has_sync h1)⟩
end Go.Proofs.Ytkdnkaiknmcfmaa
