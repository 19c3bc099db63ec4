/-
  The walk of NumReads: numbers, texts and lists are read as the document's own functions read them; what is handed in stays.
-/
import Derived.Test.YtffikjepeoeimaaNumRJ
namespace Go.Proofs.Ytffikjepeoeimaa
open Go.RowKit
set_option linter.unusedVariables false

theorem getRes_ex (o : Option (Nat × Nat)) : ∃ n k x : Int, getRes o = .tuple #[.int .i64 n, .int .i64 k, .int .i64 x] := by
  match o with
  | none => exact ⟨0, 0, 8, rfl⟩
  | some (n, k) => exact ⟨n, k, 0, rfl⟩
theorem textRes_ex (o : Option (List UInt8 × Nat)) : ∃ (t : List UInt8) (k x : Int), textRes o = .tuple #[.string ⟨t.toArray⟩, .int .i64 k, .int .i64 x] := by
  match o with
  | none => exact ⟨[], 0, 8, rfl⟩
  | some (t, k) => exact ⟨t, k, 0, rfl⟩
/-- what reading a list comes to -/
def GetIs (l : List UInt8) (most : Int) (zs : List Int) (n : Nat) (k x : Int) : Prop := zs.length = n ∧ ((¬ (0 ≤ most ∧ most ≤ 4096) ∧ zs = [] ∧ k = 0 ∧ x = 2) ∨
  (0 ≤ most ∧ most ≤ 4096 ∧ ((NM.getInts l most.toNat = none ∧ zs = [] ∧ k = 0 ∧ x = 8) ∨ ∃ (xs : List Nat) (j : Nat), NM.getInts l most.toNat = some (xs, j) ∧ zs = intsOf xs ∧ k = j ∧ x = 0)))
theorem getIs_ex (l : List UInt8) (most : Int) : ∃ zs n k x, GetIs l most zs n k x := by
  by_cases h : 0 ≤ most ∧ most ≤ 4096
  · rcases hg : NM.getInts l most.toNat with _ | ⟨xs, j⟩
    · exact ⟨_, _, _, _, rfl, .inr ⟨h.1, h.2, .inl ⟨hg, rfl, rfl, rfl⟩⟩⟩
    · exact ⟨_, _, _, _, rfl, .inr ⟨h.1, h.2, .inr ⟨xs, j, hg, rfl, rfl, rfl⟩⟩⟩
  · exact ⟨_, _, _, _, rfl, .inl ⟨h, rfl, rfl, rfl⟩⟩
/-- an answer: a slice of the numbers zs, a size, an error -/
def IAns (zs : List Int) (n : Nat) (k x : Int) (w : World) (e : Ending) (w' : World) : Prop :=
  ∃ A c, e = .returned (.tuple #[.slice A n c, .int .i64 k, .int .i64 x]) ∧ Rd w' A n (ic zs) ∧ n ≤ c ∧ c ≤ maxLen ∧ Below w.heap.size w w'
theorem iAns_of {l : List UInt8} {m : Nat} {zs : List Int} {n : Nat} {k x : Int} {w w' : World} {e : Ending} (h : GetIs l (m : Int) zs n k x) (hm : m ≤ 4096) (hp : GetIntsPost w (NM.getInts l m) e w') : IAns zs n k x w e w' := by
  obtain ⟨rfl, ⟨h1, _⟩ | ⟨_, _, ⟨h2, rfl, rfl, rfl⟩ | ⟨xs, j, h2, rfl, rfl, rfl⟩⟩⟩ := h
  · omega
  · rw [Int.toNat_natCast] at h2
    obtain ⟨hb, ⟨_, rfl⟩ | ⟨xs, j, v, h3, _⟩⟩ := hp
    · exact ⟨none, 0, rfl, Rd.nil, Nat.le_refl _, Nat.zero_le _, hb⟩
    · rw [h2] at h3; cases h3
  · rw [Int.toNat_natCast] at h2
    obtain ⟨hb, ⟨h3, _⟩ | ⟨ys, i, v, h3, rfl, ho⟩⟩ := hp
    · rw [h2] at h3; cases h3
    · rw [h2] at h3
      simp only [Option.some.injEq, Prod.mk.injEq] at h3
      obtain ⟨rfl, rfl⟩ := h3
      obtain ⟨A, c, rfl, hc, hm⟩ := own_slice ho
      have hr := Rd.of_own ho
      rw [intsOf_length]
      exact ⟨A, c, rfl, hr, hc, hm, hb⟩
theorem getInts_ans (A : Option Addr) (n c : Nat) (most : Int) (l : List UInt8) (zs : List Int) (m : Nat) (k x : Int) (w : World) (h : GetIs l most zs m k x) (hr : Rd w A n (bc l)) (hnc : n ≤ c) (hm : c ≤ maxLen) :
    Calls Try.prog 13 #[.slice A n c, .int .i64 most] w (IAns zs m k x w) := by
  by_cases hb : 0 ≤ most ∧ most ≤ 4096
  · obtain ⟨q, rfl⟩ := Int.eq_ofNat_of_zero_le hb.1
    exact (getInts_any A n c q l w hr hnc hm (by omega)).mono fun e w' hp => iAns_of h (by omega) hp
  · refine (getInts_arg A n c most w hb).mono ?_
    rintro e w' ⟨rfl, rfl⟩
    obtain ⟨rfl, ⟨_, rfl, rfl, rfl⟩ | ⟨h1, h2, _⟩⟩ := h
    · exact ⟨none, 0, rfl, Rd.nil, Nat.le_refl _, Nat.zero_le _, Below.refl _ _⟩
    · omega
theorem refGetInts_ans (A : Option Addr) (n c : Nat) (most : Int) (l : List UInt8) (zs : List Int) (m : Nat) (k x : Int) (w : World) (h : GetIs l most zs m k x) (hr : Rd w A n (bc l)) (hnc : n ≤ c) (hm : c ≤ maxLen) :
    Calls Try.prog 21 #[.slice A n c, .int .i64 most] w (IAns zs m k x w) := by
  by_cases hb : 0 ≤ most ∧ most ≤ 4096
  · obtain ⟨q, rfl⟩ := Int.eq_ofNat_of_zero_le hb.1
    exact (refGetInts_any A n c q l w hr hnc hm (by omega)).mono fun e w' hp => iAns_of h (by omega) hp
  · refine (refGetInts_arg A n c most w hb).mono ?_
    rintro e w' ⟨rfl, rfl⟩
    obtain ⟨rfl, ⟨_, rfl, rfl, rfl⟩ | ⟨h1, h2, _⟩⟩ := h
    · exact ⟨none, 0, rfl, Rd.nil, Nat.le_refl _, Nat.zero_le _, Below.refl _ _⟩
    · omega

set_option maxRecDepth 100000 in
set_option maxHeartbeats 2000000 in
theorem numReads_core (B : Option Addr) (n cb : Nat) (l : List UInt8) (most : Int) (w : World) (HR : Hid (Rd w B n (bc l))) (hn : n ≤ 10000) (hnb : n ≤ cb) (HM : Hid (cb ≤ maxLen)) :
    Calls Try.prog 5 #[.slice B n cb, .int .i64 most] w fun e w' => e = .returned (.bool true) ∧ Below w.heap.size w w' := by
  obtain ⟨i0, hi, hz0, hz1, hz2⟩ := info_parts info_u8
  obtain ⟨n1, k1, x1, h1⟩ := getRes_ex (NM.dec l)
  obtain ⟨t2, k2, x2, h2⟩ := textRes_ex (NM.getText l)
  obtain ⟨zs, m3, k3, x3, h3⟩ := getIs_ex l most
  have H1 := Lib.hid h1; clear h1
  have H2 := Lib.hid h2; clear h2
  have H3 := Lib.hid h3; clear h3
  have hr0 := HR.out
  go_enter Try.func5, Try.ntmps5
  go_wp2_with (at_builtin; refine wpList_append_rd _ rfl (.const (.slice none 0 0)) (.tmp 27) 22 rfl w.heap.size 5 i0 (.int .u8 0) 1 Try.underlying22 hi hz0 hz1 hz2 rfl (.slice none 0 0) 0 [] rfl (World.ownsRow_nil _ _ _ _) B n cb (bc l) rfl hr0 (bc_one _) (by unfold maxLen; omega) (by omega) (Nat.le_refl _) ?_; intro v1 w1 hown1 hg1 hob1; simp only [Nat.zero_add, List.nil_append] at hown1; obtain ⟨A1, c1, rfl, hc1, hm1⟩ := own_slice hown1)
  have hB1 := below_of_grown hg1 (by simp [Value.ownBlock])
  have R1 := Rd.of_own hown1
  clear hown1 hg1 hob1 hr0
  have HR1 := Lib.hid R1; clear R1
  have HM1 := Lib.hid hm1; clear hm1
  have hg := get_any A1 n c1 l w1 HR1.out (Nat.le_trans hc1 HM1.out)
  rw [H1.out] at hg
  have HG := Lib.hid hg; clear hg
  refine (HG.out).mono ?_
  rintro e w2 ⟨rfl, rfl⟩
  clear HG
  have hg := refGet_any B n cb l w1 (HR.out.below hB1) (Nat.le_trans hnb HM.out)
  rw [H1.out] at hg
  have HG := Lib.hid hg; clear hg
  go_wp2_with fail
  refine (HG.out).mono ?_
  rintro e w2 ⟨rfl, rfl⟩
  clear HG
  have hg := getText_any A1 n c1 l w1 HR1.out hc1 HM1.out
  rw [H2.out] at hg
  have HG := Lib.hid hg; clear hg
  go_wp2_with fail
  refine (HG.out).mono ?_
  rintro e w2 ⟨rfl, rfl⟩
  clear HG
  have hg := refGetText_any B n cb l w1 (HR.out.below hB1) hnb HM.out
  rw [H2.out] at hg
  have HG := Lib.hid hg; clear hg
  go_wp2_with fail
  refine (HG.out).mono ?_
  rintro e w2 ⟨rfl, rfl⟩
  clear HG
  go_wp2_with fail
  refine (getInts_ans A1 n c1 most l zs m3 k3 x3 _ H3.out HR1.out hc1 HM1.out).mono ?_
  rintro e w2 ⟨A2, c2, rfl, hr2, hc2, hm2, hb2⟩
  have hB2 := bmore hB1 hb2 (Nat.le_refl _)
  go_wp2_with fail
  refine (refGetInts_ans B n cb most l zs m3 k3 x3 _ H3.out (HR.out.below hB2) hnb HM.out).mono ?_
  rintro e w3 ⟨A3, c3, rfl, hr3, hc3, hm3, hb3⟩
  have hB3 := bmore hB2 hb3 (Nat.le_refl _)
  have S2 := hr2.below hb3
  have S1 := (HR1.out.below hb2).below hb3
  have hmm : m3 ≤ 9223372036854775807 := by have := Nat.le_trans hc3 hm3; unfold maxLen at this; omega
  clear hr2 hB1 hB2 hb2 hb3 HR1 HM1 hm2 hm3 hc2 hc3
  have HS1 := Lib.hid S1; clear S1
  have HS2 := Lib.hid S2; clear S2
  have HS3 := Lib.hid hr3; clear hr3
  go_wp2_with fail
  refine (same_ints A2 A3 m3 c2 c3 zs _ HS2.out HS3.out hmm).mono ?_
  rintro e w4 ⟨rfl, q, rfl⟩
  have X1 := run_string_of (P := Try.prog) (w3.drewN q) 22 9 5 A1 n c1 l Try.underlying22 Try.underlying5 Try.underlying9 (HS1.out.drewN q)
  have X2 := run_string_of (P := Try.prog) (w3.drewN q) 22 9 5 B n cb l Try.underlying22 Try.underlying5 Try.underlying9 ((HR.out.below hB3).drewN q)
  go_wp2
  go_ret
  exact ⟨by simp, below_drewN hB3 q⟩

set_option maxRecDepth 100000 in
theorem numReads_walk (a0 : Option Addr) (len0 cap0 : Nat) (z0 : List Int) (a1 : Int) (w : World) (w0 : IsRow .u8 w a0 len0 cap0 z0) (w1 : (Lit.int .i64 a1).wf = true) :
    Calls Try.prog 5 #[.slice a0 len0 cap0, .int .i64 a1] w fun e w' => e = .returned (.bool true) ∧ Below w.heap.size w w' := by
  obtain ⟨hl, hm, _⟩ := w0.len_le
  by_cases hb : len0 ≤ 10000
  · exact numReads_core a0 len0 cap0 _ a1 w (Lib.hid w0.bytes) hb hl (Lib.hid hm)
  · have hc : len0 ≤ 9223372036854775807 := by unfold maxLen at hm; omega
    clear w0 w1 hm
    go_enter Try.func5, Try.ntmps5
    go_wp2
    go_ret
    exact ⟨rfl, Below.refl _ _⟩
end Go.Proofs.Ytffikjepeoeimaa
