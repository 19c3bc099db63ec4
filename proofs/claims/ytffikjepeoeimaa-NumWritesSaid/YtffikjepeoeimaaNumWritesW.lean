/-
  The walk of NumWrites: numbers, texts and lists are written as the document's own functions write them.
-/
import Derived.Test.YtffikjepeoeimaaNumRI
namespace Go.Proofs.Ytffikjepeoeimaa
open Go.RowKit
set_option linter.unusedVariables false

/-- an answer: a slice of the bytes r, and an error x -/
def Ans (r : List UInt8) (k : Nat) (x : Int) (w : World) (e : Ending) (w' : World) : Prop :=
  ∃ A c, e = .returned (.tuple #[.slice A k c, .int .i64 x]) ∧ Rd w' A k (bc r) ∧ k ≤ c ∧ c ≤ maxLen ∧ Below w.heap.size w w'
/-- what writing a number, a text, a list comes to -/
def PutIs (n : Int) (r : List UInt8) (k : Nat) (x : Int) : Prop := r.length = k ∧ ((0 ≤ n ∧ n ≤ 1099511627776 ∧ r = NM.enc n.toNat ∧ x = 0) ∨ (¬ (0 ≤ n ∧ n ≤ 1099511627776) ∧ r = [] ∧ x = 2))
def TextIs (l r : List UInt8) (k : Nat) (x : Int) : Prop := r.length = k ∧ ((l.length ≤ 4096 ∧ r = NM.text l ∧ x = 0) ∨ (4096 < l.length ∧ r = [] ∧ x = 3))
def IntsIs (zs : List Int) (r : List UInt8) (k : Nat) (x : Int) : Prop := r.length = k ∧ ((zs.length ≤ 4096 ∧ okAll zs ∧ r = NM.ints (nats zs) ∧ x = 0) ∨ (zs.length ≤ 4096 ∧ ¬ okAll zs ∧ r = [] ∧ x = 2) ∨ (4096 < zs.length ∧ r = [] ∧ x = 4))

theorem putIs_ex (n : Int) : ∃ r k x, PutIs n r k x := by
  by_cases h : 0 ≤ n ∧ n ≤ 1099511627776
  · exact ⟨_, _, _, rfl, .inl ⟨h.1, h.2, rfl, rfl⟩⟩
  · exact ⟨_, _, _, rfl, .inr ⟨h, rfl, rfl⟩⟩
theorem textIs_ex (l : List UInt8) : ∃ r k x, TextIs l r k x := by
  by_cases h : l.length ≤ 4096
  · exact ⟨_, _, _, rfl, .inl ⟨h, rfl, rfl⟩⟩
  · exact ⟨_, _, _, rfl, .inr ⟨by omega, rfl, rfl⟩⟩
theorem intsIs_ex (zs : List Int) : ∃ r k x, IntsIs zs r k x := by
  by_cases h : zs.length ≤ 4096
  · by_cases ho : okAll zs
    · exact ⟨_, _, _, rfl, .inl ⟨h, ho, rfl, rfl⟩⟩
    · exact ⟨_, _, _, rfl, .inr (.inl ⟨h, ho, rfl, rfl⟩)⟩
  · exact ⟨_, _, _, rfl, .inr (.inr ⟨by omega, rfl, rfl⟩)⟩

theorem ans_of_own {r : List UInt8} {w w' : World} {v : Value} (ho : w'.ownsRow w.heap.size 5 1 v r.length (bc r)) (hb : Below w.heap.size w w') (x : Int) : Ans r r.length x w (.returned (.tuple #[v, .int .i64 x])) w' := by
  obtain ⟨A, c, rfl, h1, h2⟩ := own_slice ho
  exact ⟨A, c, rfl, Rd.of_own ho, h1, h2, hb⟩
theorem ans_nil {w w' : World} (hb : Below w.heap.size w w') (x : Int) : Ans [] 0 x w (.returned (.tuple #[.slice none 0 0, .int .i64 x])) w' :=
  ⟨none, 0, rfl, Rd.nil, Nat.le_refl _, Nat.zero_le _, hb⟩

theorem put_ans (n : Int) (r : List UInt8) (k : Nat) (x : Int) (w : World) (h : PutIs n r k x) : Calls Try.prog 9 #[.int .i64 n] w (Ans r k x w) := by
  obtain ⟨rfl, ⟨h1, h2, rfl, rfl⟩ | ⟨h, rfl, rfl⟩⟩ := h
  · obtain ⟨m, rfl⟩ := Int.eq_ofNat_of_zero_le h1
    refine (put_ok m w (by omega)).mono ?_
    rintro e w' ⟨v, rfl, ho, hb⟩
    exact ans_of_own ho hb 0
  · refine (put_no n w h).mono ?_
    rintro e w' ⟨rfl, rfl⟩
    exact ans_nil (Below.refl _ _) 2
theorem refPut_ans (n : Int) (r : List UInt8) (k : Nat) (x : Int) (w : World) (h : PutIs n r k x) : Calls Try.prog 15 #[.int .i64 n] w (Ans r k x w) := by
  obtain ⟨rfl, ⟨h1, h2, rfl, rfl⟩ | ⟨h, rfl, rfl⟩⟩ := h
  · obtain ⟨m, rfl⟩ := Int.eq_ofNat_of_zero_le h1
    refine (refPut_ok m w (by omega)).mono ?_
    rintro e w' ⟨v, rfl, ho, hb⟩
    exact ans_of_own ho hb 0
  · refine (refPut_no n w h).mono ?_
    rintro e w' ⟨rfl, rfl⟩
    exact ans_nil (Below.refl _ _) 2
theorem ans_text {l r : List UInt8} {k : Nat} {x : Int} {w w' : World} {v : Value} {y : Int} (h : TextIs l r k x) (hf : TextFact w' l v y) (hb : Below w.heap.size w w') : Ans r k x w (.returned (.tuple #[v, .int .i64 y])) w' := by
  obtain ⟨rfl, ⟨h1, rfl, rfl⟩ | ⟨h1, rfl, rfl⟩⟩ := h
  · rcases hf with ⟨_, rfl, A, c, rfl, hr, hc, hm⟩ | ⟨h2, _⟩
    · exact ⟨A, c, rfl, hr, hc, hm, hb⟩
    · omega
  · rcases hf with ⟨h2, _⟩ | ⟨_, rfl, rfl⟩
    · omega
    · exact ans_nil hb 3
theorem ans_ints {zs : List Int} {r : List UInt8} {k : Nat} {x : Int} {w w' : World} {v : Value} {y : Int} (h : IntsIs zs r k x) (hf : IntsFact w' zs v y) (hb : Below w.heap.size w w') : Ans r k x w (.returned (.tuple #[v, .int .i64 y])) w' := by
  obtain ⟨rfl, ⟨h1, h2, rfl, rfl⟩ | ⟨h1, h2, rfl, rfl⟩ | ⟨h1, rfl, rfl⟩⟩ := h
  · rcases hf with ⟨_, _, rfl, A, c, rfl, hr, hc, hm⟩ | ⟨_, h3, _⟩ | ⟨h3, _⟩
    · exact ⟨A, c, rfl, hr, hc, hm, hb⟩
    · exact absurd h2 h3
    · omega
  · rcases hf with ⟨_, h3, _⟩ | ⟨_, _, rfl, rfl⟩ | ⟨h3, _⟩
    · exact absurd h3 h2
    · exact ans_nil hb 2
    · omega
  · rcases hf with ⟨h3, _⟩ | ⟨h3, _⟩ | ⟨_, rfl, rfl⟩
    · omega
    · omega
    · exact ans_nil hb 4
theorem text_ans (l r : List UInt8) (k : Nat) (x : Int) (w : World) (h : TextIs l r k x) (hl : l.length ≤ 9223372036854775807) : Calls Try.prog 11 #[.string ⟨l.toArray⟩] w (Ans r k x w) := by
  refine (text_all l w hl).mono ?_
  rintro e w' ⟨v, y, rfl, hf, hb⟩
  exact ans_text h hf hb
theorem refText_ans (l r : List UInt8) (k : Nat) (x : Int) (w : World) (h : TextIs l r k x) (hl : l.length ≤ 9223372036854775807) : Calls Try.prog 16 #[.string ⟨l.toArray⟩] w (Ans r k x w) := by
  refine (refText_all l w hl).mono ?_
  rintro e w' ⟨v, y, rfl, hf, hb⟩
  exact ans_text h hf hb
theorem ints_ans (A : Option Addr) (n c : Nat) (zs : List Int) (r : List UInt8) (k : Nat) (x : Int) (w : World) (h : IntsIs zs r k x) (hr : Rd w A n (ic zs)) (hm : n ≤ maxLen) : Calls Try.prog 12 #[.slice A n c] w (Ans r k x w) := by
  refine (ints_all A n c zs w hr hm).mono ?_
  rintro e w' ⟨v, y, rfl, hf, hb⟩
  exact ans_ints h hf hb
theorem refInts_ans (A : Option Addr) (n c : Nat) (zs : List Int) (r : List UInt8) (k : Nat) (x : Int) (w : World) (h : IntsIs zs r k x) (hr : Rd w A n (ic zs)) (hm : n ≤ maxLen) : Calls Try.prog 17 #[.slice A n c] w (Ans r k x w) := by
  refine (refInts_all A n c zs w hr hm).mono ?_
  rintro e w' ⟨v, y, rfl, hf, hb⟩
  exact ans_ints h hf hb
theorem str_ans {w : World} {A : Option Addr} {n : Nat} {l : List UInt8} (h : Rd w A n (bc l)) (cap : Nat) : (convert 22 9 (.slice A n cap)).run Try.prog w = .ok (.string ⟨l.toArray⟩) w :=
  run_string_of _ _ _ 5 _ _ cap _ Try.underlying22 Try.underlying5 Try.underlying9 h

set_option maxRecDepth 100000 in
set_option maxHeartbeats 2000000 in
theorem numWrites_core (a : Int) (l : List UInt8) (A : Option Addr) (n ca : Nat) (zs : List Int) (w : World) (hl : l.length ≤ 5000) (hn : n ≤ 5000) (HR : Hid (Rd w A n (ic zs))) :
    Calls Try.prog 4 #[.int .i64 a, .string ⟨l.toArray⟩, .slice A n ca] w fun e w' => e = .returned (.bool true) ∧ Below w.heap.size w w' := by
  obtain ⟨r1, k1, x1, h1⟩ := putIs_ex a
  obtain ⟨r2, k2, x2, h2⟩ := textIs_ex l
  obtain ⟨r3, k3, x3, h3⟩ := intsIs_ex zs
  have H1 := Lib.hid h1; clear h1
  have H2 := Lib.hid h2; clear h2
  have H3 := Lib.hid h3; clear h3
  have hm : n ≤ maxLen := by unfold maxLen; omega
  have HM := Lib.hid hm; clear hm
  go_enter Try.func4, Try.ntmps4
  go_wp2_with fail
  refine (put_ans a r1 k1 x1 _ H1.out).mono ?_
  rintro e w1 ⟨A1, c1, rfl, hr1, _, _, hb1⟩
  go_wp2_with fail
  refine (refPut_ans a r1 k1 x1 _ H1.out).mono ?_
  rintro e w2 ⟨A2, c2, rfl, hr2, _, _, hb2⟩
  have R1 := hr1.below hb2
  have hB := bmore hb1 hb2 (Nat.le_refl _)
  clear hr1 hb1 hb2
  go_wp2_with fail
  refine (text_ans l r2 k2 x2 _ H2.out (by omega)).mono ?_
  rintro e w3 ⟨A3, c3, rfl, hr3, _, _, hb3⟩
  have R1' := R1.below hb3
  have R2 := hr2.below hb3
  have hB3 := bmore hB hb3 (Nat.le_refl _)
  clear R1 hr2 hB hb3
  go_wp2_with fail
  refine (refText_ans l r2 k2 x2 _ H2.out (by omega)).mono ?_
  rintro e w4 ⟨A4, c4, rfl, hr4, _, _, hb4⟩
  have S1 := R1'.below hb4
  have S2 := R2.below hb4
  have S3 := hr3.below hb4
  have hB4 := bmore hB3 hb4 (Nat.le_refl _)
  clear R1' R2 hr3 hB3 hb4
  go_wp2_with fail
  refine (ints_ans A n ca zs r3 k3 x3 _ H3.out (HR.out.below hB4) HM.out).mono ?_
  rintro e w5 ⟨A5, c5, rfl, hr5, _, _, hb5⟩
  have T1 := S1.below hb5
  have T2 := S2.below hb5
  have T3 := S3.below hb5
  have T4 := hr4.below hb5
  have hB5 := bmore hB4 hb5 (Nat.le_refl _)
  clear S1 S2 S3 hr4 hB4 hb5
  go_wp2_with fail
  refine (refInts_ans A n ca zs r3 k3 x3 _ H3.out (HR.out.below hB5) HM.out).mono ?_
  rintro e w6 ⟨A6, c6, rfl, hr6, _, _, hb6⟩
  have X1 := str_ans (T1.below hb6) c1
  have X2 := str_ans (T2.below hb6) c2
  have X3 := str_ans (T3.below hb6) c3
  have X4 := str_ans (T4.below hb6) c4
  have X5 := str_ans (hr5.below hb6) c5
  have X6 := str_ans hr6 c6
  have hB6 := bmore hB5 hb6 (Nat.le_refl _)
  clear T1 T2 T3 T4 hr5 hr6 hB5 hb6
  go_wp2
  go_ret
  exact ⟨by simp, hB6⟩

set_option maxRecDepth 100000 in
theorem numWrites_walk (a0 : Int) (a1 : ByteArray) (a2 : Option Addr) (len2 cap2 : Nat) (z2 : List Int) (w : World) (w0 : (Lit.int .i64 a0).wf = true) (w1 : a1.size ≤ maxLen) (w2 : IsRow .i64 w a2 len2 cap2 z2) :
    Calls Try.prog 4 #[.int .i64 a0, .string a1, .slice a2 len2 cap2] w fun e w' => e = .returned (.bool true) ∧ Below w.heap.size w w' := by
  obtain ⟨hl2, hm2, _⟩ := w2.len_le
  have hc2 : cap2 ≤ 9223372036854775807 := by unfold maxLen at hm2; omega
  have hc1 : a1.size ≤ 9223372036854775807 := by unfold maxLen at w1; omega
  by_cases hb : a1.size ≤ 5000 ∧ len2 ≤ 5000
  · have e : a1 = ⟨a1.data.toList.toArray⟩ := by cases a1; simp
    rw [e]
    exact numWrites_core a0 a1.data.toList a2 len2 cap2 _ w (by rw [text_len]; exact hb.1) hb.2 (Lib.hid w2.ints)
  · clear w2 w1 w0 hm2
    rcases (show 5000 < a1.size ∨ (a1.size ≤ 5000 ∧ 5000 < len2) by omega) with h | ⟨h, h'⟩
    all_goals
      clear hb
      go_enter Try.func4, Try.ntmps4
      go_wp2
      go_ret
      exact ⟨rfl, Below.refl _ _⟩
end Go.Proofs.Ytffikjepeoeimaa
