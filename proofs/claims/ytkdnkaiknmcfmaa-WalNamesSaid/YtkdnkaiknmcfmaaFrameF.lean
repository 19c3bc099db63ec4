/-
  What the functions of package frame answer, in one form each. Conditions: as each theorem says.
-/
import Derived.Test.YtkdnkaiknmcfmaaFrameJ
import Derived.Test.YtkdnkaiknmcfmaaAns
namespace Go.Proofs.Ytkdnkaiknmcfmaa
open Go.RowKit
set_option linter.unusedVariables false

theorem frame_ans (l r : List UInt8) (k : Nat) (x : Int) (w : World) (h : TextIs l r k x) (hl : l.length ≤ 9223372036854775807) : Calls Try.prog 40 #[.string ⟨l.toArray⟩] w (Ans r k x w) := by
  refine (frame_all l w hl).mono ?_
  rintro e w' ⟨v, y, rfl, hf, hb⟩
  exact ans_text h hf hb

/-- what joining texts comes to -/
def JoinIs (ls : List (List UInt8)) (r : List UInt8) (k : Nat) (x : Int) : Prop :=
  r.length = k ∧ ((ls.length ≤ 65536 ∧ joinOk ls ∧ r = NM.join ls ∧ x = 0) ∨ (ls.length ≤ 65536 ∧ ¬ joinOk ls ∧ r = [] ∧ x = 3) ∨ (65536 < ls.length ∧ r = [] ∧ x = 4))
theorem joinIs_ex (ls : List (List UInt8)) : ∃ r k x, JoinIs ls r k x := by
  by_cases h : ls.length ≤ 65536
  · by_cases ho : joinOk ls
    · exact ⟨_, _, _, rfl, .inl ⟨h, ho, rfl, rfl⟩⟩
    · exact ⟨_, _, _, rfl, .inr (.inl ⟨h, ho, rfl, rfl⟩)⟩
  · exact ⟨_, _, _, rfl, .inr (.inr ⟨by omega, rfl, rfl⟩)⟩
theorem ans_join {ls : List (List UInt8)} {r : List UInt8} {k : Nat} {x : Int} {w w' : World} {e : Ending} (h : JoinIs ls r k x) (hp : JoinPost w ls e w') : Ans r k x w e w' := by
  obtain ⟨hb, hp⟩ := hp
  obtain ⟨rfl, ⟨h1, h2, rfl, rfl⟩ | ⟨h1, h2, rfl, rfl⟩ | ⟨h1, rfl, rfl⟩⟩ := h
  · rcases hp with ⟨h3, _⟩ | ⟨_, _, v, rfl, ho⟩ | ⟨_, h3, _⟩
    · omega
    · exact ans_of_own ho hb 0
    · exact absurd h2 h3
  · rcases hp with ⟨h3, _⟩ | ⟨_, h3, _⟩ | ⟨_, _, rfl⟩
    · omega
    · exact absurd h3 h2
    · exact ans_nil hb 3
  · rcases hp with ⟨_, rfl⟩ | ⟨h3, _⟩ | ⟨h3, _⟩
    · exact ans_nil hb 4
    · omega
    · omega
theorem join_ans (A : Option Addr) (n c : Nat) (ls : List (List UInt8)) (r : List UInt8) (k : Nat) (x : Int) (w : World) (h : JoinIs ls r k x) (hr : Rd w A n (sc ls)) (hs : ∀ t ∈ ls, t.length ≤ 9223372036854775807) (hm : n ≤ maxLen) :
    Calls Try.prog 31 #[.slice A n c] w (Ans r k x w) :=
  (join_any A n c ls w hr hs hm).mono fun _ _ hp => ans_join h hp

/-- an answer: a slice of the texts ts, a number, and no error -/
def AnsT (ts : List (List UInt8)) (m k : Nat) (w : World) (e : Ending) (w' : World) : Prop :=
  ∃ A c, e = .returned (.tuple #[.slice A m c, .int .i64 (k : Int), .int .i64 0]) ∧ Rd w' A m (sc ts) ∧ m ≤ c ∧ c ≤ maxLen ∧ Below w.heap.size w w'
def CutIs (l : List UInt8) (ts : List (List UInt8)) (m k : Nat) : Prop := ts.length = m ∧ NM.cut l = (ts, k)
theorem cutIs_ex (l : List UInt8) : ∃ ts m k, CutIs l ts m k := ⟨_, _, _, rfl, rfl⟩
theorem ans_cut {l : List UInt8} {ts : List (List UInt8)} {m k : Nat} {w w' : World} {e : Ending} (h : CutIs l ts m k) (hp : CutPost w l e w') : AnsT ts m k w e w' := by
  obtain ⟨rfl, h⟩ := h
  obtain ⟨hb, v, rfl, ho⟩ := hp
  rw [h] at ho
  obtain ⟨A, c, rfl, h1, h2⟩ := own_slice ho
  exact ⟨A, c, by rw [h], Rd.of_own ho, h1, h2, hb⟩
theorem cut_ans (A : Option Addr) (n c : Nat) (l : List UInt8) (ts : List (List UInt8)) (m k : Nat) (w : World) (h : CutIs l ts m k) (hr : Rd w A n (bc l)) (hnc : n ≤ c) (hm : c ≤ maxLen) (hn : n ≤ 1048576) :
    Calls Try.prog 39 #[.slice A n c] w (AnsT ts m k w) :=
  (cut_any A n c l w hr hnc hm hn).mono fun _ _ hp => ans_cut h hp
end Go.Proofs.Ytkdnkaiknmcfmaa
