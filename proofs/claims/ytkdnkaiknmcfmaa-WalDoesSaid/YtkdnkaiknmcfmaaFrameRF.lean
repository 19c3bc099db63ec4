/-
  What the document's own Frame and Join (towncrierref02) answer, in one form each. Conditions: as each theorem says.
-/
import Derived.Test.YtkdnkaiknmcfmaaFrameF
import Derived.Test.YtkdnkaiknmcfmaaFrameR
namespace Go.Proofs.Ytkdnkaiknmcfmaa
open Go.RowKit
set_option linter.unusedVariables false

theorem refFrame_ans (l r : List UInt8) (k : Nat) (x : Int) (w : World) (h : TextIs l r k x) (hl : l.length ≤ 9223372036854775807) : Calls Try.prog 35 #[.string ⟨l.toArray⟩] w (Ans r k x w) := by
  refine (refFrame_all l w hl).mono ?_
  rintro e w' ⟨v, y, rfl, hf, hb⟩
  exact ans_text h hf hb
theorem refJoin_ans (A : Option Addr) (n c : Nat) (ls : List (List UInt8)) (r : List UInt8) (k : Nat) (x : Int) (w : World) (h : JoinIs ls r k x) (hr : Rd w A n (sc ls)) (hs : ∀ t ∈ ls, t.length ≤ 9223372036854775807) (hm : n ≤ maxLen) :
    Calls Try.prog 37 #[.slice A n c] w (Ans r k x w) :=
  (refJoin_any A n c ls w hr hs hm).mono fun _ _ hp => ans_join h hp
end Go.Proofs.Ytkdnkaiknmcfmaa
