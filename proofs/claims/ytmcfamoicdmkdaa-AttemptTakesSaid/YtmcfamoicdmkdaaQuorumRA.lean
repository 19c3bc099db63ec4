/-
  The document's own Check of members (towncrierref06). Conditions: the slices read as ints.
-/
import Derived.Test.YtmcfamoicdmkdaaQuorumRM
namespace Go.Proofs.Ytmcfamoicdmkdaa
open Go.RowKit
set_option linter.unusedVariables false

/-- one number, some draws -/
def NumPost (y : Int) (w : World) (e : Ending) (w' : World) : Prop := e = .returned (.int .i64 y) ∧ ∃ q, w' = w.drewN q

theorem rqCheck_any (A : Option Addr) (n c : Nat) (zs : List Int) (y : Int) (w : World) (hr : Rd w A n (ic zs)) (hm : n ≤ 9223372036854775807) (hy : QM.ChkIs zs y) :
    Calls Try.prog 52 #[.slice A n c] w (NumPost y w) := by
  have hl : zs.length = n := by have := hr.1; rwa [ic_length] at this
  have h := rMay_any A n c zs w hr hm
  rcases hy with ⟨h6, rfl⟩ | ⟨h6, hf, rfl⟩ | ⟨ht, rfl⟩
  · rw [hl] at h6
    clear h hl
    go_enter Try.func52, Try.ntmps52
    go_wp2
    go_ret
    exact ⟨rfl, 0, rfl⟩
  · rw [hl] at h6
    rw [hf] at h
    have H := Lib.hid h
    clear h hl hf
    go_enter Try.func52, Try.ntmps52
    go_wp2_with fail
    refine H.out.mono ?_
    rintro e w1 ⟨rfl, q, rfl⟩
    go_wp2
    go_ret
    exact ⟨rfl, q, rfl⟩
  · obtain ⟨_, h2, _⟩ := QM.may_len ht
    rw [hl] at h2
    rw [ht] at h
    have H := Lib.hid h
    clear h hl ht
    go_enter Try.func52, Try.ntmps52
    go_wp2_with fail
    refine H.out.mono ?_
    rintro e w1 ⟨rfl, q, rfl⟩
    go_wp2
    go_ret
    exact ⟨rfl, q, rfl⟩
end Go.Proofs.Ytmcfamoicdmkdaa
