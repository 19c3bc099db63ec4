/-
  The example that the statements of layer 2 begin with holds: the frames of two texts.
-/
import Derived.Test.YtpabkhcoaiggnaaFrameF
import Derived.Test.YtpabkhcoaiggnaaFrameT
import Derived.Lib.SlBytesConst
namespace Go.Proofs.Ytpabkhcoaiggnaa
open Go.RowKit
set_option linter.unusedVariables false

theorem join_lit (ls : List (List UInt8)) (xs : List Value) (r : List UInt8) (n k b : Nat) (w : World) (hb : b = w.heap.size) (hx : sc ls = xs) (hn : ls.length = n) (hok : JoinIs ls r k 0) (hs : ∀ t ∈ ls, t.length ≤ 9223372036854775807) (h9 : n ≤ 4096) :
    Calls Try.prog 8 #[.slice (some ⟨b, 0, none⟩) n n] (w.alloc (.cells xs.toArray 9)) (Ans r k 0 (w.alloc (.cells xs.toArray 9))) := by
  subst hb
  subst hx
  subst hn
  have hrd := rd_row w (sc ls) 9
  rw [sc_length] at hrd
  exact join_ans _ _ _ ls r k 0 _ hok hrd hs (by unfold maxLen; omega)
theorem cut_lit (l : List UInt8) (xs : List Value) (ts : List (List UInt8)) (n m k b : Nat) (w : World) (hb : b = w.heap.size) (hx : bc l = xs) (hn : l.length = n) (hok : CutIs l ts m k) (h9 : n ≤ 4096) :
    Calls Try.prog 6 #[.slice (some ⟨b, 0, none⟩) n n] (w.alloc (.cells xs.toArray 5)) (AnsT ts m k (w.alloc (.cells xs.toArray 5))) := by
  subst hb
  subst hx
  subst hn
  have hrd := rd_row w (bc l) 5
  rw [bc_length] at hrd
  exact cut_ans _ _ _ l ts m k _ hok hrd (Nat.le_refl _) (by unfold maxLen; omega) (by omega)
theorem rd_mark (w : World) (xs : List Value) (t : TypeId) (fr : Nat × Nat) : Rd (w.alloc (.cells xs.toArray t fr)) (some ⟨w.heap.size, 0, none⟩) xs.length xs := by
  refine ⟨rfl, fun _ => ⟨_, rfl, by simp, fun j u hu => ?_⟩⟩
  have h := World.cell?_alloc_mark w xs.toArray t fr j
  have e : (⟨w.heap.size, 0, none⟩ : Addr).add j = ⟨w.heap.size, j, none⟩ := by unfold Addr.add; by_cases hj : j = 0 <;> simp [hj]
  rw [e]
  rw [h]; simpa using hu
theorem cut_const (l : List UInt8) (xs : List Value) (ts : List (List UInt8)) (n m k b : Nat) (w : World) (fr : Nat × Nat) (hb : b = w.heap.size) (hx : bc l = xs) (hn : l.length = n) (hok : CutIs l ts m k) (h9 : n ≤ 4096) :
    Calls Try.prog 6 #[.slice (some ⟨b, 0, none⟩) n n] (w.alloc (.cells xs.toArray 5 fr)) (AnsT ts m k (w.alloc (.cells xs.toArray 5 fr))) := by
  subst hb
  subst hx
  subst hn
  have hrd := rd_mark w (bc l) 5 fr
  rw [bc_length] at hrd
  exact cut_ans _ _ _ l ts m k _ hok hrd (Nat.le_refl _) (by unfold maxLen; omega) (by omega)
theorem joinIs_two : JoinIs [[97, 98], []] [2, 97, 98, 0] 4 0 := ⟨rfl, .inl ⟨by decide, ⟨by decide, by decide⟩, by decide, rfl⟩⟩
theorem frameAlive_any (w : World) : Calls Try.prog 9 #[] w fun e w' => e = .returned (.bool true) ∧ Below w.heap.size w w' := by
  have HP := Lib.hid (join_lit [[97, 98], []] [.string ⟨#[97, 98]⟩, .string ⟨#[]⟩] [2, 97, 98, 0] 2 4 w.heap.size w rfl rfl rfl joinIs_two (by decide) (by omega))
  go_enter Try.func9, Try.ntmps9
  go_wp2_with fail
  refine (HP.out).mono ?_
  rintro e w1 ⟨A1, c1, rfl, hr1, hc1, hm1, hb1⟩
  have hb2 := bmore ((Below.refl _ w).alloc (Nat.le_refl _) _) hb1 (Nat.le_refl _)
  have hs1 := str_ans hr1 c1
  clear HP hb1 hr1
  go_wp2
  go_ret
  exact ⟨rfl, hb2⟩
end Go.Proofs.Ytpabkhcoaiggnaa
