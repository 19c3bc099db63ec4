/-
  The example that the statements of layer 6 begin with holds: two majorities. Beside it: calls at lists that were just laid.
-/
import Derived.Test.YtodldnnonhlhgaaQuorumB
import Derived.Test.YtodldnnonhlhgaaMemT
namespace Go.Proofs.Ytodldnnonhlhgaa
open Go.RowKit
set_option linter.unusedVariables false

theorem below_one (w : World) (o : Obj) : Below w.heap.size w (w.alloc o) := (Below.refl _ _).alloc (Nat.le_refl _) _
theorem below_two (w : World) (o o' : Obj) : Below w.heap.size w ((w.alloc o).alloc o') := (below_one w o).alloc (by simp) _
theorem need_lit (zs : List Int) (xs : List Value) (n b : Nat) (x y : Int) (w : World) (hb : b = w.heap.size) (hx : ic zs = xs) (hn : zs.length = n) (h : QM.NeedIs zs x y) (h9 : n ≤ 4096) :
    Calls Try.prog 7 #[.slice (some ⟨b, 0, none⟩) n n] (w.alloc (.cells xs.toArray 3)) fun e w' => e = .returned (.tuple #[.int .i64 x, .int .i64 y]) ∧ Below w.heap.size w w' := by
  subst hb
  subst hx
  subst hn
  have hrd := rd_row w (ic zs) 3
  rw [ic_length] at hrd
  exact (need_any _ _ _ zs x y _ hrd (by omega) h).mono fun _ _ ⟨a, b⟩ => ⟨a, b ▸ below_one w _⟩
theorem check_lit (zs : List Int) (xs : List Value) (n b : Nat) (y : Int) (w : World) (hb : b = w.heap.size) (hx : ic zs = xs) (hn : zs.length = n) (h : QM.ChkIs zs y) (h9 : n ≤ 4096) :
    Calls Try.prog 8 #[.slice (some ⟨b, 0, none⟩) n n] (w.alloc (.cells xs.toArray 3)) fun e w' => e = .returned (.int .i64 y) ∧ Below w.heap.size w w' := by
  subst hb
  subst hx
  subst hn
  have hrd := rd_row w (ic zs) 3
  rw [ic_length] at hrd
  exact (check_any _ _ _ zs y _ hrd (by omega) h).mono fun _ _ ⟨a, b⟩ => ⟨a, b ▸ below_one w _⟩
theorem most_lit (zs ys : List Int) (xs vs : List Value) (n m b1 b2 : Nat) (b : Bool) (y : Int) (w : World) (hb : b1 = w.heap.size) (hb2 : b2 = w.heap.size + 1) (hx : ic zs = xs) (hn : zs.length = n) (hv : ic ys = vs) (hm : ys.length = m) (h : QM.MostIs zs ys b y) (h9 : n ≤ 4096) (hm9 : m ≤ 4096) :
    Calls Try.prog 12 #[.slice (some ⟨b1, 0, none⟩) n n, .slice (some ⟨b2, 0, none⟩) m m] ((w.alloc (.cells xs.toArray 3)).alloc (.cells vs.toArray 3)) fun e w' => e = .returned (.tuple #[.bool b, .int .i64 y]) ∧ Below w.heap.size w w' := by
  subst hb
  subst hb2
  subst hx
  subst hn
  subst hv
  subst hm
  have hrd := rd_row w (ic zs) 3
  have hrd2 := rd_row (w.alloc (.cells (ic zs).toArray 3)) (ic ys) 3
  rw [ic_length] at hrd hrd2
  rw [show (w.alloc (.cells (ic zs).toArray 3)).heap.size = w.heap.size + 1 by simp] at hrd2
  exact (most_any _ _ _ zs _ _ _ ys b y _ (hrd.alloc _) (by omega) hrd2 (by omega) h).mono fun _ _ ⟨a, b⟩ => ⟨a, b ▸ below_two w _ _⟩
theorem group_lit (zs ys : List Int) (xs vs : List Value) (n m b1 b2 : Nat) (y : Int) (w : World) (hb : b1 = w.heap.size) (hb2 : b2 = w.heap.size + 1) (hx : ic zs = xs) (hn : zs.length = n) (hv : ic ys = vs) (hm : ys.length = m) (h : QM.GrpIs zs ys y) (h9 : n ≤ 4096) (hm9 : m ≤ 4096) :
    Calls Try.prog 9 #[.agg #[.slice (some ⟨b1, 0, none⟩) n n, .slice (some ⟨b2, 0, none⟩) m m]] ((w.alloc (.cells xs.toArray 3)).alloc (.cells vs.toArray 3)) fun e w' => e = .returned (.int .i64 y) ∧ Below w.heap.size w w' := by
  subst hb
  subst hb2
  subst hx
  subst hn
  subst hv
  subst hm
  have hrd := rd_row w (ic zs) 3
  have hrd2 := rd_row (w.alloc (.cells (ic zs).toArray 3)) (ic ys) 3
  rw [ic_length] at hrd hrd2
  rw [show (w.alloc (.cells (ic zs).toArray 3)).heap.size = w.heap.size + 1 by simp] at hrd2
  exact (checkGroup_any _ _ _ zs _ _ _ ys y _ (hrd.alloc _) (by omega) hrd2 (by omega) h).mono fun _ _ ⟨a, b⟩ => ⟨a, bmore (below_two w _ _) b (by simp)⟩

theorem chkIs_025 : QM.ChkIs [0, 2, 5] 0 := .inr (.inr ⟨by decide, rfl⟩)
theorem needIs_025 : QM.NeedIs [0, 2, 5] 2 0 := ⟨chkIs_025, .inl ⟨rfl, by decide⟩⟩
theorem mostIs_yes : QM.MostIs [0, 2, 5] [5, 5, 0] true 0 := .inr (.inr ⟨chkIs_025, by decide, by decide, rfl⟩)
theorem mostIs_no : QM.MostIs [0, 2, 5] [5, 5, 1] false 0 := .inr (.inr ⟨chkIs_025, by decide, by decide, rfl⟩)

set_option maxRecDepth 100000 in
set_option maxHeartbeats 1000000 in
theorem alive_any (w : World) : Calls Try.prog 10 #[] w fun e w' => e = .returned (.bool true) ∧ Below w.heap.size w w' := by
  have h1 := need_lit [0, 2, 5] [.int .i64 0, .int .i64 2, .int .i64 5] 3 w.heap.size 2 0 w rfl rfl rfl needIs_025 (by omega)
  have H1 := Lib.hid h1; clear h1
  go_enter Try.func10, Try.ntmps10
  go_wp2_with fail
  refine (H1.out).mono ?_
  rintro e w1 ⟨rfl, hb1⟩
  clear H1
  have B1 := Lib.hid hb1; clear hb1
  have h2 := most_lit [0, 2, 5] [5, 5, 0] [.int .i64 0, .int .i64 2, .int .i64 5] [.int .i64 5, .int .i64 5, .int .i64 0] 3 3 w1.heap.size (w1.heap.size + 1) true 0 w1 rfl rfl rfl rfl rfl rfl mostIs_yes (by omega) (by omega)
  have H2 := Lib.hid h2; clear h2
  go_wp2_with fail
  refine (H2.out).mono ?_
  rintro e w2 ⟨rfl, hb2⟩
  clear H2
  have B2 := Lib.hid (bmore B1.out hb2 (Nat.le_refl _)); clear hb2 B1
  have h3 := most_lit [0, 2, 5] [5, 5, 1] [.int .i64 0, .int .i64 2, .int .i64 5] [.int .i64 5, .int .i64 5, .int .i64 1] 3 3 w2.heap.size (w2.heap.size + 1) false 0 w2 rfl rfl rfl rfl rfl rfl mostIs_no (by omega) (by omega)
  have H3 := Lib.hid h3; clear h3
  go_wp2_with fail
  refine (H3.out).mono ?_
  rintro e w3 ⟨rfl, hb3⟩
  clear H3
  have B3 := Lib.hid (bmore B2.out hb3 (Nat.le_refl _)); clear hb3 B2
  go_wp2
  go_ret
  exact ⟨rfl, B3.out⟩
end Go.Proofs.Ytodldnnonhlhgaa
