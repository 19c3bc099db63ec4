/-
  Words for the laws' walks: a variable that holds a disk. And disk.Check at too many writes. Conditions: as each theorem says.
-/
import Derived.Test.YtkdnkaiknmcfmaaDiskS
namespace Go.Proofs.Ytkdnkaiknmcfmaa
open Go.RowKit
set_option linter.unusedVariables false

/-- block g is a variable of type api.Disk that holds a disk of b and ps -/
def Var (w : World) (g : Nat) (A : Option Addr) (n c : Nat) (B : Option Addr) (m d : Nat) (b : List UInt8) (ps : List DM.Wr) : Prop :=
  Box w g 25 #[.slice A n c, .slice B m d] ∧ DiskIs w (.agg #[.slice A n c, .slice B m d]) b ps
section
variable {w w1 w' : World} {g n c m d base : Nat} {A B : Option Addr} {b : List UInt8} {ps : List DM.Wr}
theorem Var.lt (h : Var w g A n c B m d b ps) : g < w.heap.size := h.1.lt
theorem Var.below (h : Var w g A n c B m d b ps) (hb : Below w.heap.size w w') : Var w' g A n c B m d b ps := ⟨h.1.below hb h.1.lt, h.2.below hb⟩
theorem Var.c0 (h : Var w g A n c B m d b ps) : w.cell? ⟨g, 0, none⟩ = some (.slice A n c) := h.1.cell 0
theorem Var.c1 (h : Var w g A n c B m d b ps) : w.cell? ⟨g, 1, none⟩ = some (.slice B m d) := h.1.cell 1
theorem Var.rd (h : Var w g A n c B m d b ps) : Rd w A n (bc b) := by
  obtain ⟨A', n', c', B', m', d', e, h1, h2, h3, h4, h5, h6⟩ := h.2
  simp at e
  obtain ⟨⟨rfl, rfl, rfl⟩, rfl, rfl, rfl⟩ := e
  exact h5
theorem Var.len (h : Var w g A n c B m d b ps) : b.length = n := by have := h.rd.1; rwa [bc_length] at this
theorem Var.wlen (h : Var w g A n c B m d b ps) : ps.length = m := by
  obtain ⟨A', n', c', B', m', d', e, h1, h2, h3, h4, h5, h6⟩ := h.2
  simp at e
  obtain ⟨⟨rfl, rfl, rfl⟩, rfl, rfl, rfl⟩ := e
  exact h6.1
theorem rd_str {w : World} {A : Option Addr} {n c : Nat} {b : List UInt8} (h : Rd w A n (bc b)) : (convert 22 9 (.slice A n c)).run Try.prog w = .ok (.string ⟨b.toArray⟩) w :=
  run_string_of w _ _ 5 A n c b Try.underlying22 Try.underlying5 Try.underlying9 h
theorem Var.str (h : Var w g A n c B m d b ps) : (convert 22 9 (.slice A n c)).run Try.prog w = .ok (.string ⟨b.toArray⟩) w := rd_str h.rd
theorem var_step (hb1 : Below w.heap.size w w1) (hown : DiskOwn w1 base 5 37 (.agg #[.slice A n c, .slice B m d]) b ps) :
    Below w.heap.size w (w1.alloc (.cells #[.slice A n c, .slice B m d] 25)) ∧ Var (w1.alloc (.cells #[.slice A n c, .slice B m d] 25)) w1.heap.size A n c B m d b ps :=
  ⟨hb1.alloc hb1.size _, Box.new _ _ _, hown.is.below ((Below.refl _ _).alloc (Nat.le_refl _) _)⟩
end

theorem check_v (A B : Option Addr) (n c m d : Nat) (b : List UInt8) (ps : List DM.Wr) (x : Int) (w : World) (HV : Hid (DiskIs w (.agg #[.slice A n c, .slice B m d]) b ps)) (HX : Hid (MayIs b ps x)) :
    Calls Try.prog 26 #[.agg #[.slice A n c, .slice B m d]] w fun e w' => e = .returned (.int .i64 x) ∧ Below w.heap.size w w' := by
  obtain ⟨A', n', c', B', m', d', e, h1, h2, h3, h4, h5, h6⟩ := HV.out
  simp at e
  obtain ⟨⟨rfl, rfl, rfl⟩, rfl, rfl, rfl⟩ := e
  refine (check_any A B n c m d b ps w (Lib.hid h5) (Lib.hid h6) (by unfold maxLen at *; omega) (by unfold maxLen at *; omega)).mono ?_
  rintro e w' ⟨y, rfl, hy, hb⟩
  have : y = x := by
    rcases hy with ⟨g1, rfl⟩ | ⟨g1, rfl⟩ <;> rcases HX.out with ⟨g2, rfl⟩ | ⟨g2, rfl⟩ <;> first | rfl | exact absurd g1 g2 | exact absurd g2 g1
  subst this
  exact ⟨rfl, hb⟩

set_option maxHeartbeats 1000000 in
theorem check_big (B : Option Addr) (m d : Nat) (w : World) (hm : 1024 < m) (hm2 : m ≤ 9223372036854775807) :
    Calls Try.prog 26 #[.agg #[.slice none 0 0, .slice B m d]] w fun e w' => e = .returned (.int .i64 30) ∧ Below w.heap.size w w' := by
  go_enter Try.func26, Try.ntmps26
  go_wp2_with fail
  go_ret
  exact ⟨rfl, (Below.refl _ _).alloc (Nat.le_refl _) _⟩
end Go.Proofs.Ytkdnkaiknmcfmaa
