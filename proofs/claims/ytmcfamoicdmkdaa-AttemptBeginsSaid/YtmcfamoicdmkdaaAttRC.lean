/-
  The document's own Begin (towncrierref08). Conditions: the members read as ints.
-/
import Derived.Test.YtmcfamoicdmkdaaAttRB
import Derived.Deep.DeepCutAuto
namespace Go.Proofs.Ytmcfamoicdmkdaa
open Go.RowKit
set_option linter.unusedVariables false
set_option linter.unusedSimpArgs false

set_option maxRecDepth 100000 in
set_option maxHeartbeats 2000000 in
theorem rbegin_1 (A : Option Addr) (n c : Nat) (ms : List Int) (ba : Int) (wi : ByteArray) (w : World) (hr : Rd w A n (ic ms)) (hl : ms.length ≤ 2000) (hs : wi.size ≤ maxLen) (y : Int) (hc : QM.ChkIs ms y) (h0 : y ≠ 0) :
    Calls Try.prog 25 #[.slice A n c, .int .i64 ba, .string wi] w (ErrRet AM.zero y w) := by
  unfold maxLen at hs
  obtain ⟨W0, hW0⟩ : ∃ W0, W0 = w.alloc (.cells #[.int .u8 0, .int .i64 0, .slice none 0 0, .string ⟨#[]⟩, .string ⟨#[]⟩, .slice none 0 0, .slice none 0 0] 25) := ⟨_, rfl⟩
  have hb0 : Below w.heap.size w W0 := by rw [hW0]; exact (Below.refl _ _).alloc (Nat.le_refl _) _
  have hz0 : Box W0 w.heap.size 25 #[.int .u8 0, .int .i64 0, .slice none 0 0, .string ⟨#[]⟩, .string ⟨#[]⟩, .slice none 0 0, .slice none 0 0] := by rw [hW0]; exact Box.new _ _ _
  have hm : n ≤ 9223372036854775807 := by have := hr.1; rw [ic_length] at this; omega
  have B0 := Lib.hid hb0
  have Z0 := Lib.hid hz0
  have hs0 : W0.heap.size = w.heap.size + 1 := by rw [hW0]; simp
  have HC := Lib.hid (rqCheck_any A n c ms y W0 (hr.below hb0) hm hc)
  have q2 : (y == 0) = false := by simpa using h0
  have q3 : (y != 0) = true := by simpa using h0
  clear hr hc hb0 hz0 h0
  go_enter Try.func25, Try.ntmps25
  go_wp2_with fail
  rw [← hW0]
  clear hW0
  refine HC.out.mono ?_
  rintro e w1 ⟨rfl, q1, rfl⟩
  have qx := Box.put7 (w := W0.drewN q1) Z0.out (.int .u8 0) (.int .i64 0) (.slice none 0 0) (.string ⟨#[]⟩) (.string ⟨#[]⟩) (.slice none 0 0) (.slice none 0 0)
  have qb := below_put7 (below_drewN B0.out q1) (g := w.heap.size) (Nat.le_refl _) (.int .u8 0) (.int .i64 0) (.slice none 0 0) (.string ⟨#[]⟩) (.string ⟨#[]⟩) (.slice none 0 0) (.slice none 0 0)
  unfold put7 at qx qb
  have HQX := Lib.hid qx
  have HQB := Lib.hid qb
  obtain ⟨_, z0, z1, z2, z3, z4, z5, z6⟩ := Z0.out.seven
  clear qx qb
  go_wp2_with fail
  obtain ⟨⟨d0, d1, d2, d3, d4, d5, d6⟩, _⟩ := HQX.out.seven
  exact bodyPost_ret (v := .tuple #[.agg #[.int .u8 0, .int .i64 0, .slice none 0 0, .string ⟨#[]⟩, .string ⟨#[]⟩, .slice none 0 0, .slice none 0 0], .int .i64 y]) (by simp [results, Try.results25, go_sem, d0, d1, d2, d3, d4, d5, d6]) rfl ⟨_, rfl, AtOwn.zero _ _, HQB.out⟩

set_option maxRecDepth 100000 in
set_option maxHeartbeats 2000000 in
theorem rbegin_2 (A : Option Addr) (n c : Nat) (ms : List Int) (ba : Int) (wi : ByteArray) (w : World) (hr : Rd w A n (ic ms)) (hl : ms.length ≤ 2000) (hs : wi.size ≤ maxLen) (hc : QM.ChkIs ms 0) (hg : ¬ BM.good ba) :
    Calls Try.prog 25 #[.slice A n c, .int .i64 ba, .string wi] w (ErrRet AM.zero 50 w) := by
  unfold maxLen at hs
  obtain ⟨W0, hW0⟩ : ∃ W0, W0 = w.alloc (.cells #[.int .u8 0, .int .i64 0, .slice none 0 0, .string ⟨#[]⟩, .string ⟨#[]⟩, .slice none 0 0, .slice none 0 0] 25) := ⟨_, rfl⟩
  have hb0 : Below w.heap.size w W0 := by rw [hW0]; exact (Below.refl _ _).alloc (Nat.le_refl _) _
  have hz0 : Box W0 w.heap.size 25 #[.int .u8 0, .int .i64 0, .slice none 0 0, .string ⟨#[]⟩, .string ⟨#[]⟩, .slice none 0 0, .slice none 0 0] := by rw [hW0]; exact Box.new _ _ _
  have hm : n ≤ 9223372036854775807 := by have := hr.1; rw [ic_length] at this; omega
  have B0 := Lib.hid hb0
  have Z0 := Lib.hid hz0
  have hs0 : W0.heap.size = w.heap.size + 1 := by rw [hW0]; simp
  have HC := Lib.hid (rqCheck_any A n c ms 0 W0 (hr.below hb0) hm hc)
  have HD := Lib.hid (fun W => rCheck_any (show BM.OfIs ba 0 0 50 from .inr ⟨hg, rfl, rfl, rfl⟩) W)
  clear hr hc hb0 hz0 hg
  go_enter Try.func25, Try.ntmps25
  go_wp2_with fail
  rw [← hW0]
  clear hW0
  refine HC.out.mono ?_
  rintro e w1 ⟨rfl, q1, rfl⟩
  go_wp2_with fail
  refine (HD.out _).mono ?_
  rintro e w1 ⟨rfl, rfl⟩
  have qx := Box.put7 (w := W0.drewN q1) Z0.out (.int .u8 0) (.int .i64 0) (.slice none 0 0) (.string ⟨#[]⟩) (.string ⟨#[]⟩) (.slice none 0 0) (.slice none 0 0)
  have qb := below_put7 (below_drewN B0.out q1) (g := w.heap.size) (Nat.le_refl _) (.int .u8 0) (.int .i64 0) (.slice none 0 0) (.string ⟨#[]⟩) (.string ⟨#[]⟩) (.slice none 0 0) (.slice none 0 0)
  unfold put7 at qx qb
  have HQX := Lib.hid qx
  have HQB := Lib.hid qb
  obtain ⟨_, z0, z1, z2, z3, z4, z5, z6⟩ := Z0.out.seven
  clear qx qb
  go_wp2_with fail
  obtain ⟨⟨d0, d1, d2, d3, d4, d5, d6⟩, _⟩ := HQX.out.seven
  exact bodyPost_ret (v := .tuple #[.agg #[.int .u8 0, .int .i64 0, .slice none 0 0, .string ⟨#[]⟩, .string ⟨#[]⟩, .slice none 0 0, .slice none 0 0], .int .i64 50]) (by simp [results, Try.results25, go_sem, d0, d1, d2, d3, d4, d5, d6]) rfl ⟨_, rfl, AtOwn.zero _ _, HQB.out⟩

set_option maxRecDepth 100000 in
set_option maxHeartbeats 2000000 in
theorem rbegin_3 (A : Option Addr) (n c : Nat) (ms : List Int) (ba : Int) (wi : ByteArray) (w : World) (hr : Rd w A n (ic ms)) (hl : ms.length ≤ 2000) (hs : wi.size ≤ maxLen) (hc : QM.ChkIs ms 0) (hg : BM.good ba) (hw : 1024 < wi.size) :
    Calls Try.prog 25 #[.slice A n c, .int .i64 ba, .string wi] w (ErrRet AM.zero 3 w) := by
  unfold maxLen at hs
  obtain ⟨W0, hW0⟩ : ∃ W0, W0 = w.alloc (.cells #[.int .u8 0, .int .i64 0, .slice none 0 0, .string ⟨#[]⟩, .string ⟨#[]⟩, .slice none 0 0, .slice none 0 0] 25) := ⟨_, rfl⟩
  have hb0 : Below w.heap.size w W0 := by rw [hW0]; exact (Below.refl _ _).alloc (Nat.le_refl _) _
  have hz0 : Box W0 w.heap.size 25 #[.int .u8 0, .int .i64 0, .slice none 0 0, .string ⟨#[]⟩, .string ⟨#[]⟩, .slice none 0 0, .slice none 0 0] := by rw [hW0]; exact Box.new _ _ _
  have hm : n ≤ 9223372036854775807 := by have := hr.1; rw [ic_length] at this; omega
  have B0 := Lib.hid hb0
  have Z0 := Lib.hid hz0
  have hs0 : W0.heap.size = w.heap.size + 1 := by rw [hW0]; simp
  have HC := Lib.hid (rqCheck_any A n c ms 0 W0 (hr.below hb0) hm hc)
  have HD := Lib.hid (fun W => rCheck_any (show BM.OfIs ba (ba / 8) (ba % 8) 0 from .inl ⟨hg, rfl, rfl, rfl⟩) W)
  have k1 : decide ((1024 : Int) < (wi.size : Int)) = true := by simp; omega
  have k2 : decide (1024 < wi.size) = true := by simp; omega
  have k3 : (1024 : Int) < (wi.size : Int) := by omega
  clear hr hc hb0 hz0 hg
  go_enter Try.func25, Try.ntmps25
  go_wp2_with fail
  rw [← hW0]
  clear hW0
  refine HC.out.mono ?_
  rintro e w1 ⟨rfl, q1, rfl⟩
  go_wp2_with fail
  refine (HD.out _).mono ?_
  rintro e w1 ⟨rfl, rfl⟩
  have qx := Box.put7 (w := W0.drewN q1) Z0.out (.int .u8 0) (.int .i64 0) (.slice none 0 0) (.string ⟨#[]⟩) (.string ⟨#[]⟩) (.slice none 0 0) (.slice none 0 0)
  have qb := below_put7 (below_drewN B0.out q1) (g := w.heap.size) (Nat.le_refl _) (.int .u8 0) (.int .i64 0) (.slice none 0 0) (.string ⟨#[]⟩) (.string ⟨#[]⟩) (.slice none 0 0) (.slice none 0 0)
  unfold put7 at qx qb
  have HQX := Lib.hid qx
  have HQB := Lib.hid qb
  obtain ⟨_, z0, z1, z2, z3, z4, z5, z6⟩ := Z0.out.seven
  clear qx qb
  go_wp2_with fail
  obtain ⟨⟨d0, d1, d2, d3, d4, d5, d6⟩, _⟩ := HQX.out.seven
  exact bodyPost_ret (v := .tuple #[.agg #[.int .u8 0, .int .i64 0, .slice none 0 0, .string ⟨#[]⟩, .string ⟨#[]⟩, .slice none 0 0, .slice none 0 0], .int .i64 3]) (by simp [results, Try.results25, go_sem, d0, d1, d2, d3, d4, d5, d6]) rfl ⟨_, rfl, AtOwn.zero _ _, HQB.out⟩

set_option maxRecDepth 100000 in
set_option maxHeartbeats 2000000 in
theorem rbegin_4 (A : Option Addr) (n c : Nat) (ms : List Int) (ba : Int) (wi : ByteArray) (w : World) (hr : Rd w A n (ic ms)) (hl : ms.length ≤ 2000) (hs : wi.size ≤ maxLen) (hc : QM.ChkIs ms 0) (hg : BM.good ba) (hw : wi.size ≤ 1024) :
    Calls Try.prog 25 #[.slice A n c, .int .i64 ba, .string wi] w (ErrRet (AM.start ms ba wi) 0 w) := by
  unfold maxLen at hs
  obtain ⟨W0, hW0⟩ : ∃ W0, W0 = w.alloc (.cells #[.int .u8 0, .int .i64 0, .slice none 0 0, .string ⟨#[]⟩, .string ⟨#[]⟩, .slice none 0 0, .slice none 0 0] 25) := ⟨_, rfl⟩
  have hb0 : Below w.heap.size w W0 := by rw [hW0]; exact (Below.refl _ _).alloc (Nat.le_refl _) _
  have hz0 : Box W0 w.heap.size 25 #[.int .u8 0, .int .i64 0, .slice none 0 0, .string ⟨#[]⟩, .string ⟨#[]⟩, .slice none 0 0, .slice none 0 0] := by rw [hW0]; exact Box.new _ _ _
  have hm : n ≤ 9223372036854775807 := by have := hr.1; rw [ic_length] at this; omega
  have B0 := Lib.hid hb0
  have Z0 := Lib.hid hz0
  have hs0 : W0.heap.size = w.heap.size + 1 := by rw [hW0]; simp
  obtain ⟨i0, hi, hz0', hz1, hz2⟩ := info_parts info_ai
  have hln : ms.length = n := by have := hr.1; rwa [ic_length] at this
  have HC := Lib.hid (rqCheck_any A n c ms 0 W0 (hr.below hb0) hm hc)
  have HD := Lib.hid (fun W => rCheck_any (show BM.OfIs ba (ba / 8) (ba % 8) 0 from .inl ⟨hg, rfl, rfl, rfl⟩) W)
  have HR := Lib.hid (hr.below hb0)
  have hn2 : n ≤ 2000 := by omega
  clear hr hc hb0 hz0 hg
  go_enter Try.func25, Try.ntmps25
  go_wp2_with fail
  rw [← hW0]
  clear hW0
  refine HC.out.mono ?_
  rintro e w1 ⟨rfl, q1, rfl⟩
  go_wp2_with fail
  refine (HD.out _).mono ?_
  rintro e w1 ⟨rfl, rfl⟩
  obtain ⟨W1, hW1⟩ : ∃ W1, W1 = W0.drewN q1 := ⟨_, rfl⟩
  have HRQ := Lib.hid (show Rd W1 A n (ic ms) by rw [hW1]; exact HR.out.drewN q1)
  have Z1 := Lib.hid (show Box W1 w.heap.size 25 #[.int .u8 0, .int .i64 0, .slice none 0 0, .string ⟨#[]⟩, .string ⟨#[]⟩, .slice none 0 0, .slice none 0 0] by rw [hW1]; exact Z0.out)
  have B1 := Lib.hid (show Below w.heap.size w W1 by rw [hW1]; exact below_drewN B0.out q1)
  have HNI := Lib.hid (World.ownsRow_nil W1 (w.heap.size + 1) 3 1)
  have hs1 : w.heap.size + 1 ≤ W1.heap.size := by rw [hW1]; show w.heap.size + 1 ≤ W0.heap.size; omega
  rw [← hW1]
  clear hW1 hs0
  have hfz : ∀ W : World, Box W w.heap.size 25 #[.int .u8 0, .int .i64 0, .slice none 0 0, .string ⟨#[]⟩, .string ⟨#[]⟩, .slice none 0 0, .slice none 0 0] → (W.frozen? ⟨w.heap.size, 0, none⟩ = false ∧ W.frozen? ⟨w.heap.size, 1, none⟩ = false) := fun W h => ⟨h.frozen 0, h.frozen 1⟩
  clear hfz
  go_wp2_with (at_builtin; refine wpList_append_rd _ rfl _ _ 22 rfl (w.heap.size + 1) 3 i0 (.int .i64 0) 8 Try.underlying22 hi hz0' hz1 hz2 rfl (.slice none 0 0) _ _ rfl HNI.out A n c (ic ms) rfl HRQ.out (ic_one _) (by unfold maxLen; omega) (by omega) hs1 ?_; intro v2 w2 hown2 hg2 hob2; obtain ⟨A', c', rfl, _, _⟩ := own_form hown2; have x2 := Z1.out.grown hg2 (by simp [Value.ownBlock]); obtain ⟨⟨s0, s1, s2, s3, s4, s5, s6⟩, z0, z1, z2, z3, z4, z5, z6⟩ := x2.seven)
  simp only [Nat.zero_add, List.nil_append] at hown2 ⊢
  have qx := x2.put7 (.int .u8 1) (.int .i64 ba) (.slice A' n c') (.string wi) (.string ⟨#[]⟩) (.slice none 0 0) (.slice none 0 0)
  have qb := below_put7 (B1.out.grown hg2 (by omega) (fun g hg => by simp [Value.ownBlock] at hg)) (g := w.heap.size) (Nat.le_refl _) (.int .u8 1) (.int .i64 ba) (.slice A' n c') (.string wi) (.string ⟨#[]⟩) (.slice none 0 0) (.slice none 0 0)
  have qo := own_put7 hown2 (g := w.heap.size) (by omega) (.int .u8 1) (.int .i64 ba) (.slice A' n c') (.string wi) (.string ⟨#[]⟩) (.slice none 0 0) (.slice none 0 0)
  unfold put7 at qx qb qo
  obtain ⟨⟨d0, d1, d2, d3, d4, d5, d6⟩, _⟩ := qx.seven
  have qo2 := own_base qo (show w.heap.size ≤ w.heap.size + 1 by omega)
  subst hln
  exact bodyPost_ret (v := .tuple #[.agg #[.int .u8 1, .int .i64 ba, .slice A' ms.length c', .string wi, .string ⟨#[]⟩, .slice none 0 0, .slice none 0 0], .int .i64 0]) (by simp [results, Try.results25, go_sem, d0, d1, d2, d3, d4, d5, d6]) rfl ⟨_, rfl, ⟨_, _, _, rfl, qo2, World.ownsRow_nil _ _ _ _, World.ownsRow_nil _ _ _ _⟩, qb⟩

theorem rbegin_any (A : Option Addr) (n c : Nat) (ms : List Int) (ba : Int) (wi : ByteArray) (w : World) (hr : Rd w A n (ic ms)) (hl : ms.length ≤ 2000) (hs : wi.size ≤ maxLen) (y : Int) (hy : AM.BegIs ms ba wi y) :
    Calls Try.prog 25 #[.slice A n c, .int .i64 ba, .string wi] w (ErrRet (begAt ms ba wi y) y w) := by
  rcases hy with ⟨h, h0⟩ | ⟨h, h1, rfl⟩ | ⟨h, h1, h2, rfl⟩ | ⟨h, h1, h2, rfl⟩
  · rw [begAt, if_neg h0]
    exact rbegin_1 A n c ms ba wi w hr hl hs y h h0
  · exact rbegin_2 A n c ms ba wi w hr hl hs h h1
  · exact rbegin_3 A n c ms ba wi w hr hl hs h h1 h2
  · exact rbegin_4 A n c ms ba wi w hr hl hs h h1 h2
end Go.Proofs.Ytmcfamoicdmkdaa
