/-
  The example that each statement of layer 8 begins with holds: begun, told, alive. No input.
-/
import Derived.Test.YtmcfamoicdmkdaaAttW
namespace Go.Proofs.Ytmcfamoicdmkdaa
open Go.RowKit
set_option linter.unusedVariables false
set_option linter.unusedSimpArgs false

theorem AtOwn.form {w : World} {base : Nat} {v : Value} {a : AM.At} (h : AtOwn w base v a) :
    ∃ A c B d C f, v = .agg #[.int .u8 a.ph, .int .i64 a.ba, .slice A a.ms.length c, .string a.wi, .string a.va, .slice B a.ps.length d, .slice C a.ac.length f] := by
  obtain ⟨x, y, z, rfl, h1, h2, h3⟩ := h
  obtain ⟨A, c, rfl, _, _⟩ := own_form h1
  obtain ⟨B, d, rfl, _, _⟩ := own_form h2
  obtain ⟨C, f, rfl, _, _⟩ := own_form h3
  exact ⟨A, c, B, d, C, f, rfl⟩
theorem AtOwn.put7 {w : World} {base g : Nat} {v : Value} {a : AM.At} (h : AtOwn w base v a) (hg : g < base) (x1 x2 x3 x4 x5 x6 x7 : Value) : AtOwn (Go.Proofs.Ytmcfamoicdmkdaa.put7 w g x1 x2 x3 x4 x5 x6 x7) base v a := by
  obtain ⟨x, y, z, e, h1, h2, h3⟩ := h
  exact ⟨x, y, z, e, own_put7 h1 hg .., own_put7 h2 hg .., own_put7 h3 hg ..⟩
theorem AtOwn.alloc {w : World} {base : Nat} {v : Value} {a : AM.At} (h : AtOwn w base v a) (o : Obj) : AtOwn (w.alloc o) base v a := h.below ((Below.refl _ _).alloc (Nat.le_refl _) o)
def aA0 : AM.At := ⟨1, 17, [0, 1, 2], ⟨#[119]⟩, ⟨#[]⟩, [], []⟩
def aA1 : AM.At := ⟨1, 17, [0, 1, 2], ⟨#[119]⟩, ⟨#[]⟩, [⟨0, 0, ⟨#[]⟩⟩], []⟩
def aA2 : AM.At := ⟨2, 17, [0, 1, 2], ⟨#[119]⟩, ⟨#[120]⟩, [⟨0, 0, ⟨#[]⟩⟩, ⟨2, 8, ⟨#[120]⟩⟩], []⟩
def aA3 : AM.At := ⟨2, 17, [0, 1, 2], ⟨#[119]⟩, ⟨#[120]⟩, [⟨0, 0, ⟨#[]⟩⟩, ⟨2, 8, ⟨#[120]⟩⟩], [1]⟩
def aA4 : AM.At := ⟨3, 17, [0, 1, 2], ⟨#[119]⟩, ⟨#[120]⟩, [⟨0, 0, ⟨#[]⟩⟩, ⟨2, 8, ⟨#[120]⟩⟩], [1, 2]⟩
theorem aB0 : AM.BegIs [0, 1, 2] 17 ⟨#[119]⟩ 0 := AM.begIs_zero.2 (by decide +kernel)
theorem aP1 : AM.prom aA0 17 ⟨0, 0, ⟨#[]⟩⟩ = aA1 ∧ AM.errP aA0 17 ⟨0, 0, ⟨#[]⟩⟩ = 0 := by decide +kernel
theorem aP2 : AM.prom aA1 17 ⟨2, 8, ⟨#[120]⟩⟩ = aA2 ∧ AM.errP aA1 17 ⟨2, 8, ⟨#[120]⟩⟩ = 0 := by decide +kernel
theorem aP3 : AM.acc aA2 17 1 = aA3 ∧ AM.errA aA2 17 1 = 0 := by decide +kernel
theorem aP4 : AM.acc aA3 17 2 = aA4 ∧ AM.errA aA3 17 2 = 0 := by decide +kernel
theorem aQ1 : AM.errP aA0 16 ⟨0, 0, ⟨#[]⟩⟩ = 6 ∧ AM.errP aA0 17 ⟨5, 0, ⟨#[]⟩⟩ = 6 ∧ AM.errA aA0 17 0 = 6 ∧ AM.errP aA0 17 ⟨0, 17, ⟨#[]⟩⟩ = 8 := by decide +kernel
theorem fitA0 : Fit aA0 := ⟨by decide, by decide, by decide, by decide, by decide, by decide, by decide, by decide, by intro p hp; simp [aA0] at hp⟩
theorem fitA1 : Fit aA1 := ⟨by decide, by decide, by decide, by decide, by decide, by decide, by decide, by decide, by intro p hp; simp [aA1] at hp; subst hp; exact ⟨by decide, by decide, by decide⟩⟩
theorem fitA2 : Fit aA2 := ⟨by decide, by decide, by decide, by decide, by decide, by decide, by decide, by decide, by intro p hp; simp [aA2] at hp; rcases hp with rfl | rfl <;> exact ⟨by decide, by decide, by decide⟩⟩
theorem fitA3 : Fit aA3 := ⟨by decide, by decide, by decide, by decide, by decide, by decide, by decide, by decide, by intro p hp; simp [aA3] at hp; rcases hp with rfl | rfl <;> exact ⟨by decide, by decide, by decide⟩⟩
theorem fitQ (n b : Int) (v : ByteArray) (h1 : -9223372036854775808 ≤ b) (h2 : b ≤ 9223372036854775807) (h3 : v.size ≤ maxLen) : FitP ⟨n, b, v⟩ := ⟨h1, h2, h3⟩
/-- three members just laid -/
theorem rd_three (w : World) : Rd (w.alloc (.cells #[.int .i64 0, .int .i64 1, .int .i64 2] 3)) (some ⟨w.heap.size, 0, none⟩) 3 (ic [0, 1, 2]) := rd_box (Box.new _ _ _) rfl rfl
def AttRet (a : AM.At) (y : Value) (w : World) (e : Ending) (w' : World) : Prop := ∃ v, e = .returned (.tuple #[v, y]) ∧ AtOwn w' w.heap.size v a ∧ Below w.heap.size w w'

set_option maxRecDepth 100000 in
set_option maxHeartbeats 2000000 in
theorem begun_any (w : World) : Calls Try.prog 9 #[] w (AttRet aA0 (.int .i64 0) w) := by
  obtain ⟨W0, hW0⟩ : ∃ W0, W0 = w.alloc (.cells #[.int .u8 0, .int .i64 0, .slice none 0 0, .string ⟨#[]⟩, .string ⟨#[]⟩, .slice none 0 0, .slice none 0 0] 25) := ⟨_, rfl⟩
  have hb0 : Below w.heap.size w W0 := by rw [hW0]; exact (Below.refl _ _).alloc (Nat.le_refl _) _
  have hz0 : Box W0 w.heap.size 25 #[.int .u8 0, .int .i64 0, .slice none 0 0, .string ⟨#[]⟩, .string ⟨#[]⟩, .slice none 0 0, .slice none 0 0] := by rw [hW0]; exact Box.new _ _ _
  have hs0 : W0.heap.size = w.heap.size + 1 := by rw [hW0]; simp
  have hc := begin_any (some ⟨W0.heap.size, 0, none⟩) 3 3 [0, 1, 2] 17 ⟨#[119]⟩ 0 (W0.alloc (.cells #[.int .i64 0, .int .i64 1, .int .i64 2] 3)) (rd_three W0) (by decide) (by decide) (by decide) (by decide) aB0
  have hb1 : Below w.heap.size w (W0.alloc (.cells #[.int .i64 0, .int .i64 1, .int .i64 2] 3)) := hb0.alloc (by omega) _
  have B0 := Lib.hid hb1
  have Z0 := Lib.hid (hz0.alloc (.cells #[.int .i64 0, .int .i64 1, .int .i64 2] 3))
  have HL := Lib.hid (show w.heap.size < (W0.alloc (.cells #[.int .i64 0, .int .i64 1, .int .i64 2] 3)).heap.size by simp; omega)
  rw [hs0, hW0] at hc
  rw [hW0] at B0 Z0 HL
  have HC := Lib.hid hc
  clear hc hb0 hz0 hs0 hb1 hW0
  go_enter Try.func9, Try.ntmps9
  go_wp2_with fail
  refine HC.out.mono ?_
  rintro e w1 ⟨v, rfl, own, hb⟩
  have own0 := own
  change AtOwn w1 _ v aA0 at own0
  clear own
  have own := own0
  clear own0
  obtain ⟨A1, c1, B1, q1, C1, f1, rfl⟩ := own.form
  have z1 := Z0.out.below hb Z0.out.lt
  have b1 := bmore B0.out hb (Nat.le_refl _)
  have HQX := Lib.hid (z1.put7 (.int .u8 1) (.int .i64 17) (.slice A1 3 c1) (.string ⟨#[119]⟩) (.string ⟨#[]⟩) (.slice B1 0 q1) (.slice C1 0 f1))
  have HQB := Lib.hid (below_put7 b1 (g := w.heap.size) (Nat.le_refl _) (.int .u8 1) (.int .i64 17) (.slice A1 3 c1) (.string ⟨#[119]⟩) (.string ⟨#[]⟩) (.slice B1 0 q1) (.slice C1 0 f1))
  have HQO := Lib.hid (((own).put7 HL.out (.int .u8 1) (.int .i64 17) (.slice A1 3 c1) (.string ⟨#[119]⟩) (.string ⟨#[]⟩) (.slice B1 0 q1) (.slice C1 0 f1)).mono (Nat.le_of_lt HL.out))
  obtain ⟨_, zf0, zf1, zf2, zf3, zf4, zf5, zf6⟩ := z1.seven
  unfold put7 at HQX HQB HQO
  clear z1 b1
  simp only [aA0, List.length_cons, List.length_nil, Nat.zero_add, Nat.reduceAdd]
  go_wp2_with fail
  obtain ⟨⟨dd0, dd1, dd2, dd3, dd4, dd5, dd6⟩, _⟩ := HQX.out.seven
  exact bodyPost_ret (v := .tuple #[.agg #[.int .u8 1, .int .i64 17, .slice A1 3 c1, .string ⟨#[119]⟩, .string ⟨#[]⟩, .slice B1 0 q1, .slice C1 0 f1], .int .i64 0]) (by simp [results, Try.results9, go_sem, dd0, dd1, dd2, dd3, dd4, dd5, dd6]) rfl ⟨_, rfl, HQO.out, HQB.out⟩


set_option maxRecDepth 100000 in
set_option maxHeartbeats 4000000 in
theorem told_any (w : World) : Calls Try.prog 11 #[] w (AttRet aA2 (.bool true) w) := by
  obtain ⟨W0, hW0⟩ : ∃ W0, W0 = w.alloc (.cells #[.int .u8 0, .int .i64 0, .slice none 0 0, .string ⟨#[]⟩, .string ⟨#[]⟩, .slice none 0 0, .slice none 0 0] 25) := ⟨_, rfl⟩
  have hb0 : Below w.heap.size w W0 := by rw [hW0]; exact (Below.refl _ _).alloc (Nat.le_refl _) _
  have hz0 : Box W0 w.heap.size 25 #[.int .u8 0, .int .i64 0, .slice none 0 0, .string ⟨#[]⟩, .string ⟨#[]⟩, .slice none 0 0, .slice none 0 0] := by rw [hW0]; exact Box.new _ _ _
  have B0 := Lib.hid hb0
  have Z0 := Lib.hid hz0
  clear hb0 hz0
  go_enter Try.func11, Try.ntmps11
  go_wp2_with fail
  rw [← hW0]
  clear hW0
  refine (begun_any W0).mono ?_
  rintro e w1 ⟨v, rfl, own, hb⟩
  obtain ⟨A1, c1, D1, q1, C1, f1, rfl⟩ := own.form
  simp only [aA0, List.length_cons, List.length_nil, Nat.zero_add, Nat.reduceAdd] at own ⊢
  change AtOwn _ _ _ aA0 at own
  have Z1 := Lib.hid ((Z0.out.below hb Z0.out.lt).alloc (.cells #[.int .u8 1, .int .i64 17, .slice A1 3 c1, .string ⟨#[119]⟩, .string ⟨#[]⟩, .slice D1 0 q1, .slice C1 0 f1] 25))
  have B1 := Lib.hid ((bmore B0.out hb (Nat.le_refl _)).alloc (Nat.le_trans B0.out.size hb.size) (.cells #[.int .u8 1, .int .i64 17, .slice A1 3 c1, .string ⟨#[119]⟩, .string ⟨#[]⟩, .slice D1 0 q1, .slice C1 0 f1] 25))
  have X1 := Lib.hid (Box.new w1 25 #[.int .u8 1, .int .i64 17, .slice A1 3 c1, .string ⟨#[119]⟩, .string ⟨#[]⟩, .slice D1 0 q1, .slice C1 0 f1])
  have O1 := Lib.hid (own.alloc (.cells #[.int .u8 1, .int .i64 17, .slice A1 3 c1, .string ⟨#[119]⟩, .string ⟨#[]⟩, .slice D1 0 q1, .slice C1 0 f1] 25))
  have hg0 : w.heap.size < w1.heap.size := Nat.lt_of_lt_of_le Z0.out.lt hb.size
  clear own hb Z0 B0
  obtain ⟨g, hg⟩ : ∃ g, w1.heap.size = g := ⟨_, rfl⟩
  rw [hg] at hg0 X1
  have HC := Lib.hid (prom_any _ aA0 17 ⟨0, 0, ⟨#[]⟩⟩ _ O1.out.is fitA0 (fitQ 0 0 ⟨#[]⟩ (by decide) (by decide) (by decide)))
  rw [aP1.1, aP1.2] at HC
  have S1 := Lib.hid X1.out.lt
  go_wp2_with fail
  refine HC.out.mono ?_
  rintro e w2 ⟨v2, rfl, own, hb⟩
  obtain ⟨A2, c2, D2, q2, C2, f2, rfl⟩ := own.form
  simp only [aA1, List.length_cons, List.length_nil, Nat.zero_add, Nat.reduceAdd] at own ⊢
  change AtOwn _ _ _ aA1 at own
  have x2 := X1.out.below hb X1.out.lt
  have X2 := Lib.hid (x2.put7 (.int .u8 1) (.int .i64 17) (.slice A2 3 c2) (.string ⟨#[119]⟩) (.string ⟨#[]⟩) (.slice D2 1 q2) (.slice C2 0 f2))
  have Z2 := Lib.hid ((Z1.out.below hb Z1.out.lt).putFar7 (g' := g) (by omega) (.int .u8 1) (.int .i64 17) (.slice A2 3 c2) (.string ⟨#[119]⟩) (.string ⟨#[]⟩) (.slice D2 1 q2) (.slice C2 0 f2))
  have B2 := Lib.hid (below_put7 (bmore B1.out hb (Nat.le_refl _)) (g := g) (by omega) (.int .u8 1) (.int .i64 17) (.slice A2 3 c2) (.string ⟨#[119]⟩) (.string ⟨#[]⟩) (.slice D2 1 q2) (.slice C2 0 f2))
  have O2 := Lib.hid (own.put7 S1.out (.int .u8 1) (.int .i64 17) (.slice A2 3 c2) (.string ⟨#[119]⟩) (.string ⟨#[]⟩) (.slice D2 1 q2) (.slice C2 0 f2))
  have S2 := Lib.hid (show g < (put7 w2 g (.int .u8 1) (.int .i64 17) (.slice A2 3 c2) (.string ⟨#[119]⟩) (.string ⟨#[]⟩) (.slice D2 1 q2) (.slice C2 0 f2)).heap.size from X2.out.lt)
  obtain ⟨_, u0, u1, u2, u3, u4, u5, u6⟩ := x2.seven
  unfold put7 at X2 Z2 B2 O2 S2
  clear x2 own hb Z1 B1 X1 O1 HC S1 hg
  go_upto_region 3 with (fail)
  generalize (((((((w2).setCell ⟨g, 0, none⟩ (.int .u8 1)).setCell ⟨g, 1, none⟩ (.int .i64 17)).setCell ⟨g, 2, none⟩ (.slice A2 3 c2)).setCell ⟨g, 3, none⟩ (.string ⟨#[119]⟩)).setCell ⟨g, 4, none⟩ (.string ⟨#[]⟩)).setCell ⟨g, 5, none⟩ (.slice D2 1 q2)).setCell ⟨g, 6, none⟩ (.slice C2 0 f2) = wa at X2 Z2 B2 O2 S2 ⊢
  clear u0 u1 u2 u3 u4 u5 u6
  have HC := Lib.hid (prom_any _ aA1 17 ⟨2, 8, ⟨#[120]⟩⟩ _ O2.out.is fitA1 (fitQ 2 8 ⟨#[120]⟩ (by decide) (by decide) (by decide)))
  rw [aP2.1, aP2.2] at HC
  obtain ⟨⟨t0, t1, t2, t3, t4, t5, t6⟩, _⟩ := X2.out.seven
  go_wp2_with fail
  clear t0 t1 t2 t3 t4 t5 t6
  refine HC.out.mono ?_
  rintro e w3 ⟨v3, rfl, own, hb⟩
  obtain ⟨A3, c3, D3, q3, C3, f3, rfl⟩ := own.form
  simp only [aA2, List.length_cons, List.length_nil, Nat.zero_add, Nat.reduceAdd] at own ⊢
  change AtOwn _ _ _ aA2 at own
  have x2 := X2.out.below hb X2.out.lt
  have X3 := Lib.hid (x2.put7 (.int .u8 2) (.int .i64 17) (.slice A3 3 c3) (.string ⟨#[119]⟩) (.string ⟨#[120]⟩) (.slice D3 2 q3) (.slice C3 0 f3))
  have Z3 := Lib.hid ((Z2.out.below hb Z2.out.lt).putFar7 (g' := g) (by omega) (.int .u8 2) (.int .i64 17) (.slice A3 3 c3) (.string ⟨#[119]⟩) (.string ⟨#[120]⟩) (.slice D3 2 q3) (.slice C3 0 f3))
  have B3 := Lib.hid (below_put7 (bmore B2.out hb (Nat.le_refl _)) (g := g) (by omega) (.int .u8 2) (.int .i64 17) (.slice A3 3 c3) (.string ⟨#[119]⟩) (.string ⟨#[120]⟩) (.slice D3 2 q3) (.slice C3 0 f3))
  have O3 := Lib.hid (own.put7 S2.out (.int .u8 2) (.int .i64 17) (.slice A3 3 c3) (.string ⟨#[119]⟩) (.string ⟨#[120]⟩) (.slice D3 2 q3) (.slice C3 0 f3))
  obtain ⟨_, u0, u1, u2, u3, u4, u5, u6⟩ := x2.seven
  unfold put7 at X3 Z3 B3 O3
  clear x2 own hb Z2 B2 X2 O2 HC
  go_upto_region 4 with (fail)
  generalize (((((((w3).setCell ⟨g, 0, none⟩ (.int .u8 2)).setCell ⟨g, 1, none⟩ (.int .i64 17)).setCell ⟨g, 2, none⟩ (.slice A3 3 c3)).setCell ⟨g, 3, none⟩ (.string ⟨#[119]⟩)).setCell ⟨g, 4, none⟩ (.string ⟨#[120]⟩)).setCell ⟨g, 5, none⟩ (.slice D3 2 q3)).setCell ⟨g, 6, none⟩ (.slice C3 0 f3) = wb at X3 Z3 B3 O3 ⊢
  clear u0 u1 u2 u3 u4 u5 u6
  obtain ⟨⟨t0, t1, t2, t3, t4, t5, t6⟩, _⟩ := X3.out.seven
  have HQX := Lib.hid (Z3.out.put7 (.int .u8 2) (.int .i64 17) (.slice A3 3 c3) (.string ⟨#[119]⟩) (.string ⟨#[120]⟩) (.slice D3 2 q3) (.slice C3 0 f3))
  have HQB := Lib.hid (below_put7 B3.out (g := w.heap.size) (Nat.le_refl _) (.int .u8 2) (.int .i64 17) (.slice A3 3 c3) (.string ⟨#[119]⟩) (.string ⟨#[120]⟩) (.slice D3 2 q3) (.slice C3 0 f3))
  have HQO := Lib.hid ((O3.out.put7 (g := w.heap.size) (by have := S2.out; omega) (.int .u8 2) (.int .i64 17) (.slice A3 3 c3) (.string ⟨#[119]⟩) (.string ⟨#[120]⟩) (.slice D3 2 q3) (.slice C3 0 f3)).mono (show w.heap.size ≤ wa.heap.size by have := S2.out; omega))
  obtain ⟨_, u0, u1, u2, u3, u4, u5, u6⟩ := Z3.out.seven
  unfold put7 at HQX HQB HQO
  clear X3 Z3 B3 O3
  go_wp2_with fail
  obtain ⟨⟨dd0, dd1, dd2, dd3, dd4, dd5, dd6⟩, _⟩ := HQX.out.seven
  exact bodyPost_ret (v := .tuple #[.agg #[.int .u8 2, .int .i64 17, .slice A3 3 c3, .string ⟨#[119]⟩, .string ⟨#[120]⟩, .slice D3 2 q3, .slice C3 0 f3], .bool true]) (by simp [results, Try.results11, go_sem, dd0, dd1, dd2, dd3, dd4, dd5, dd6]) rfl ⟨_, rfl, HQO.out, HQB.out⟩

set_option maxRecDepth 100000 in
set_option maxHeartbeats 2000000 in
theorem alive_any (w : World) : Calls Try.prog 14 #[] w fun e w' => e = .returned (.bool true) ∧ Below w.heap.size w w' := by
  go_enter Try.func14, Try.ntmps14
  go_wp2_with fail
  refine (told_any _).mono ?_
  rintro e w1 ⟨v, rfl, own, hb⟩
  obtain ⟨A3, c3, D3, q3, C3, f3, rfl⟩ := own.form
  simp only [aA2, List.length_cons, List.length_nil, Nat.zero_add, Nat.reduceAdd] at own ⊢
  change AtOwn _ _ _ aA2 at own
  have HB := Lib.hid (hb.alloc hb.size (.cells #[.int .u8 2, .int .i64 17, .slice A3 3 c3, .string ⟨#[119]⟩, .string ⟨#[120]⟩, .slice D3 2 q3, .slice C3 0 f3] 25))
  clear own hb
  go_wp2_with fail
  go_ret
  exact ⟨rfl, HB.out⟩
end Go.Proofs.Ytmcfamoicdmkdaa
