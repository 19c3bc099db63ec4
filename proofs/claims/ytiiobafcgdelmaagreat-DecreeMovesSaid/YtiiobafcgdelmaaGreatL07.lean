/- Contracts of functions of towncrier, layers 5 to 9, and of the document's own ones, part 7; each as its theorem says. -/
import Derived.Test.YtiiobafcgdelmaaGreatL01
import Derived.Test.YtiiobafcgdelmaaGreatL06
import Derived.Deep.DeepCutAuto
import Derived.Deep.RegionHeld3
set_option linter.unusedVariables false
set_option linter.unusedSimpArgs false
namespace Go.Proofs.YtiiobafcgdelmaaGreat
open Go.RowKit
def OnwIs (A : Option Addr) (n c : Nat) (B : Option Addr) (m d : Nat) (C : Option Addr) (k f : Nat) (a : AM.At) (w : World) (e : Ending) (w' : World) : Prop :=
 e = .returned (.agg #[.int .u8 a.ph, .int .i64 a.ba, .slice A n c, .string a.wi, .string a.va, .slice B m d, .slice C k f]) ∧ Below w.heap.size w w'
theorem OnwIs.mk {A B C : Option Addr} {n c m d k f : Nat} {ph ba : Int} {wi va : ByteArray} {a : AM.At} {w w' : World} (h : a.ph = ph ∧ a.ba = ba ∧ a.wi = wi ∧ a.va = va) (hb : Below w.heap.size w w') :
  OnwIs A n c B m d C k f a w (.returned (.agg #[.int .u8 ph, .int .i64 ba, .slice A n c, .string wi, .string va, .slice B m d, .slice C k f])) w' := by
 obtain ⟨rfl, rfl, rfl, rfl⟩ := h
 exact ⟨rfl, hb⟩
theorem Box.set7_0 {w : World} {g : Nat} {t : TypeId} {a b c d e f i : Value} (h : Box w g t #[a, b, c, d, e, f, i]) (x : Value) : Box (w.setCell ⟨g, 0, none⟩ x) g t #[x, b, c, d, e, f, i] := by simpa using h.stored 0 x
theorem Box.set7_4 {w : World} {g : Nat} {t : TypeId} {a b c d e f i : Value} (h : Box w g t #[a, b, c, d, e, f, i]) (x : Value) : Box (w.setCell ⟨g, 4, none⟩ x) g t #[a, b, c, d, x, f, i] := by simpa using h.stored 4 x
def MostMid (w : World) (b : Bool) (u : Value) (wx : World) : Prop := u = .bool (!b) ∧ Below w.heap.size w wx
set_option maxRecDepth 100000 in
set_option maxHeartbeats 4000000 in
theorem onward_1 (a : AM.At) (A : Option Addr) (n c : Nat) (B : Option Addr) (m d : Nat) (C : Option Addr) (k f : Nat) (w : World) (h1 : Rd w A n (ic a.ms)) (h2 : RdP w B m a.ps) (h3 : Rd w C k (ic a.ac)) (hmay : QM.may a.ms = true) (hm : m ≤ 1000) (hk : k ≤ 1000) (p1 : a.ph = 1) :
  Calls Tryz.prog 112 #[.agg #[.int .u8 a.ph, .int .i64 a.ba, .slice A n c, .string a.wi, .string a.va, .slice B m d, .slice C k f]] w (OnwIs A n c B m d C k f (AM.onward a) w) := by
 obtain ⟨ph, ba, ms, wi, va, ps, ac⟩ := a
 simp only at h1 h2 h3 hmay ⊢
 have l1 : ps.length = m := h2.1
 have l2 : ac.length = k := by have := h3.1; rwa [ic_length] at this
 have l3 : ms.length = n := by have := h1.1; rwa [ic_length] at this
 obtain ⟨W0, hW0⟩ : ∃ W0, W0 = (w.alloc (.cells #[.int .u8 ph, .int .i64 ba, .slice A n c, .string wi, .string va, .slice B m d, .slice C k f] 57)).alloc (.cells #[.int .u8 0, .int .i64 0, .slice none 0 0, .string ⟨#[]⟩, .string ⟨#[]⟩, .slice none 0 0, .slice none 0 0] 57) := ⟨_, rfl⟩
 have hb0 : Below w.heap.size w W0 := by rw [hW0]; exact ((Below.refl _ _).alloc n! _).alloc (by simp) _
 have hx0 : Box W0 w.heap.size 57 #[.int .u8 ph, .int .i64 ba, .slice A n c, .string wi, .string va, .slice B m d, .slice C k f] := by rw [hW0]; exact (Box.new _ _ _).alloc _
 have hy0 : Box W0 (w.heap.size + 1) 57 #[.int .u8 0, .int .i64 0, .slice none 0 0, .string ⟨#[]⟩, .string ⟨#[]⟩, .slice none 0 0, .slice none 0 0] := by rw [hW0]; exact Box.new_at _ (by simp)
 have hs0 : W0.heap.size = w.heap.size + 1 + 1 := by rw [hW0]; simp
 have HX0 := h! hx0
 have HY0 := h! hy0
 have HS0 := h! hs0
 have HN := h! (fun (W : World) (hb : Below w.heap.size w W) => nodesOf_any B m d ps W (h2.below hb) (by omega))
 have HM1 := h! (fun (W : World) (hb : Below w.heap.size w W) (D : Option Addr) (q r : Nat) (hd : Rd W D q (ic (AM.nodes ps))) => isMost_any A n c ms D q r (AM.nodes ps) W (h1.below hb) hd hmay (by rw [AM.nodes_length]; omega))
 have HM2 := h! (fun (W : World) (hb : Below w.heap.size w W) => isMost_any A n c ms C k f ac W (h1.below hb) (h3.below hb) hmay (by omega))
 have HBE := h! (fun (W : World) (hb : Below w.heap.size w W) => best_any B m d ps wi W (h2.below hb) (by omega))
 have HB0 := h! hb0
 clear hb0 hx0 hy0 hs0 h1 h2 h3 hmay l1 l2 l3
 simp only at p1
 subst p1
 go_enter Tryz.func112, Tryz.ntmps112
 go_upto_region 4 with (fail)
 rw [← hW0]
 clear hW0
 go_cut [15] (fun u wx => MostMid W0 (AM.most ms (AM.nodes ps)) u wx)
 case first =>
  obtain ⟨⟨t0, t1, t2, t3, t4, t5, t6⟩, u0, u1, u2, u3, u4, u5, u6⟩ := HX0.out.seven
  have hS : ∀ w', Below W0.heap.size W0 w' → w'.cell? ⟨w.heap.size, 2, none⟩ = some (.slice A n c) ∧ w'.cell? ⟨w.heap.size, 5, none⟩ = some (.slice B m d) := fun w' h => ⟨(HX0.out.below h HX0.out.lt).cell 2, (HX0.out.below h HX0.out.lt).cell 5⟩
  have HSS := h! hS; clear hS
  have bb1 : Below W0.heap.size W0 W0.drew := (Below.refl _ _).drew
  go_region_held3 (fun w' => w'.cell? ⟨w.heap.size, 2, none⟩ = some (.slice A n c) ∧ w'.cell? ⟨w.heap.size, 5, none⟩ = some (.slice B m d))
   (first | exact HSS.out _ bb2 | exact HSS.out _ bb1 | go_keep)
   (first
    | (go_at_call 110; ((with_reducible refine (HN.out _ (bmore HB0.out bb1 n!)).mono ?_); rintro e wa ⟨A', c', rfl, ho, ha⟩; have bb2 : Below W0.heap.size W0 wa := bmore bb1 ha n!; have hrd := Rd.of_own ho))
    | (go_at_call 120; ((with_reducible refine (HM1.out _ (bmore HB0.out bb2 n!) _ _ _ hrd).mono ?_); rintro e wb ⟨rfl, rfl⟩)))
  all_goals (go_wp2_with fail; go_meet; case rel => exact ⟨rfl, bb2⟩)
 case rest =>
  obtain ⟨rfl, hmb⟩ := hcut
  have HX1 := h! (HX0.out.below hmb HX0.out.lt)
  have HY1 := h! (HY0.out.below hmb HY0.out.lt)
  have HB1 := h! (bmore HB0.out hmb n!)
  clear hmb HX0 HY0 HB0 HN HM1
  rcases h1 : AM.most ms (AM.nodes ps) with _ | _
  ·
   have E1 := h! h1; clear h1 HM2 HBE
   simp only [Bool.not_false]
   have qx := HY1.out.put7 (.int .u8 1) (.int .i64 ba) (.slice A n c) (.string wi) (.string va) (.slice B m d) (.slice C k f)
   have qb := below_put7 HB1.out (g := w.heap.size + 1) (by omega) (.int .u8 1) (.int .i64 ba) (.slice A n c) (.string wi) (.string va) (.slice B m d) (.slice C k f)
   obtain ⟨⟨t0, t1, t2, t3, t4, t5, t6⟩, u0, u1, u2, u3, u4, u5, u6⟩ := HX1.out.seven
   obtain ⟨_, v0, v1, v2, v3, v4, v5, v6⟩ := HY1.out.seven
   unfold put7 at qx qb
   have HQX := h! qx
   have HQB := h! qb
   clear qx qb
   go_wp2_with fail
   obtain ⟨⟨d0, d1, d2, d3, d4, d5, d6⟩, _⟩ := HQX.out.seven
   exact bodyPost_ret (v := .agg #[.int .u8 1, .int .i64 ba, .slice A n c, .string wi, .string va, .slice B m d, .slice C k f]) (by simp [results, Tryz.results112, go_sem, d0, d1, d2, d3, d4, d5, d6]) rfl (OnwIs.mk (by simp [AM.onward, E1.out]) HQB.out)
  ·
   have E1 := h! h1; clear h1
   simp only [Bool.not_true]
   obtain ⟨bs, hbs⟩ : ∃ bs, bs = AM.best ps wi := ⟨_, rfl⟩
   rw [← hbs] at HBE
   have EB := h! hbs; clear hbs
   obtain ⟨⟨t0, t1, t2, t3, t4, t5, t6⟩, u0, u1, u2, u3, u4, u5, u6⟩ := HX1.out.seven
   go_wp2_with fail
   refine (HBE.out _ HB1.out).mono ?_
   rintro e w2 ⟨rfl, hb2⟩
   have x2 := HX1.out.below hb2 HX1.out.lt
   have HX2 := h! ((x2.set7_0 (.int .u8 2)).set7_4 (.string bs))
   have HY2 := h! (((HY1.out.below hb2 HY1.out.lt).far (p := ⟨w.heap.size, 0, none⟩) (by simp) (.int .u8 2)).far (p := ⟨w.heap.size, 4, none⟩) (by simp) (.string bs))
   have HB2 := h! (below_put1 (g := w.heap.size) (k := 4) (below_put1 (g := w.heap.size) (k := 0) (bmore HB1.out hb2 n!) n! (.int .u8 2)) n! (.string bs))
   clear t0 t1 t2 t3 t4 t5 t6 u0 u1 u2 u3 u4 u5 u6 HX1 HY1 HB1 HBE
   obtain ⟨⟨t0, t1, t2, t3, t4, t5, t6⟩, u0, u1, u2, u3, u4, u5, u6⟩ := x2.seven
   clear x2 hb2
   go_upto_region 7 with (fail)
   generalize (w2.setCell ⟨w.heap.size, 0, none⟩ (.int .u8 2)).setCell ⟨w.heap.size, 4, none⟩ (.string bs) = w3 at HX2 HY2 HB2 ⊢
   clear t0 t1 t2 t3 t4 t5 t6 u0 u1 u2 u3 u4 u5 u6
   obtain ⟨⟨t0, t1, t2, t3, t4, t5, t6⟩, u0, u1, u2, u3, u4, u5, u6⟩ := HX2.out.seven
   go_wp2_with fail
   refine (HM2.out _ HB2.out).mono ?_
   rintro e w9 ⟨rfl, rfl⟩
   clear t0 t1 t2 t3 t4 t5 t6 u0 u1 u2 u3 u4 u5 u6
   rcases h2 : AM.most ms ac with _ | _
   ·
    have E2 := h! h2; clear h2
    have qx := HY2.out.put7 (.int .u8 2) (.int .i64 ba) (.slice A n c) (.string wi) (.string bs) (.slice B m d) (.slice C k f)
    have qb := below_put7 HB2.out (g := w.heap.size + 1) (by omega) (.int .u8 2) (.int .i64 ba) (.slice A n c) (.string wi) (.string bs) (.slice B m d) (.slice C k f)
    obtain ⟨⟨t0, t1, t2, t3, t4, t5, t6⟩, u0, u1, u2, u3, u4, u5, u6⟩ := HX2.out.seven
    obtain ⟨_, v0, v1, v2, v3, v4, v5, v6⟩ := HY2.out.seven
    unfold put7 at qx qb
    have HQX := h! qx
    have HQB := h! qb
    clear qx qb
    go_wp2_with fail
    obtain ⟨⟨d0, d1, d2, d3, d4, d5, d6⟩, _⟩ := HQX.out.seven
    exact bodyPost_ret (v := .agg #[.int .u8 2, .int .i64 ba, .slice A n c, .string wi, .string bs, .slice B m d, .slice C k f]) (by simp [results, Tryz.results112, go_sem, d0, d1, d2, d3, d4, d5, d6]) rfl (OnwIs.mk (by simp [AM.onward, E1.out, E2.out, EB.out]) HQB.out)
   ·
    have E2 := h! h2; clear h2
    have HX9 := h! (HX2.out.set7_0 (.int .u8 3))
    have HY9 := h! (HY2.out.far (p := ⟨w.heap.size, 0, none⟩) (by simp) (.int .u8 3))
    have HB9 := h! (below_put1 (g := w.heap.size) (k := 0) HB2.out n! (.int .u8 3))
    clear HM2
    obtain ⟨⟨x0, x1, x2, x3, x4, x5, x6⟩, y0, y1, y2, y3, y4, y5, y6⟩ := HX2.out.seven
    have qx := HY9.out.put7 (.int .u8 3) (.int .i64 ba) (.slice A n c) (.string wi) (.string bs) (.slice B m d) (.slice C k f)
    have qb := below_put7 HB9.out (g := w.heap.size + 1) (by omega) (.int .u8 3) (.int .i64 ba) (.slice A n c) (.string wi) (.string bs) (.slice B m d) (.slice C k f)
    obtain ⟨⟨t0, t1, t2, t3, t4, t5, t6⟩, u0, u1, u2, u3, u4, u5, u6⟩ := HX9.out.seven
    obtain ⟨_, v0, v1, v2, v3, v4, v5, v6⟩ := HY9.out.seven
    unfold put7 at qx qb
    have HQX := h! qx
    have HQB := h! qb
    clear qx qb
    go_wp2_with fail
    obtain ⟨⟨d0, d1, d2, d3, d4, d5, d6⟩, _⟩ := HQX.out.seven
    exact bodyPost_ret (v := .agg #[.int .u8 3, .int .i64 ba, .slice A n c, .string wi, .string bs, .slice B m d, .slice C k f]) (by simp [results, Tryz.results112, go_sem, d0, d1, d2, d3, d4, d5, d6]) rfl (OnwIs.mk (by simp [AM.onward, E1.out, E2.out, EB.out]) HQB.out)
set_option maxRecDepth 100000 in
set_option maxHeartbeats 4000000 in
theorem onward_2 (a : AM.At) (A : Option Addr) (n c : Nat) (B : Option Addr) (m d : Nat) (C : Option Addr) (k f : Nat) (w : World) (h1 : Rd w A n (ic a.ms)) (h2 : RdP w B m a.ps) (h3 : Rd w C k (ic a.ac)) (hmay : QM.may a.ms = true) (hm : m ≤ 1000) (hk : k ≤ 1000) (p1 : a.ph = 2) :
  Calls Tryz.prog 112 #[.agg #[.int .u8 a.ph, .int .i64 a.ba, .slice A n c, .string a.wi, .string a.va, .slice B m d, .slice C k f]] w (OnwIs A n c B m d C k f (AM.onward a) w) := by
 obtain ⟨ph, ba, ms, wi, va, ps, ac⟩ := a
 simp only at h1 h2 h3 hmay ⊢
 have l1 : ps.length = m := h2.1
 have l2 : ac.length = k := by have := h3.1; rwa [ic_length] at this
 have l3 : ms.length = n := by have := h1.1; rwa [ic_length] at this
 obtain ⟨W0, hW0⟩ : ∃ W0, W0 = (w.alloc (.cells #[.int .u8 ph, .int .i64 ba, .slice A n c, .string wi, .string va, .slice B m d, .slice C k f] 57)).alloc (.cells #[.int .u8 0, .int .i64 0, .slice none 0 0, .string ⟨#[]⟩, .string ⟨#[]⟩, .slice none 0 0, .slice none 0 0] 57) := ⟨_, rfl⟩
 have hb0 : Below w.heap.size w W0 := by rw [hW0]; exact ((Below.refl _ _).alloc n! _).alloc (by simp) _
 have hx0 : Box W0 w.heap.size 57 #[.int .u8 ph, .int .i64 ba, .slice A n c, .string wi, .string va, .slice B m d, .slice C k f] := by rw [hW0]; exact (Box.new _ _ _).alloc _
 have hy0 : Box W0 (w.heap.size + 1) 57 #[.int .u8 0, .int .i64 0, .slice none 0 0, .string ⟨#[]⟩, .string ⟨#[]⟩, .slice none 0 0, .slice none 0 0] := by rw [hW0]; exact Box.new_at _ (by simp)
 have hs0 : W0.heap.size = w.heap.size + 1 + 1 := by rw [hW0]; simp
 have HX0 := h! hx0
 have HY0 := h! hy0
 have HS0 := h! hs0
 have HN := h! (fun (W : World) (hb : Below w.heap.size w W) => nodesOf_any B m d ps W (h2.below hb) (by omega))
 have HM1 := h! (fun (W : World) (hb : Below w.heap.size w W) (D : Option Addr) (q r : Nat) (hd : Rd W D q (ic (AM.nodes ps))) => isMost_any A n c ms D q r (AM.nodes ps) W (h1.below hb) hd hmay (by rw [AM.nodes_length]; omega))
 have HM2 := h! (fun (W : World) (hb : Below w.heap.size w W) => isMost_any A n c ms C k f ac W (h1.below hb) (h3.below hb) hmay (by omega))
 have HBE := h! (fun (W : World) (hb : Below w.heap.size w W) => best_any B m d ps wi W (h2.below hb) (by omega))
 have HB0 := h! hb0
 clear hb0 hx0 hy0 hs0 h1 h2 h3 hmay l1 l2 l3
 simp only at p1
 subst p1
 go_enter Tryz.func112, Tryz.ntmps112
 go_upto_region 7 with (fail)
 rw [← hW0]
 clear hW0
 obtain ⟨⟨t0, t1, t2, t3, t4, t5, t6⟩, u0, u1, u2, u3, u4, u5, u6⟩ := HX0.out.seven
 go_wp2_with fail
 refine (HM2.out _ HB0.out).mono ?_
 rintro e w9 ⟨rfl, rfl⟩
 clear t0 t1 t2 t3 t4 t5 t6 u0 u1 u2 u3 u4 u5 u6
 rcases h2 : AM.most ms ac with _ | _
 ·
  have E2 := h! h2; clear h2
  have qx := HY0.out.put7 (.int .u8 2) (.int .i64 ba) (.slice A n c) (.string wi) (.string va) (.slice B m d) (.slice C k f)
  have qb := below_put7 HB0.out (g := w.heap.size + 1) (by omega) (.int .u8 2) (.int .i64 ba) (.slice A n c) (.string wi) (.string va) (.slice B m d) (.slice C k f)
  obtain ⟨⟨t0, t1, t2, t3, t4, t5, t6⟩, u0, u1, u2, u3, u4, u5, u6⟩ := HX0.out.seven
  obtain ⟨_, v0, v1, v2, v3, v4, v5, v6⟩ := HY0.out.seven
  unfold put7 at qx qb
  have HQX := h! qx
  have HQB := h! qb
  clear qx qb
  go_wp2_with fail
  obtain ⟨⟨d0, d1, d2, d3, d4, d5, d6⟩, _⟩ := HQX.out.seven
  exact bodyPost_ret (v := .agg #[.int .u8 2, .int .i64 ba, .slice A n c, .string wi, .string va, .slice B m d, .slice C k f]) (by simp [results, Tryz.results112, go_sem, d0, d1, d2, d3, d4, d5, d6]) rfl (OnwIs.mk (by simp [AM.onward, E2.out]) HQB.out)
 ·
  have E2 := h! h2; clear h2
  have HX9 := h! (HX0.out.set7_0 (.int .u8 3))
  have HY9 := h! (HY0.out.far (p := ⟨w.heap.size, 0, none⟩) (by simp) (.int .u8 3))
  have HB9 := h! (below_put1 (g := w.heap.size) (k := 0) HB0.out n! (.int .u8 3))
  clear HM2
  obtain ⟨⟨x0, x1, x2, x3, x4, x5, x6⟩, y0, y1, y2, y3, y4, y5, y6⟩ := HX0.out.seven
  have qx := HY9.out.put7 (.int .u8 3) (.int .i64 ba) (.slice A n c) (.string wi) (.string va) (.slice B m d) (.slice C k f)
  have qb := below_put7 HB9.out (g := w.heap.size + 1) (by omega) (.int .u8 3) (.int .i64 ba) (.slice A n c) (.string wi) (.string va) (.slice B m d) (.slice C k f)
  obtain ⟨⟨t0, t1, t2, t3, t4, t5, t6⟩, u0, u1, u2, u3, u4, u5, u6⟩ := HX9.out.seven
  obtain ⟨_, v0, v1, v2, v3, v4, v5, v6⟩ := HY9.out.seven
  unfold put7 at qx qb
  have HQX := h! qx
  have HQB := h! qb
  clear qx qb
  go_wp2_with fail
  obtain ⟨⟨d0, d1, d2, d3, d4, d5, d6⟩, _⟩ := HQX.out.seven
  exact bodyPost_ret (v := .agg #[.int .u8 3, .int .i64 ba, .slice A n c, .string wi, .string va, .slice B m d, .slice C k f]) (by simp [results, Tryz.results112, go_sem, d0, d1, d2, d3, d4, d5, d6]) rfl (OnwIs.mk (by simp [AM.onward, E2.out]) HQB.out)
set_option maxRecDepth 100000 in
set_option maxHeartbeats 4000000 in
theorem onward_3 (a : AM.At) (A : Option Addr) (n c : Nat) (B : Option Addr) (m d : Nat) (C : Option Addr) (k f : Nat) (w : World) (h1 : Rd w A n (ic a.ms)) (h2 : RdP w B m a.ps) (h3 : Rd w C k (ic a.ac)) (hmay : QM.may a.ms = true) (hm : m ≤ 1000) (hk : k ≤ 1000) (p1 : ¬ a.ph = 1) (p2 : ¬ a.ph = 2) :
  Calls Tryz.prog 112 #[.agg #[.int .u8 a.ph, .int .i64 a.ba, .slice A n c, .string a.wi, .string a.va, .slice B m d, .slice C k f]] w (OnwIs A n c B m d C k f (AM.onward a) w) := by
 obtain ⟨ph, ba, ms, wi, va, ps, ac⟩ := a
 simp only at h1 h2 h3 hmay ⊢
 have l1 : ps.length = m := h2.1
 have l2 : ac.length = k := by have := h3.1; rwa [ic_length] at this
 have l3 : ms.length = n := by have := h1.1; rwa [ic_length] at this
 obtain ⟨W0, hW0⟩ : ∃ W0, W0 = (w.alloc (.cells #[.int .u8 ph, .int .i64 ba, .slice A n c, .string wi, .string va, .slice B m d, .slice C k f] 57)).alloc (.cells #[.int .u8 0, .int .i64 0, .slice none 0 0, .string ⟨#[]⟩, .string ⟨#[]⟩, .slice none 0 0, .slice none 0 0] 57) := ⟨_, rfl⟩
 have hb0 : Below w.heap.size w W0 := by rw [hW0]; exact ((Below.refl _ _).alloc n! _).alloc (by simp) _
 have hx0 : Box W0 w.heap.size 57 #[.int .u8 ph, .int .i64 ba, .slice A n c, .string wi, .string va, .slice B m d, .slice C k f] := by rw [hW0]; exact (Box.new _ _ _).alloc _
 have hy0 : Box W0 (w.heap.size + 1) 57 #[.int .u8 0, .int .i64 0, .slice none 0 0, .string ⟨#[]⟩, .string ⟨#[]⟩, .slice none 0 0, .slice none 0 0] := by rw [hW0]; exact Box.new_at _ (by simp)
 have hs0 : W0.heap.size = w.heap.size + 1 + 1 := by rw [hW0]; simp
 have HX0 := h! hx0
 have HY0 := h! hy0
 have HS0 := h! hs0
 have HN := h! (fun (W : World) (hb : Below w.heap.size w W) => nodesOf_any B m d ps W (h2.below hb) (by omega))
 have HM1 := h! (fun (W : World) (hb : Below w.heap.size w W) (D : Option Addr) (q r : Nat) (hd : Rd W D q (ic (AM.nodes ps))) => isMost_any A n c ms D q r (AM.nodes ps) W (h1.below hb) hd hmay (by rw [AM.nodes_length]; omega))
 have HM2 := h! (fun (W : World) (hb : Below w.heap.size w W) => isMost_any A n c ms C k f ac W (h1.below hb) (h3.below hb) hmay (by omega))
 have HBE := h! (fun (W : World) (hb : Below w.heap.size w W) => best_any B m d ps wi W (h2.below hb) (by omega))
 have HB0 := h! hb0
 clear hb0 hx0 hy0 hs0 h1 h2 h3 hmay l1 l2 l3
 simp only at p1 p2
 have q1 : (ph == 1) = false := by simpa using p1
 have q2 : (ph == 2) = false := by simpa using p2
 have HP1 := h! p1
 have HP2 := h! p2
 clear p1 p2
 go_enter Tryz.func112, Tryz.ntmps112
 go_upto_region 9 with (fail)
 rw [← hW0]
 clear hW0
 have qx := HY0.out.put7 (.int .u8 ph) (.int .i64 ba) (.slice A n c) (.string wi) (.string va) (.slice B m d) (.slice C k f)
 have qb := below_put7 HB0.out (g := w.heap.size + 1) (by omega) (.int .u8 ph) (.int .i64 ba) (.slice A n c) (.string wi) (.string va) (.slice B m d) (.slice C k f)
 obtain ⟨⟨t0, t1, t2, t3, t4, t5, t6⟩, u0, u1, u2, u3, u4, u5, u6⟩ := HX0.out.seven
 obtain ⟨_, v0, v1, v2, v3, v4, v5, v6⟩ := HY0.out.seven
 unfold put7 at qx qb
 have HQX := h! qx
 have HQB := h! qb
 clear qx qb
 go_wp2_with fail
 obtain ⟨⟨d0, d1, d2, d3, d4, d5, d6⟩, _⟩ := HQX.out.seven
 exact bodyPost_ret (v := .agg #[.int .u8 ph, .int .i64 ba, .slice A n c, .string wi, .string va, .slice B m d, .slice C k f]) (by simp [results, Tryz.results112, go_sem, d0, d1, d2, d3, d4, d5, d6]) rfl (OnwIs.mk (by simp [AM.onward, HP1.out, HP2.out]) HQB.out)
theorem onward_any (a : AM.At) (A : Option Addr) (n c : Nat) (B : Option Addr) (m d : Nat) (C : Option Addr) (k f : Nat) (w : World) (h1 : Rd w A n (ic a.ms)) (h2 : RdP w B m a.ps) (h3 : Rd w C k (ic a.ac)) (hmay : QM.may a.ms = true) (hm : m ≤ 1000) (hk : k ≤ 1000) :
  Calls Tryz.prog 112 #[.agg #[.int .u8 a.ph, .int .i64 a.ba, .slice A n c, .string a.wi, .string a.va, .slice B m d, .slice C k f]] w (OnwIs A n c B m d C k f (AM.onward a) w) := by
 by_cases p1 : a.ph = 1
 ·exact onward_1 a A n c B m d C k f w h1 h2 h3 hmay hm hk p1
 ·by_cases p2 : a.ph = 2
  ·exact onward_2 a A n c B m d C k f w h1 h2 h3 hmay hm hk p2
  ·exact onward_3 a A n c B m d C k f w h1 h2 h3 hmay hm hk p1 p2
theorem onward_ba (a : AM.At) : (AM.onward a).ba = a.ba := by unfold AM.onward; repeat (first | rfl | split)
theorem onward_wi (a : AM.At) : (AM.onward a).wi = a.wi := by unfold AM.onward; repeat (first | rfl | split)
def OnwLit (A : Option Addr) (n c : Nat) (B : Option Addr) (m d : Nat) (C : Option Addr) (k f : Nat) (x ba : Int) (wi s : ByteArray) (w : World) (e : Ending) (w' : World) : Prop :=
 e = .returned (.agg #[.int .u8 x, .int .i64 ba, .slice A n c, .string wi, .string s, .slice B m d, .slice C k f]) ∧ Below w.heap.size w w'
theorem onward_lit (a : AM.At) (x : Int) (s : ByteArray) (hx : x = (AM.onward a).ph) (hs : s = (AM.onward a).va) (A : Option Addr) (n c : Nat) (B : Option Addr) (m d : Nat) (C : Option Addr) (k f : Nat) (w : World) (h1 : Rd w A n (ic a.ms)) (h2 : RdP w B m a.ps) (h3 : Rd w C k (ic a.ac)) (hmay : QM.may a.ms = true) (hm : m ≤ 1000) (hk : k ≤ 1000) :
  Calls Tryz.prog 112 #[.agg #[.int .u8 a.ph, .int .i64 a.ba, .slice A n c, .string a.wi, .string a.va, .slice B m d, .slice C k f]] w (OnwLit A n c B m d C k f x a.ba a.wi s w) := by
 refine (onward_any a A n c B m d C k f w h1 h2 h3 hmay hm hk).mono ?_
 rintro e w1 ⟨rfl, hb⟩
 rw [onward_ba, onward_wi, ← hx, ← hs]
 exact ⟨rfl, hb⟩
end Go.Proofs.YtiiobafcgdelmaaGreat
