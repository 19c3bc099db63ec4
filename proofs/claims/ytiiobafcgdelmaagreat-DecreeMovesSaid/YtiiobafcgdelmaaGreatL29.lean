/- Contracts of functions of towncrier, layers 5 to 9, and of the document's own ones, part 29; each as its theorem says. -/
import Derived.Test.YtiiobafcgdelmaaGreatL01
import Derived.Test.YtiiobafcgdelmaaGreatL27
import Derived.Test.YtiiobafcgdelmaaGreatL08
import Derived.Test.YtiiobafcgdelmaaGreatL10
set_option linter.unusedVariables false
set_option linter.unusedSimpArgs false
namespace Go.Proofs.YtiiobafcgdelmaaGreat
open Go.RowKit
theorem may_bool {b : Bool} {W : World} {f : FuncId} {l : Array Value} (h : Calls Tryz.prog f l W (MayPost b W)) : Calls Tryz.prog f l W (BoolIs b W) :=
 h.mono fun e w' ⟨h1, q, h2⟩ => ⟨h1, by rw [h2]; exact below_drewN (Below.refl _ _) q⟩
set_option maxRecDepth 100000 in
set_option maxHeartbeats 4000000 in
theorem rmay_4 (ph ba : Int) (ms : List Int) (wi va : ByteArray) (ps : List AM.Pr) (ac : List Int) (A : Option Addr) (n c : Nat) (B : Option Addr) (m d : Nat) (C : Option Addr) (k f : Nat) (w : World) (h1 : Rd w A n (ic ms)) (h2 : RdP w B m ps) (h3 : Rd w C k (ic ac)) (F : Fit ⟨ph, ba, ms, wi, va, ps, ac⟩) (hp : ¬ ph = 0) (p3 : ph ≤ 3) (hg : BM.good ba) (hm : QM.may ms = true) (hw : 1024 < wi.size) :
  Calls Tryz.prog 42 #[.agg #[.int .u8 ph, .int .i64 ba, .slice A n c, .string wi, .string va, .slice B m d, .slice C k f]] w (BoolIs false w) := by
 obtain ⟨f1, f2, f3⟩ := AtIs.fit_n (a := ⟨ph, ba, ms, wi, va, ps, ac⟩) h1 h2 h3 F
 have l1 : ms.length = n := by have := h1.1; rwa [ic_length] at this
 have l2 : ps.length = m := h2.1
 have l3 : ac.length = k := by have := h3.1; rwa [ic_length] at this
 obtain ⟨W0, hW0⟩ : ∃ W0, W0 = w.alloc (.cells #[.int .u8 ph, .int .i64 ba, .slice A n c, .string wi, .string va, .slice B m d, .slice C k f] 57) := ⟨_, rfl⟩
 have hb0 : Below w.heap.size w W0 := by rw [hW0]; exact (Below.refl _ _).alloc n! _
 have X0 := h! (show Box W0 w.heap.size 57 #[.int .u8 ph, .int .i64 ba, .slice A n c, .string wi, .string va, .slice B m d, .slice C k f] by rw [hW0]; exact Box.new _ _ _)
 have B0 := h! hb0
 have q0 : (ph == 0) = false := by simpa using hp
 have q3 : decide (3 < ph) = false := by simp; omega
 have HB := h! (fun W => rMay_yes ba W hg)
 have HM : Hid (∀ W, Below w.heap.size w W → Calls Tryz.prog 40 #[.slice A n c] W (BoolIs true W)) := h! fun W hb => by have := may_bool (rMay_any A n c ms W (h1.below hb) (by omega)); rwa [hm] at this
 have hwl : wi.size ≤ 9223372036854775807 := by have := F.wi; simp only [maxLen] at this; omega
 have q4 : decide ((1024 : Int) < (wi.size : Int)) = true := by simp; omega
 have q5 : decide (1024 < wi.size) = true := by simp; omega
 clear p3 hb0 h1 h2 h3 F l1 l2 l3 hp hg hm hw
 go_enter Tryz.func42, Tryz.ntmps42
 go_upto_region 1 with (fail)
 rw [← hW0]
 clear hW0
 obtain ⟨⟨s0, s1, s2, s3, s4, s5, s6⟩, _⟩ := X0.out.seven
 go_upto_region 3 with (fail)
 clear s0 s1 s2 s3 s4 s5 s6
 go_cut [76] (fun u wx => LateMid W0 true u wx)
 case first =>
  have hS : ∀ w', Below W0.heap.size W0 w' → w'.cell? ⟨w.heap.size, 0, none⟩ = some (.int .u8 ph) ∧ w'.cell? ⟨w.heap.size, 1, none⟩ = some (.int .i64 ba) ∧ w'.cell? ⟨w.heap.size, 2, none⟩ = some (.slice A n c) ∧ w'.cell? ⟨w.heap.size, 3, none⟩ = some (.string wi) ∧ w'.cell? ⟨w.heap.size, 4, none⟩ = some (.string va) ∧ w'.cell? ⟨w.heap.size, 5, none⟩ = some (.slice B m d) ∧ w'.cell? ⟨w.heap.size, 6, none⟩ = some (.slice C k f) := fun w' h => ⟨(X0.out.below h X0.out.lt).cell 0, (X0.out.below h X0.out.lt).cell 1, (X0.out.below h X0.out.lt).cell 2, (X0.out.below h X0.out.lt).cell 3, (X0.out.below h X0.out.lt).cell 4, (X0.out.below h X0.out.lt).cell 5, (X0.out.below h X0.out.lt).cell 6⟩
  have HSS := h! hS; clear hS
  have bb1 : Below W0.heap.size W0 W0.drew := (Below.refl _ _).drew
  refine wp_region_held_drew (S := fun w' => w'.cell? ⟨w.heap.size, 0, none⟩ = some (.int .u8 ph) ∧ w'.cell? ⟨w.heap.size, 1, none⟩ = some (.int .i64 ba) ∧ w'.cell? ⟨w.heap.size, 2, none⟩ = some (.slice A n c) ∧ w'.cell? ⟨w.heap.size, 3, none⟩ = some (.string wi) ∧ w'.cell? ⟨w.heap.size, 4, none⟩ = some (.string va) ∧ w'.cell? ⟨w.heap.size, 5, none⟩ = some (.slice B m d) ∧ w'.cell? ⟨w.heap.size, 6, none⟩ = some (.slice C k f)) (by kernel_rfl) (HSS.out _ bb1) (fun hHeld => ?_)
  refine qT 0 ?_
  try simp only [Act.put, qq]
  refine qT 1 ?_
  try simp only [Act.put, qq]
  refine qT 2 ?_
  try simp only [Act.put, qq]
  refine qT 3 ?_
  try simp only [Act.put, qq]
  refine qT 4 ?_
  try simp only [Act.put, qq]
  refine qT 5 ?_
  try simp only [Act.put, qq]
  refine qR 6 fun K hK => ?_
  go_simp
  refine (HB.out _).mono ?_
  rintro e wa1 ⟨rfl, rfl⟩
  refine hK.out _ _ (HSS.out _ bb1) (fun hHeld => ?_)
  clear hK
  try simp only [Act.put, qq]
  refine qT 7 ?_
  try simp only [Act.put, qq]
  refine qT 8 ?_
  try simp only [Act.put, qq]
  refine qT 9 ?_
  try simp only [Act.put, qq]
  refine qT 10 ?_
  try simp only [Act.put, qq]
  refine qT 11 ?_
  try simp only [Act.put, qq]
  refine qR 12 fun K hK => ?_
  go_simp
  refine (HM.out _ (bmore B0.out bb1 n!)).mono ?_
  rintro e wa2 ⟨rfl, ha2⟩
  have bb2 : Below W0.heap.size W0 wa2 := bmore bb1 ha2 n!
  refine hK.out _ _ (HSS.out _ bb2) (fun hHeld => ?_)
  clear hK
  try simp only [Act.put, qq]
  refine qT 13 ?_
  try simp only [Act.put, qq]
  refine qT 14 ?_
  try simp only [Act.put, qq]
  refine qT 15 ?_
  try simp only [Act.put, qq]
  refine qT 16 ?_
  try simp only [Act.put, qq]
  refine qT 17 ?_
  try simp only [Act.put, qq]
  refine qT 18 ?_
  try simp only [Act.put, qq]
  refine qT 19 ?_
  try simp only [Act.put, qq]
  refine qT 20 ?_
  try simp only [Act.put, qq]
  refine qT 21 ?_
  try simp only [Act.put, qq]
  refine qS 22 ?_
  try simp only [Act.put, qq]
  refine qS 23 ?_
  try simp only [Act.put, qq]
  refine qS 24 ?_
  try simp only [Act.put, qq]
  refine qS 25 ?_
  try simp only [Act.put, qq]
  refine qS 26 ?_
  try simp only [Act.put, qq]
  refine qS 27 ?_
  try simp only [Act.put, qq]
  refine qS 28 ?_
  try simp only [Act.put, qq]
  refine qT 29 ?_
  try simp only [Act.put, qq]
  refine qT 30 ?_
  try simp only [Act.put, qq]
  refine qS 31 ?_
  try simp only [Act.put, qq]
  refine qS 32 ?_
  try simp only [Act.put, qq]
  refine qS 33 ?_
  try simp only [Act.put, qq]
  refine qS 34 ?_
  try simp only [Act.put, qq]
  refine qS 35 ?_
  try simp only [Act.put, qq]
  refine qS 36 ?_
  try simp only [Act.put, qq]
  refine qT 37 ?_
  try simp only [Act.put, qq]
  refine wpAnyH_done (by kernel_rfl) ?_ _
  go_wp2_with fail
  go_meet
  case rel => exact ⟨rfl, bb2⟩
 case rest =>
  obtain ⟨rfl, hmb⟩ := hcut
  have BM := h! (bmore B0.out hmb n!)
  clear hmb
  go_wp2_with fail
  go_ret
  exact bool_ret rfl BM.out
set_option maxRecDepth 100000 in
set_option maxHeartbeats 4000000 in
theorem rmay_5 (ph ba : Int) (ms : List Int) (wi va : ByteArray) (ps : List AM.Pr) (ac : List Int) (A : Option Addr) (n c : Nat) (B : Option Addr) (m d : Nat) (C : Option Addr) (k f : Nat) (w : World) (h1 : Rd w A n (ic ms)) (h2 : RdP w B m ps) (h3 : Rd w C k (ic ac)) (F : Fit ⟨ph, ba, ms, wi, va, ps, ac⟩) (hp : ¬ ph = 0) (p3 : ph ≤ 3) (hg : BM.good ba) (hm : QM.may ms = true) (hw : wi.size ≤ 1024) (hs1 : (AM.adj (AM.nodes ps) && QM.within (AM.nodes ps) ms) = false) :
  Calls Tryz.prog 42 #[.agg #[.int .u8 ph, .int .i64 ba, .slice A n c, .string wi, .string va, .slice B m d, .slice C k f]] w (BoolIs false w) := by
 obtain ⟨f1, f2, f3⟩ := AtIs.fit_n (a := ⟨ph, ba, ms, wi, va, ps, ac⟩) h1 h2 h3 F
 have l1 : ms.length = n := by have := h1.1; rwa [ic_length] at this
 have l2 : ps.length = m := h2.1
 have l3 : ac.length = k := by have := h3.1; rwa [ic_length] at this
 obtain ⟨W0, hW0⟩ : ∃ W0, W0 = w.alloc (.cells #[.int .u8 ph, .int .i64 ba, .slice A n c, .string wi, .string va, .slice B m d, .slice C k f] 57) := ⟨_, rfl⟩
 have hb0 : Below w.heap.size w W0 := by rw [hW0]; exact (Below.refl _ _).alloc n! _
 have X0 := h! (show Box W0 w.heap.size 57 #[.int .u8 ph, .int .i64 ba, .slice A n c, .string wi, .string va, .slice B m d, .slice C k f] by rw [hW0]; exact Box.new _ _ _)
 have B0 := h! hb0
 have q0 : (ph == 0) = false := by simpa using hp
 have q3 : decide (3 < ph) = false := by simp; omega
 have HB := h! (fun W => rMay_yes ba W hg)
 have HM : Hid (∀ W, Below w.heap.size w W → Calls Tryz.prog 40 #[.slice A n c] W (BoolIs true W)) := h! fun W hb => by have := may_bool (rMay_any A n c ms W (h1.below hb) (by omega)); rwa [hm] at this
 have hwl : wi.size ≤ 9223372036854775807 := by have := F.wi; simp only [maxLen] at this; omega
 have q4 : decide ((1024 : Int) < (wi.size : Int)) = false := by simp; omega
 have q5 : decide (1024 < wi.size) = false := by simp; omega
 have HN := h! (fun (W : World) (hb : Below w.heap.size w W) => rnodes_any B m d ps W (h2.below hb) f2)
 have HR1 : Hid (∀ W, Below w.heap.size w W → ∀ (D : Option Addr) (r : Nat), Rd W D m (ic (AM.nodes ps)) → Calls Tryz.prog 69 #[.slice D m r, .slice A n c] W (BoolIs false W)) := h! fun W hb D r hd => by have := may_bool (rising_any D m r (AM.nodes ps) A n c ms W hd (h1.below hb) f2 f1); rwa [hs1] at this
 clear p3 hb0 h1 h2 h3 F l1 l2 l3 hp hg hm hw hs1
 go_enter Tryz.func42, Tryz.ntmps42
 go_upto_region 1 with (fail)
 rw [← hW0]
 clear hW0
 obtain ⟨⟨s0, s1, s2, s3, s4, s5, s6⟩, _⟩ := X0.out.seven
 go_upto_region 3 with (fail)
 clear s0 s1 s2 s3 s4 s5 s6
 go_cut [76] (fun u wx => LateMid W0 true u wx)
 case first =>
  have hS : ∀ w', Below W0.heap.size W0 w' → w'.cell? ⟨w.heap.size, 0, none⟩ = some (.int .u8 ph) ∧ w'.cell? ⟨w.heap.size, 1, none⟩ = some (.int .i64 ba) ∧ w'.cell? ⟨w.heap.size, 2, none⟩ = some (.slice A n c) ∧ w'.cell? ⟨w.heap.size, 3, none⟩ = some (.string wi) ∧ w'.cell? ⟨w.heap.size, 4, none⟩ = some (.string va) ∧ w'.cell? ⟨w.heap.size, 5, none⟩ = some (.slice B m d) ∧ w'.cell? ⟨w.heap.size, 6, none⟩ = some (.slice C k f) := fun w' h => ⟨(X0.out.below h X0.out.lt).cell 0, (X0.out.below h X0.out.lt).cell 1, (X0.out.below h X0.out.lt).cell 2, (X0.out.below h X0.out.lt).cell 3, (X0.out.below h X0.out.lt).cell 4, (X0.out.below h X0.out.lt).cell 5, (X0.out.below h X0.out.lt).cell 6⟩
  have HSS := h! hS; clear hS
  have bb1 : Below W0.heap.size W0 W0.drew := (Below.refl _ _).drew
  refine wp_region_held_drew (S := fun w' => w'.cell? ⟨w.heap.size, 0, none⟩ = some (.int .u8 ph) ∧ w'.cell? ⟨w.heap.size, 1, none⟩ = some (.int .i64 ba) ∧ w'.cell? ⟨w.heap.size, 2, none⟩ = some (.slice A n c) ∧ w'.cell? ⟨w.heap.size, 3, none⟩ = some (.string wi) ∧ w'.cell? ⟨w.heap.size, 4, none⟩ = some (.string va) ∧ w'.cell? ⟨w.heap.size, 5, none⟩ = some (.slice B m d) ∧ w'.cell? ⟨w.heap.size, 6, none⟩ = some (.slice C k f)) (by kernel_rfl) (HSS.out _ bb1) (fun hHeld => ?_)
  refine qT 0 ?_
  try simp only [Act.put, qq]
  refine qT 1 ?_
  try simp only [Act.put, qq]
  refine qT 2 ?_
  try simp only [Act.put, qq]
  refine qT 3 ?_
  try simp only [Act.put, qq]
  refine qT 4 ?_
  try simp only [Act.put, qq]
  refine qT 5 ?_
  try simp only [Act.put, qq]
  refine qR 6 fun K hK => ?_
  go_simp
  refine (HB.out _).mono ?_
  rintro e wa1 ⟨rfl, rfl⟩
  refine hK.out _ _ (HSS.out _ bb1) (fun hHeld => ?_)
  clear hK
  try simp only [Act.put, qq]
  refine qT 7 ?_
  try simp only [Act.put, qq]
  refine qT 8 ?_
  try simp only [Act.put, qq]
  refine qT 9 ?_
  try simp only [Act.put, qq]
  refine qT 10 ?_
  try simp only [Act.put, qq]
  refine qT 11 ?_
  try simp only [Act.put, qq]
  refine qR 12 fun K hK => ?_
  go_simp
  refine (HM.out _ (bmore B0.out bb1 n!)).mono ?_
  rintro e wa2 ⟨rfl, ha2⟩
  have bb2 : Below W0.heap.size W0 wa2 := bmore bb1 ha2 n!
  refine hK.out _ _ (HSS.out _ bb2) (fun hHeld => ?_)
  clear hK
  try simp only [Act.put, qq]
  refine qT 13 ?_
  try simp only [Act.put, qq]
  refine qT 14 ?_
  try simp only [Act.put, qq]
  refine qT 15 ?_
  try simp only [Act.put, qq]
  refine qT 16 ?_
  try simp only [Act.put, qq]
  refine qT 17 ?_
  try simp only [Act.put, qq]
  refine qT 18 ?_
  try simp only [Act.put, qq]
  refine qT 19 ?_
  try simp only [Act.put, qq]
  refine qT 20 ?_
  try simp only [Act.put, qq]
  refine qT 21 ?_
  try simp only [Act.put, qq]
  refine qT 22 ?_
  try simp only [Act.put, qq]
  refine qT 23 ?_
  try simp only [Act.put, qq]
  refine qT 25 ?_
  try simp only [Act.put, qq]
  refine qT 26 ?_
  try simp only [Act.put, qq]
  refine qR 24 fun K hK => ?_
  go_simp
  refine (HN.out _ (bmore B0.out bb2 n!)).mono ?_
  rintro e wb ⟨A', c', rfl, ho, hb⟩
  have bb3 : Below W0.heap.size W0 wb := bmore bb2 hb n!
  have hrd := Rd.of_own ho
  refine hK.out _ _ (HSS.out _ bb3) (fun hHeld => ?_)
  clear hK
  try simp only [Act.put, qq]
  refine qR 27 fun K hK => ?_
  go_simp
  refine (HR1.out _ (bmore B0.out bb3 n!) _ _ hrd).mono ?_
  rintro e wc' ⟨rfl, hc'⟩
  have bb4 : Below W0.heap.size W0 wc' := bmore bb3 hc' n!
  refine hK.out _ _ (HSS.out _ bb4) (fun hHeld => ?_)
  clear hK
  try simp only [Act.put, qq]
  refine qT 28 ?_
  try simp only [Act.put, qq]
  refine qT 29 ?_
  try simp only [Act.put, qq]
  refine qT 30 ?_
  try simp only [Act.put, qq]
  refine qS 31 ?_
  try simp only [Act.put, qq]
  refine qS 32 ?_
  try simp only [Act.put, qq]
  refine qS 33 ?_
  try simp only [Act.put, qq]
  refine qS 34 ?_
  try simp only [Act.put, qq]
  refine qS 35 ?_
  try simp only [Act.put, qq]
  refine qS 36 ?_
  try simp only [Act.put, qq]
  refine qT 37 ?_
  try simp only [Act.put, qq]
  refine wpAnyH_done (by kernel_rfl) ?_ _
  go_wp2_with fail
  go_meet
  case rel => exact ⟨rfl, bb4⟩
 case rest =>
  obtain ⟨rfl, hmb⟩ := hcut
  have BM := h! (bmore B0.out hmb n!)
  clear hmb
  go_wp2_with fail
  go_ret
  exact bool_ret rfl BM.out
set_option maxRecDepth 100000 in
set_option maxHeartbeats 4000000 in
theorem rmay_6 (ph ba : Int) (ms : List Int) (wi va : ByteArray) (ps : List AM.Pr) (ac : List Int) (A : Option Addr) (n c : Nat) (B : Option Addr) (m d : Nat) (C : Option Addr) (k f : Nat) (w : World) (h1 : Rd w A n (ic ms)) (h2 : RdP w B m ps) (h3 : Rd w C k (ic ac)) (F : Fit ⟨ph, ba, ms, wi, va, ps, ac⟩) (hp : ¬ ph = 0) (p3 : ph ≤ 3) (hg : BM.good ba) (hm : QM.may ms = true) (hw : wi.size ≤ 1024) (hs1 : (AM.adj (AM.nodes ps) && QM.within (AM.nodes ps) ms) = true) (hs2 : (AM.adj ac && QM.within ac ms) = false) :
  Calls Tryz.prog 42 #[.agg #[.int .u8 ph, .int .i64 ba, .slice A n c, .string wi, .string va, .slice B m d, .slice C k f]] w (BoolIs false w) := by
 obtain ⟨f1, f2, f3⟩ := AtIs.fit_n (a := ⟨ph, ba, ms, wi, va, ps, ac⟩) h1 h2 h3 F
 have l1 : ms.length = n := by have := h1.1; rwa [ic_length] at this
 have l2 : ps.length = m := h2.1
 have l3 : ac.length = k := by have := h3.1; rwa [ic_length] at this
 obtain ⟨W0, hW0⟩ : ∃ W0, W0 = w.alloc (.cells #[.int .u8 ph, .int .i64 ba, .slice A n c, .string wi, .string va, .slice B m d, .slice C k f] 57) := ⟨_, rfl⟩
 have hb0 : Below w.heap.size w W0 := by rw [hW0]; exact (Below.refl _ _).alloc n! _
 have X0 := h! (show Box W0 w.heap.size 57 #[.int .u8 ph, .int .i64 ba, .slice A n c, .string wi, .string va, .slice B m d, .slice C k f] by rw [hW0]; exact Box.new _ _ _)
 have B0 := h! hb0
 have q0 : (ph == 0) = false := by simpa using hp
 have q3 : decide (3 < ph) = false := by simp; omega
 have HB := h! (fun W => rMay_yes ba W hg)
 have HM : Hid (∀ W, Below w.heap.size w W → Calls Tryz.prog 40 #[.slice A n c] W (BoolIs true W)) := h! fun W hb => by have := may_bool (rMay_any A n c ms W (h1.below hb) (by omega)); rwa [hm] at this
 have hwl : wi.size ≤ 9223372036854775807 := by have := F.wi; simp only [maxLen] at this; omega
 have q4 : decide ((1024 : Int) < (wi.size : Int)) = false := by simp; omega
 have q5 : decide (1024 < wi.size) = false := by simp; omega
 have HN := h! (fun (W : World) (hb : Below w.heap.size w W) => rnodes_any B m d ps W (h2.below hb) f2)
 have HR1 : Hid (∀ W, Below w.heap.size w W → ∀ (D : Option Addr) (r : Nat), Rd W D m (ic (AM.nodes ps)) → Calls Tryz.prog 69 #[.slice D m r, .slice A n c] W (BoolIs true W)) := h! fun W hb D r hd => by have := may_bool (rising_any D m r (AM.nodes ps) A n c ms W hd (h1.below hb) f2 f1); rwa [hs1] at this
 have HR2 : Hid (∀ W, Below w.heap.size w W → Calls Tryz.prog 69 #[.slice C k f, .slice A n c] W (BoolIs false W)) := h! fun W hb => by have := may_bool (rising_any C k f ac A n c ms W (h3.below hb) (h1.below hb) f3 f1); rwa [hs2] at this
 clear p3 hb0 h1 h2 h3 F l1 l2 l3 hp hg hm hw hs1 hs2
 go_enter Tryz.func42, Tryz.ntmps42
 go_upto_region 1 with (fail)
 rw [← hW0]
 clear hW0
 obtain ⟨⟨s0, s1, s2, s3, s4, s5, s6⟩, _⟩ := X0.out.seven
 go_upto_region 3 with (fail)
 clear s0 s1 s2 s3 s4 s5 s6
 go_cut [76] (fun u wx => LateMid W0 true u wx)
 case first =>
  have hS : ∀ w', Below W0.heap.size W0 w' → w'.cell? ⟨w.heap.size, 0, none⟩ = some (.int .u8 ph) ∧ w'.cell? ⟨w.heap.size, 1, none⟩ = some (.int .i64 ba) ∧ w'.cell? ⟨w.heap.size, 2, none⟩ = some (.slice A n c) ∧ w'.cell? ⟨w.heap.size, 3, none⟩ = some (.string wi) ∧ w'.cell? ⟨w.heap.size, 4, none⟩ = some (.string va) ∧ w'.cell? ⟨w.heap.size, 5, none⟩ = some (.slice B m d) ∧ w'.cell? ⟨w.heap.size, 6, none⟩ = some (.slice C k f) := fun w' h => ⟨(X0.out.below h X0.out.lt).cell 0, (X0.out.below h X0.out.lt).cell 1, (X0.out.below h X0.out.lt).cell 2, (X0.out.below h X0.out.lt).cell 3, (X0.out.below h X0.out.lt).cell 4, (X0.out.below h X0.out.lt).cell 5, (X0.out.below h X0.out.lt).cell 6⟩
  have HSS := h! hS; clear hS
  have bb1 : Below W0.heap.size W0 W0.drew := (Below.refl _ _).drew
  refine wp_region_held_drew (S := fun w' => w'.cell? ⟨w.heap.size, 0, none⟩ = some (.int .u8 ph) ∧ w'.cell? ⟨w.heap.size, 1, none⟩ = some (.int .i64 ba) ∧ w'.cell? ⟨w.heap.size, 2, none⟩ = some (.slice A n c) ∧ w'.cell? ⟨w.heap.size, 3, none⟩ = some (.string wi) ∧ w'.cell? ⟨w.heap.size, 4, none⟩ = some (.string va) ∧ w'.cell? ⟨w.heap.size, 5, none⟩ = some (.slice B m d) ∧ w'.cell? ⟨w.heap.size, 6, none⟩ = some (.slice C k f)) (by kernel_rfl) (HSS.out _ bb1) (fun hHeld => ?_)
  refine qT 0 ?_
  try simp only [Act.put, qq]
  refine qT 1 ?_
  try simp only [Act.put, qq]
  refine qT 2 ?_
  try simp only [Act.put, qq]
  refine qT 3 ?_
  try simp only [Act.put, qq]
  refine qT 4 ?_
  try simp only [Act.put, qq]
  refine qT 5 ?_
  try simp only [Act.put, qq]
  refine qR 6 fun K hK => ?_
  go_simp
  refine (HB.out _).mono ?_
  rintro e wa1 ⟨rfl, rfl⟩
  refine hK.out _ _ (HSS.out _ bb1) (fun hHeld => ?_)
  clear hK
  try simp only [Act.put, qq]
  refine qT 7 ?_
  try simp only [Act.put, qq]
  refine qT 8 ?_
  try simp only [Act.put, qq]
  refine qT 9 ?_
  try simp only [Act.put, qq]
  refine qT 10 ?_
  try simp only [Act.put, qq]
  refine qT 11 ?_
  try simp only [Act.put, qq]
  refine qR 12 fun K hK => ?_
  go_simp
  refine (HM.out _ (bmore B0.out bb1 n!)).mono ?_
  rintro e wa2 ⟨rfl, ha2⟩
  have bb2 : Below W0.heap.size W0 wa2 := bmore bb1 ha2 n!
  refine hK.out _ _ (HSS.out _ bb2) (fun hHeld => ?_)
  clear hK
  try simp only [Act.put, qq]
  refine qT 13 ?_
  try simp only [Act.put, qq]
  refine qT 14 ?_
  try simp only [Act.put, qq]
  refine qT 15 ?_
  try simp only [Act.put, qq]
  refine qT 16 ?_
  try simp only [Act.put, qq]
  refine qT 17 ?_
  try simp only [Act.put, qq]
  refine qT 18 ?_
  try simp only [Act.put, qq]
  refine qT 19 ?_
  try simp only [Act.put, qq]
  refine qT 20 ?_
  try simp only [Act.put, qq]
  refine qT 21 ?_
  try simp only [Act.put, qq]
  refine qT 22 ?_
  try simp only [Act.put, qq]
  refine qT 23 ?_
  try simp only [Act.put, qq]
  refine qT 25 ?_
  try simp only [Act.put, qq]
  refine qT 26 ?_
  try simp only [Act.put, qq]
  refine qR 24 fun K hK => ?_
  go_simp
  refine (HN.out _ (bmore B0.out bb2 n!)).mono ?_
  rintro e wb ⟨A', c', rfl, ho, hb⟩
  have bb3 : Below W0.heap.size W0 wb := bmore bb2 hb n!
  have hrd := Rd.of_own ho
  refine hK.out _ _ (HSS.out _ bb3) (fun hHeld => ?_)
  clear hK
  try simp only [Act.put, qq]
  refine qR 27 fun K hK => ?_
  go_simp
  refine (HR1.out _ (bmore B0.out bb3 n!) _ _ hrd).mono ?_
  rintro e wc' ⟨rfl, hc'⟩
  have bb4 : Below W0.heap.size W0 wc' := bmore bb3 hc' n!
  refine hK.out _ _ (HSS.out _ bb4) (fun hHeld => ?_)
  clear hK
  try simp only [Act.put, qq]
  refine qT 28 ?_
  try simp only [Act.put, qq]
  refine qT 29 ?_
  try simp only [Act.put, qq]
  refine qT 30 ?_
  try simp only [Act.put, qq]
  refine qT 31 ?_
  try simp only [Act.put, qq]
  refine qT 32 ?_
  try simp only [Act.put, qq]
  refine qT 33 ?_
  try simp only [Act.put, qq]
  refine qT 34 ?_
  try simp only [Act.put, qq]
  refine qR 35 fun K hK => ?_
  go_simp
  refine (HR2.out _ (bmore B0.out bb4 n!)).mono ?_
  rintro e wd ⟨rfl, hd⟩
  have bb5 : Below W0.heap.size W0 wd := bmore bb4 hd n!
  refine hK.out _ _ (HSS.out _ bb5) (fun hHeld => ?_)
  clear hK
  try simp only [Act.put, qq]
  refine qT 36 ?_
  try simp only [Act.put, qq]
  refine qT 37 ?_
  try simp only [Act.put, qq]
  refine wpAnyH_done (by kernel_rfl) ?_ _
  go_wp2_with fail
  go_meet
  case rel => exact ⟨rfl, bb5⟩
 case rest =>
  obtain ⟨rfl, hmb⟩ := hcut
  have BM := h! (bmore B0.out hmb n!)
  clear hmb
  go_wp2_with fail
  go_ret
  exact bool_ret rfl BM.out
end Go.Proofs.YtiiobafcgdelmaaGreat
