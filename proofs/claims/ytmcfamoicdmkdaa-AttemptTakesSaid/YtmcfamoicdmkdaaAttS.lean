/-
  What slices.Equal, the document's SameInts and package attempt's Same answer, of any two. Conditions: as each theorem says.
-/
import Derived.Test.YtmcfamoicdmkdaaAttB
import Derived.Deep.QuietTactic
import Derived.BigQuiet
namespace Go.Proofs.Ytmcfamoicdmkdaa
open Go.RowKit
set_option linter.unusedVariables false

/-- a bool, and only draws -/
def BoolQ (b : Bool) (w : World) (e : Ending) (w' : World) : Prop := e = .returned (.bool b) ∧ ∃ q, w' = w.drewN q
theorem take_snoc_eq {α : Type} {xs ys : List α} {k : Nat} {a b : α} (h : xs.take k = ys.take k) (h1 : xs[k]? = some a) (h2 : ys[k]? = some b) (e : a = b) : xs.take (k + 1) = ys.take (k + 1) := by
  have g1 := List.getElem?_eq_some_iff.1 h1
  have g2 := List.getElem?_eq_some_iff.1 h2
  obtain ⟨l1, g1⟩ := g1
  obtain ⟨l2, g2⟩ := g2
  rw [List.take_succ_eq_append_getElem l1, List.take_succ_eq_append_getElem l2, h, g1, g2, e]
theorem ne_of_at {α : Type} {xs ys : List α} {k : Nat} {a b : α} (h1 : xs[k]? = some a) (h2 : ys[k]? = some b) (e : a ≠ b) : xs ≠ ys := fun h => e (by rw [h, h2] at h1; injection h1 with h1; exact h1.symm)
theorem ic_at {zs : List Int} {k : Nat} {u : Value} (h : (ic zs)[k]? = some u) : ∃ z, zs[k]? = some z ∧ u = .int .i64 z := by
  simp only [ic, List.getElem?_map, Option.map_eq_some_iff] at h
  obtain ⟨z, h1, h2⟩ := h
  exact ⟨z, h1, h2.symm⟩

set_option maxHeartbeats 1000000 in
theorem equalI_any (A : Option Addr) (n c : Nat) (xs : List Int) (B : Option Addr) (m d : Nat) (ys : List Int) (w : World) (h1 : Rd w A n (ic xs)) (h2 : Rd w B m (ic ys)) (hm : n ≤ 9223372036854775807) (hm2 : m ≤ 9223372036854775807) :
    Calls Try.prog 50 #[.slice A n c, .slice B m d] w (BoolQ (decide (xs = ys)) w) := by
  have l1 : xs.length = n := by have := h1.1; rwa [ic_length] at this
  have l2 : ys.length = m := by have := h2.1; rwa [ic_length] at this
  obtain ⟨r, hr⟩ : ∃ r, r = decide (xs = ys) := ⟨_, rfl⟩
  rw [← hr]
  have HR := Lib.hid hr; clear hr
  by_cases hnm : n = m
  · subst hnm
    have HL1 := Lib.hid l1
    have HL2 := Lib.hid l2
    clear l1 l2
    have hne : ((n : Int) != (n : Int)) = false := by simp
    have HS := Lib.hid (show xs.take 0 = ys.take 0 by simp)
    go_enter Try.func50, Try.ntmps50
    go_wp2
    go_loopw [13] (fun i wr => ∃ k q : Nat, k ≤ n ∧ i = .int .i64 k ∧ wr = w.drewN q ∧ Hid (xs.take k = ys.take k)) (fun i _ => n - (intOf i).toNat)
    case atStart => exact ⟨0, 0, by omega, rfl, rfl, HS⟩
    case round =>
      clear HS
      obtain ⟨k, q, hk, rfl, rfl, HT⟩ := hrel
      by_cases hlt : k < n
      · obtain ⟨ad1, u1, rfl, _, hu1, hcell1⟩ := h1.at_ hlt
        obtain ⟨ad2, u2, rfl, _, hu2, hcell2⟩ := h2.at_ hlt
        obtain ⟨z1, e1, rfl⟩ := ic_at hu1
        obtain ⟨z2, e2, rfl⟩ := ic_at hu2
        have hk0 : (0 : Int) ≤ (k : Int) := by omega
        have hkn : (k : Int) < (n : Int) := by omega
        clear hu1 hu2
        by_cases he : z1 = z2
        · subst he
          have HT2 := Lib.hid (take_snoc_eq HT.out e1 e2 rfl)
          clear e1 e2 HT
          have hbz : (z1 != z1) = false := by simp
          go_wp2_with fail
          go_quiet (fail)
          go_wp2_with fail
          go_roundw
          case rel => exact ⟨k + 1, q + nq, by omega, by go_num, by simp, HT2⟩
          case measure => simp [intOf]; omega
        · have HN := Lib.hid (ne_of_at e1 e2 he)
          have hbz : (z1 != z2) = true := by simpa using he
          clear e1 e2 HT he
          go_wp2_with fail
          go_quiet (fail)
          go_wp2_with fail
          go_ret
          exact ⟨by rw [HR.out]; simp [HN.out], q + nq, by simp⟩
      · obtain rfl : n = k := by omega
        have ht : xs = ys := by
          have := HT.out
          rwa [List.take_of_length_le (by have := HL1.out; omega), List.take_of_length_le (by have := HL2.out; omega)] at this
        have HE := Lib.hid ht; clear ht HT
        go_wp2
        go_ret
        exact ⟨by rw [HR.out]; simp [HE.out], q, rfl⟩
  · have hne : ((n : Int) != (m : Int)) = true := by simp; omega
    have hn : ¬ xs = ys := fun e => hnm (by rw [← l1, ← l2, e])
    have hf : r = false := by rw [HR.out]; simpa using hn
    have HF := Lib.hid hf
    clear hn hf
    clear l1 l2 h1 h2
    go_enter Try.func50, Try.ntmps50
    go_wp2
    go_ret
    exact ⟨by rw [HF.out]; rfl, 0, rfl⟩

set_option maxHeartbeats 1000000 in
theorem sameInts_any (A : Option Addr) (n c : Nat) (xs : List Int) (B : Option Addr) (m d : Nat) (ys : List Int) (w : World) (h1 : Rd w A n (ic xs)) (h2 : Rd w B m (ic ys)) (hm : n ≤ 9223372036854775807) (hm2 : m ≤ 9223372036854775807) :
    Calls Try.prog 26 #[.slice A n c, .slice B m d] w (BoolQ (decide (xs = ys)) w) := by
  have l1 : xs.length = n := by have := h1.1; rwa [ic_length] at this
  have l2 : ys.length = m := by have := h2.1; rwa [ic_length] at this
  obtain ⟨r, hr⟩ : ∃ r, r = decide (xs = ys) := ⟨_, rfl⟩
  rw [← hr]
  have HR := Lib.hid hr; clear hr
  by_cases hnm : n = m
  · subst hnm
    have HL1 := Lib.hid l1
    have HL2 := Lib.hid l2
    clear l1 l2
    have hne : ((n : Int) != (n : Int)) = false := by simp
    have HS := Lib.hid (show xs.take 0 = ys.take 0 by simp)
    go_enter Try.func26, Try.ntmps26
    go_wp2
    go_loopw [5] (fun i wr => ∃ k q : Nat, k ≤ n ∧ i = .int .i64 k ∧ wr = w.drewN q ∧ Hid (xs.take k = ys.take k)) (fun i _ => n - (intOf i).toNat)
    case atStart => exact ⟨0, 0, by omega, rfl, rfl, HS⟩
    case round =>
      clear HS
      obtain ⟨k, q, hk, rfl, rfl, HT⟩ := hrel
      by_cases hlt : k < n
      · obtain ⟨ad1, u1, rfl, _, hu1, hcell1⟩ := h1.at_ hlt
        obtain ⟨ad2, u2, rfl, _, hu2, hcell2⟩ := h2.at_ hlt
        obtain ⟨z1, e1, rfl⟩ := ic_at hu1
        obtain ⟨z2, e2, rfl⟩ := ic_at hu2
        have hk0 : (0 : Int) ≤ (k : Int) := by omega
        have hkn : (k : Int) < (n : Int) := by omega
        clear hu1 hu2
        by_cases he : z1 = z2
        · subst he
          have HT2 := Lib.hid (take_snoc_eq HT.out e1 e2 rfl)
          clear e1 e2 HT
          have hbz : (z1 != z1) = false := by simp
          go_wp2_with fail
          go_quiet (fail)
          go_wp2_with fail
          go_roundw
          case rel => exact ⟨k + 1, q + nq, by omega, by go_num, by simp, HT2⟩
          case measure => simp [intOf]; omega
        · have HN := Lib.hid (ne_of_at e1 e2 he)
          have hbz : (z1 != z2) = true := by simpa using he
          clear e1 e2 HT he
          go_wp2_with fail
          go_quiet (fail)
          go_wp2_with fail
          go_ret
          exact ⟨by rw [HR.out]; simp [HN.out], q + nq, by simp⟩
      · obtain rfl : n = k := by omega
        have ht : xs = ys := by
          have := HT.out
          rwa [List.take_of_length_le (by have := HL1.out; omega), List.take_of_length_le (by have := HL2.out; omega)] at this
        have HE := Lib.hid ht; clear ht HT
        go_wp2
        go_ret
        exact ⟨by rw [HR.out]; simp [HE.out], q, rfl⟩
  · have hne : ((n : Int) != (m : Int)) = true := by simp; omega
    have hn : ¬ xs = ys := fun e => hnm (by rw [← l1, ← l2, e])
    have hf : r = false := by rw [HR.out]; simpa using hn
    have HF := Lib.hid hf
    clear hn hf
    clear l1 l2 h1 h2
    go_enter Try.func26, Try.ntmps26
    go_wp2
    go_ret
    exact ⟨by rw [HF.out]; rfl, 0, rfl⟩

theorem pr_ne {a b : AM.Pr} (h : a ≠ b) : (a.n == b.n && (a.b == b.b && a.v.toList == b.v.toList)) = false := by
  obtain ⟨n, x, s⟩ := a
  obtain ⟨m, y, t⟩ := b
  simp only [Bool.and_eq_false_iff, beq_eq_false_iff_ne, ne_eq]
  by_cases e1 : n = m
  · subst e1
    by_cases e2 : x = y
    · subst e2
      refine .inr (.inr fun e => h ?_)
      rw [ByteArray.toList_eq, ByteArray.toList_eq] at e
      obtain ⟨⟨l⟩⟩ := s
      obtain ⟨⟨k⟩⟩ := t
      simp at e
      rw [e]
    · exact .inr (.inl e2)
  · exact .inl e1
/-- two promises that are not the same part at one of three places -/
theorem pr_ways {a b : AM.Pr} (h : a ≠ b) : (a.n == b.n) = false ∨ ((a.n == b.n) = true ∧ (a.b == b.b) = false) ∨ ((a.n == b.n) = true ∧ (a.b == b.b) = true ∧ (a.v.toList == b.v.toList) = false) := by
  have := pr_ne h
  rcases h1 : a.n == b.n <;> rcases h2 : a.b == b.b <;> rcases h3 : a.v.toList == b.v.toList <;> simp_all

set_option maxHeartbeats 2000000 in
theorem equalP_any (A : Option Addr) (n c : Nat) (xs : List AM.Pr) (B : Option Addr) (m d : Nat) (ys : List AM.Pr) (w : World) (h1 : RdP w A n xs) (h2 : RdP w B m ys) (hm : n ≤ 2000) (hm2 : m ≤ 2000) :
    Calls Try.prog 51 #[.slice A n c, .slice B m d] w (BoolQ (decide (xs = ys)) w) := by
  have l1 : xs.length = n := h1.1
  have l2 : ys.length = m := h2.1
  obtain ⟨r, hr⟩ : ∃ r, r = decide (xs = ys) := ⟨_, rfl⟩
  rw [← hr]
  have HR := Lib.hid hr; clear hr
  by_cases hnm : n = m
  · subst hnm
    have HL1 := Lib.hid l1
    have HL2 := Lib.hid l2
    have H1 := Lib.hid h1
    have H2 := Lib.hid h2
    clear l1 l2 h1 h2
    have hne : ((n : Int) != (n : Int)) = false := by simp
    have HS := Lib.hid (show xs.take 0 = ys.take 0 by simp)
    go_enter Try.func51, Try.ntmps51
    go_wp2
    go_loopw [13] (fun i wr => ∃ k q : Nat, k ≤ n ∧ i = .int .i64 k ∧ wr = w.drewN q ∧ Hid (xs.take k = ys.take k)) (fun i _ => n - (intOf i).toNat)
    case atStart => exact ⟨0, 0, by omega, rfl, rfl, HS⟩
    case round =>
      clear HS
      obtain ⟨k, q, hk, rfl, rfl, HT⟩ := hrel
      by_cases hlt : k < n
      · obtain ⟨bl1, o1, p1, rfl, _, e1, c0, c1, c2⟩ := H1.out.at_ hlt
        obtain ⟨bl2, o2, p2, rfl, _, e2, d0, d1, d2⟩ := H2.out.at_ hlt
        have hk0 : (0 : Int) ≤ (k : Int) := by omega
        have hkn : (k : Int) < (n : Int) := by omega
        by_cases he : p1 = p2
        · subst he
          have HT2 := Lib.hid (take_snoc_eq HT.out e1 e2 rfl)
          clear e1 e2 HT
          obtain ⟨pn, pb, pv⟩ := p1
          simp only at c0 c1 c2 d0 d1 d2
          go_wp2_with fail
          go_quiet (fail)
          go_wp2_with fail
          go_roundw
          case rel => exact ⟨k + 1, q + nq, by omega, by go_num, by simp, HT2⟩
          case measure => simp [intOf]; omega
        · have HN := Lib.hid (ne_of_at e1 e2 he)
          have hw := pr_ways he
          clear e1 e2 HT he
          obtain ⟨pn, pb, pv⟩ := p1
          obtain ⟨qn, qb, qv⟩ := p2
          simp only at c0 c1 c2 d0 d1 d2 hw
          rcases hw with z1 | ⟨z1, z2⟩ | ⟨z1, z2, z3⟩
          all_goals
            go_wp2_with fail
            go_quiet (fail)
            go_wp2_with fail
            go_ret
            exact ⟨by rw [HR.out]; simp [HN.out], q + nq, by simp⟩
      · obtain rfl : n = k := by omega
        have ht : xs = ys := by
          have := HT.out
          rwa [List.take_of_length_le (by have := HL1.out; omega), List.take_of_length_le (by have := HL2.out; omega)] at this
        have HE := Lib.hid ht; clear ht HT
        go_wp2
        go_ret
        exact ⟨by rw [HR.out]; simp [HE.out], q, rfl⟩
  · have hne : ((n : Int) != (m : Int)) = true := by simp; omega
    have hn : ¬ xs = ys := fun e => hnm (by rw [← l1, ← l2, e])
    have hf : r = false := by rw [HR.out]; simpa using hn
    have HF := Lib.hid hf
    clear hn hf
    clear l1 l2 h1 h2
    go_enter Try.func51, Try.ntmps51
    go_wp2
    go_ret
    exact ⟨by rw [HF.out]; rfl, 0, rfl⟩

theorem at_eq (a b : AM.At) : decide (a = b) = ((a.ph == b.ph) && ((a.ba == b.ba) && ((a.wi.toList == b.wi.toList) && ((a.va.toList == b.va.toList) && (decide (a.ms = b.ms) && (decide (a.ps = b.ps) && decide (a.ac = b.ac))))))) := by
  have ht : ∀ s t : ByteArray, (s.toList == t.toList) = decide (s = t) := by
    intro s t
    rw [Bool.eq_iff_iff, beq_iff_eq, decide_eq_true_iff, ByteArray.toList_eq, ByteArray.toList_eq]
    constructor
    · intro e
      obtain ⟨⟨l⟩⟩ := s
      obtain ⟨⟨k⟩⟩ := t
      simp at e
      rw [e]
    · rintro rfl; rfl
  rw [ht, ht]
  obtain ⟨p1, p2, p3, p4, p5, p6, p7⟩ := a
  obtain ⟨q1, q2, q3, q4, q5, q6, q7⟩ := b
  rw [Bool.eq_iff_iff]
  simp only [decide_eq_true_eq, Bool.and_eq_true, beq_iff_eq, AM.At.mk.injEq]
  constructor
  · rintro ⟨a1, a2, a3, a4, a5, a6, a7⟩; exact ⟨a1, a2, a4, a5, a3, a6, a7⟩
  · rintro ⟨a1, a2, a4, a5, a3, a6, a7⟩; exact ⟨a1, a2, a3, a4, a5, a6, a7⟩

set_option maxRecDepth 100000 in
set_option maxHeartbeats 4000000 in
theorem same_any (v : Value) (a : AM.At) (u : Value) (b : AM.At) (w : World) (H : AtIs w v a) (K : AtIs w u b) (F : Fit a) (G : Fit b) :
    Calls Try.prog 23 #[v, u] w (BoolIs (decide (a = b)) w) := by
  rw [at_eq]
  obtain ⟨A, n, c, B, m, d, C, k, f, rfl, h1, h2, h3⟩ := H
  obtain ⟨f1, f2, f3⟩ := AtIs.fit_n h1 h2 h3 F
  obtain ⟨A', n', c', B', m', d', C', k', f', rfl, i1, i2, i3⟩ := K
  obtain ⟨j1, j2, j3⟩ := AtIs.fit_n i1 i2 i3 G
  obtain ⟨ph, ba, ms, wi, va, ps, ac⟩ := a
  obtain ⟨ph', ba', ms', wi', va', ps', ac'⟩ := b
  simp only at h1 h2 h3 i1 i2 i3 ⊢
  clear F G
  have hb0 : Below w.heap.size w ((w.alloc (.cells #[.int .u8 ph, .int .i64 ba, .slice A n c, .string wi, .string va, .slice B m d, .slice C k f] 25)).alloc (.cells #[.int .u8 ph', .int .i64 ba', .slice A' n' c', .string wi', .string va', .slice B' m' d', .slice C' k' f'] 25)) := ((Below.refl _ _).alloc (Nat.le_refl _) _).alloc (by simp) _
  have HB0 := Lib.hid hb0
  have C1 := Lib.hid (fun q => equalI_any A n c ms A' n' c' ms' _ ((h1.below hb0).drewN q) ((i1.below hb0).drewN q) (by omega) (by omega))
  have C2 := Lib.hid (fun q => equalP_any B m d ps B' m' d' ps' _ ((h2.below hb0).drewN q) ((i2.below hb0).drewN q) (by omega) (by omega))
  have C3 := Lib.hid (fun q => equalI_any C k f ac C' k' f' ac' _ ((h3.below hb0).drewN q) ((i3.below hb0).drewN q) (by omega) (by omega))
  clear hb0 h1 h2 h3 i1 i2 i3
  generalize decide (ms = ms') = r5 at C1 ⊢
  generalize decide (ps = ps') = r6 at C2 ⊢
  generalize decide (ac = ac') = r7 at C3 ⊢
  rcases e1 : ph == ph' with _ | _
  · go_enter Try.func23, Try.ntmps23
    go_wp2_with fail
    go_ret
    exact bool_ret (by first | rfl | simp | simp_all) (HB0.out)
  · skip
    rcases e2 : ba == ba' with _ | _
    · go_enter Try.func23, Try.ntmps23
      go_wp2_with fail
      go_ret
      exact bool_ret (by first | rfl | simp | simp_all) (HB0.out)
    · skip
      rcases e3 : wi.toList == wi'.toList with _ | _
      · go_enter Try.func23, Try.ntmps23
        go_wp2_with fail
        go_ret
        exact bool_ret (by first | rfl | simp | simp_all) (HB0.out)
      · skip
        rcases e4 : va.toList == va'.toList with _ | _
        · go_enter Try.func23, Try.ntmps23
          go_wp2_with fail
          go_ret
          exact bool_ret (by first | rfl | simp | simp_all) (HB0.out)
        · skip
          go_enter Try.func23, Try.ntmps23
          go_wp2_with fail
          refine (C1.out 0).mono ?_
          rintro e w1 ⟨rfl, q1, rfl⟩
          cases r5
          · go_wp2_with fail
            go_ret
            exact bool_ret (by first | rfl | simp | simp_all) (below_drewN HB0.out _)
          go_wp2_with fail
          refine (C2.out _).mono ?_
          rintro e w1 ⟨rfl, q2, rfl⟩
          cases r6
          · go_wp2_with fail
            go_ret
            exact bool_ret (by first | rfl | simp | simp_all) (below_drewN HB0.out _)
          go_wp2_with fail
          refine (C3.out _).mono ?_
          rintro e w1 ⟨rfl, q3, rfl⟩
          go_wp2_with fail
          go_ret
          exact bool_ret (by first | rfl | simp | simp_all) (below_drewN HB0.out _)
end Go.Proofs.Ytmcfamoicdmkdaa
