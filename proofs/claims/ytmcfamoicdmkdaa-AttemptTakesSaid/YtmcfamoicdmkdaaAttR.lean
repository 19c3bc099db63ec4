/-
  The document's own Same, Best, nodes, Great (towncrierref08), and the law's nodes. Conditions: the attempts fit; as each theorem says.
-/
import Derived.Test.YtmcfamoicdmkdaaAttS
import Derived.Test.YtmcfamoicdmkdaaAttB
import Derived.Lib.MinMax
namespace Go.Proofs.Ytmcfamoicdmkdaa
open Go.RowKit
set_option linter.unusedVariables false
set_option linter.unusedSimpArgs false

theorem at_eq2 (a b : AM.At) : decide (a = b) = ((a.ph == b.ph) && ((a.ba == b.ba) && (decide (a.ms = b.ms) && ((a.wi.toList == b.wi.toList) && ((a.va.toList == b.va.toList) && (decide (a.ac = b.ac) && decide (a.ps = b.ps))))))) := by
  rw [at_eq]
  generalize (a.ph == b.ph) = x1
  generalize (a.ba == b.ba) = x2
  generalize (a.wi.toList == b.wi.toList) = x3
  generalize (a.va.toList == b.va.toList) = x4
  generalize decide (a.ms = b.ms) = x5
  generalize decide (a.ps = b.ps) = x6
  generalize decide (a.ac = b.ac) = x7
  cases x1 <;> cases x2 <;> cases x3 <;> cases x4 <;> cases x5 <;> cases x6 <;> cases x7 <;> rfl

set_option maxRecDepth 100000 in
set_option maxHeartbeats 1000000 in
theorem rnodes_any (B : Option Addr) (m d : Nat) (ps : List AM.Pr) (w : World) (hr : RdP w B m ps) (hm : m ≤ 2000) :
    Calls Try.prog 42 #[.slice B m d] w (RowIs 3 1 m (ic (AM.nodes ps)) w) := by
  obtain ⟨i0, hi, hz0, hz1, hz2⟩ := info_parts info_ai
  have hst : NodesRel w ps 0 (.slice none 0 0) w := ⟨Below.refl _ _, World.ownsRow_nil _ _ _ _⟩
  have HS := Lib.hid hst; clear hst
  have HW := Lib.hid hr; clear hr
  go_enter Try.func42, Try.ntmps42
  go_wp2_with fail
  go_loopw [3, 4] (fun v i wr => ∃ k : Nat, k ≤ m ∧ i = .int .i64 k ∧ NodesRel w ps k v wr) (fun _ i _ => m - (intOf i).toNat)
  case atStart => exact ⟨0, by omega, rfl, HS.out⟩
  case round =>
    clear HS
    obtain ⟨k, hk, rfl, hbel, hown⟩ := hrel
    by_cases hlt : k < m
    · obtain ⟨bl, o, p, rfl, hbl, hp, c0, c1, c2⟩ := (HW.out.below hbel).at_ hlt
      obtain ⟨pn, pb, pv⟩ := p
      simp only at c0 c1 c2
      have ho2 : (wr.alloc (.cells #[.int .i64 pn] 3)).ownsRow w.heap.size 3 1 _ k _ := own_below3 hown ((Below.refl _ _).alloc (Nat.le_refl _) _)
      have hr2 := rd_one wr 3 pn
      have hsz := hbel.size
      have HO1 := Lib.hid hown
      have HB1 := Lib.hid hbel
      have HO2 := Lib.hid ho2
      have HP := Lib.hid hp
      have HR2 := Lib.hid hr2
      clear ho2 hown hbel hp hr2
      go_wp2_with (at_builtin; refine wpList_append_rd _ rfl _ _ 22 rfl w.heap.size 3 i0 (.int .i64 0) 8 Try.underlying22 hi hz0 hz1 hz2 rfl _ _ _ rfl HO2.out (some ⟨wr.heap.size, 0, none⟩) 1 1 [.int .i64 pn] rfl HR2.out (by intro u hu; simp at hu; subst hu; rfl) (by unfold maxLen; omega) (by omega) (by simp; omega) ?_; intro v2 w2 hown2 hg2 hob2)
      have hnext := nodesRel_next HB1.out HO1.out HP.out hown2 (by simp; omega) hg2
      clear hown2 hg2 hob2
      go_roundw
      case rel => exact ⟨k + 1, by omega, by go_num, hnext⟩
      case measure => simp [intOf]; omega
    · obtain rfl : m = k := by omega
      rw [List.take_of_length_le (by have := HW.out.1; omega)] at hown
      obtain ⟨A', c', rfl, _, _⟩ := own_form hown
      have hfin : RowIs 3 1 m (ic (AM.nodes ps)) w (.returned (.slice A' m c')) wr := ⟨A', c', rfl, hown, hbel⟩
      have HF := Lib.hid hfin
      clear hfin hown hbel
      go_wp2_with fail
      go_ret
      exact HF.out

set_option maxRecDepth 100000 in
set_option maxHeartbeats 1000000 in
theorem lnodes_any (B : Option Addr) (m d : Nat) (ps : List AM.Pr) (w : World) (hr : RdP w B m ps) (hm : m ≤ 2000) :
    Calls Try.prog 30 #[.slice B m d] w (RowIs 3 1 m (ic (AM.nodes ps)) w) := by
  obtain ⟨i0, hi, hz0, hz1, hz2⟩ := info_parts info_ai
  have hst : NodesRel w ps 0 (.slice none 0 0) w := ⟨Below.refl _ _, World.ownsRow_nil _ _ _ _⟩
  have HS := Lib.hid hst; clear hst
  have HW := Lib.hid hr; clear hr
  go_enter Try.func30, Try.ntmps30
  go_wp2_with fail
  go_loopw [3, 4] (fun v i wr => ∃ k : Nat, k ≤ m ∧ i = .int .i64 k ∧ NodesRel w ps k v wr) (fun _ i _ => m - (intOf i).toNat)
  case atStart => exact ⟨0, by omega, rfl, HS.out⟩
  case round =>
    clear HS
    obtain ⟨k, hk, rfl, hbel, hown⟩ := hrel
    by_cases hlt : k < m
    · obtain ⟨bl, o, p, rfl, hbl, hp, c0, c1, c2⟩ := (HW.out.below hbel).at_ hlt
      obtain ⟨pn, pb, pv⟩ := p
      simp only at c0 c1 c2
      have ho2 : (wr.alloc (.cells #[.int .i64 pn] 3)).ownsRow w.heap.size 3 1 _ k _ := own_below3 hown ((Below.refl _ _).alloc (Nat.le_refl _) _)
      have hr2 := rd_one wr 3 pn
      have hsz := hbel.size
      have HO1 := Lib.hid hown
      have HB1 := Lib.hid hbel
      have HO2 := Lib.hid ho2
      have HP := Lib.hid hp
      have HR2 := Lib.hid hr2
      clear ho2 hown hbel hp hr2
      go_wp2_with (at_builtin; refine wpList_append_rd _ rfl _ _ 22 rfl w.heap.size 3 i0 (.int .i64 0) 8 Try.underlying22 hi hz0 hz1 hz2 rfl _ _ _ rfl HO2.out (some ⟨wr.heap.size, 0, none⟩) 1 1 [.int .i64 pn] rfl HR2.out (by intro u hu; simp at hu; subst hu; rfl) (by unfold maxLen; omega) (by omega) (by simp; omega) ?_; intro v2 w2 hown2 hg2 hob2)
      have hnext := nodesRel_next HB1.out HO1.out HP.out hown2 (by simp; omega) hg2
      clear hown2 hg2 hob2
      go_roundw
      case rel => exact ⟨k + 1, by omega, by go_num, hnext⟩
      case measure => simp [intOf]; omega
    · obtain rfl : m = k := by omega
      rw [List.take_of_length_le (by have := HW.out.1; omega)] at hown
      obtain ⟨A', c', rfl, _, _⟩ := own_form hown
      have hfin : RowIs 3 1 m (ic (AM.nodes ps)) w (.returned (.slice A' m c')) wr := ⟨A', c', rfl, hown, hbel⟩
      have HF := Lib.hid hfin
      clear hfin hown hbel
      go_wp2_with fail
      go_ret
      exact HF.out

set_option maxRecDepth 100000 in
set_option maxHeartbeats 1000000 in
theorem rbest_any (B : Option Addr) (m d : Nat) (ps : List AM.Pr) (wi : ByteArray) (w : World) (hr : RdP w B m ps) (hm : m ≤ 9223372036854775807) :
    Calls Try.prog 28 #[.slice B m d, .string wi] w fun e w' => e = .returned (.string (AM.best ps wi)) ∧ w = w' := by
  obtain ⟨r, hrr⟩ : ∃ r, r = AM.best ps wi := ⟨_, rfl⟩
  rw [← hrr]
  have HS := Lib.hid (show AM.bestF 0 wi (ps.drop 0) = r by rw [hrr]; rfl)
  have HW := Lib.hid hr; clear hr hrr
  go_enter Try.func28, Try.ntmps28
  go_wp2_with fail
  go_loop [5, 6, 7] (fun x s i => ∃ (k : Nat) (b : Int) (t : ByteArray), k ≤ m ∧ i = .int .i64 k ∧ x = .int .i64 b ∧ s = .string t ∧ Hid (AM.bestF b t (ps.drop k) = r)) (fun _ _ i => m - (intOf i).toNat)
  case atStart => exact ⟨0, 0, wi, by omega, rfl, rfl, rfl, HS⟩
  case round =>
    clear HS
    obtain ⟨k, b, t, hk, rfl, rfl, rfl, HR⟩ := hrel
    by_cases hlt : k < m
    · obtain ⟨bl, o, p, rfl, hbl, hp, c0, c1, c2⟩ := HW.out.at_ hlt
      have hkp : k < ps.length := (List.getElem?_eq_some_iff.1 hp).1
      have hpe : ps[k] = p := (List.getElem?_eq_some_iff.1 hp).2
      have hre := HR.out
      rw [List.drop_eq_getElem_cons hkp, hpe, AM.bestF] at hre
      obtain ⟨pn, pb, pv⟩ := p
      simp only at c0 c1 c2 hre
      clear hp hpe hkp HR
      by_cases hgt : b < pb
      · rw [if_pos hgt] at hre
        have HN := Lib.hid hre; clear hre
        go_wp2_with fail
        go_round
        case rel => exact ⟨k + 1, pb, pv, by omega, by go_num, rfl, rfl, HN⟩
        case measure => simp [intOf]; omega
      · rw [if_neg hgt] at hre
        have HN := Lib.hid hre; clear hre
        go_wp2_with fail
        go_round
        case rel => exact ⟨k + 1, b, t, by omega, by go_num, rfl, rfl, HN⟩
        case measure => simp [intOf]; omega
    · obtain rfl : m = k := by omega
      have hd : t = r := by have := HR.out; rw [List.drop_of_length_le (by have := HW.out.1; omega)] at this; simpa [AM.bestF] using this
      have HD := Lib.hid hd
      clear hd HR
      go_wp2_with fail
      go_ret
      exact ⟨by rw [HD.out]; rfl, rfl⟩

set_option maxRecDepth 100000 in
set_option maxHeartbeats 4000000 in
theorem rsame_any (v : Value) (a : AM.At) (u : Value) (b : AM.At) (w : World) (H : AtIs w v a) (K : AtIs w u b) (F : Fit a) (G : Fit b) :
    Calls Try.prog 20 #[v, u] w (BoolIs (decide (a = b)) w) := by
  rw [at_eq2]
  obtain ⟨A, n, c, B, m, d, C, k, f, rfl, h1, h2, h3⟩ := H
  obtain ⟨f1, f2, f3⟩ := AtIs.fit_n h1 h2 h3 F
  obtain ⟨A', n', c', B', m', d', C', k', f', rfl, i1, i2, i3⟩ := K
  obtain ⟨j1, j2, j3⟩ := AtIs.fit_n i1 i2 i3 G
  obtain ⟨ph, ba, ms, wi, va, ps, ac⟩ := a
  obtain ⟨ph', ba', ms', wi', va', ps', ac'⟩ := b
  simp only at h1 h2 h3 i1 i2 i3 ⊢
  clear F G
  obtain ⟨W0, hW0⟩ : ∃ W0, W0 = (w.alloc (.cells #[.int .u8 ph, .int .i64 ba, .slice A n c, .string wi, .string va, .slice B m d, .slice C k f] 25)).alloc (.cells #[.int .u8 ph', .int .i64 ba', .slice A' n' c', .string wi', .string va', .slice B' m' d', .slice C' k' f'] 25) := ⟨_, rfl⟩
  have hb0 : Below w.heap.size w W0 := by rw [hW0]; exact ((Below.refl _ _).alloc (Nat.le_refl _) _).alloc (by simp) _
  have X0 := Lib.hid (show Box W0 w.heap.size 25 #[.int .u8 ph, .int .i64 ba, .slice A n c, .string wi, .string va, .slice B m d, .slice C k f] by rw [hW0]; exact (Box.new _ _ _).alloc _)
  have Y0 := Lib.hid (show Box W0 (w.heap.size + 1) 25 #[.int .u8 ph', .int .i64 ba', .slice A' n' c', .string wi', .string va', .slice B' m' d', .slice C' k' f'] by rw [hW0]; exact Box.new_at _ (by simp))
  have HB0 := Lib.hid hb0
  have C1 := Lib.hid (fun q => sameInts_any A n c ms A' n' c' ms' (W0.drewN q) ((h1.below hb0).drewN q) ((i1.below hb0).drewN q) (by omega) (by omega))
  have C3 := Lib.hid (fun q => sameInts_any C k f ac C' k' f' ac' (W0.drewN q) ((h3.below hb0).drewN q) ((i3.below hb0).drewN q) (by omega) (by omega))
  have H2 := Lib.hid (h2.below hb0)
  have I2 := Lib.hid (i2.below hb0)
  have hl : m ≠ m' → decide (ps = ps') = false := fun h => by simpa using fun e => h (by have := h2.1; have := i2.1; rw [e] at *; omega)
  have HL := Lib.hid hl
  clear hb0 h1 h2 h3 i1 i2 i3 hl
  generalize decide (ms = ms') = r5 at C1 ⊢
  generalize decide (ac = ac') = r7 at C3 ⊢
  obtain ⟨r6, hr6⟩ : ∃ r, r = decide (ps = ps') := ⟨_, rfl⟩
  rw [← hr6] at HL ⊢
  have HR := Lib.hid hr6; clear hr6
  rcases e0 : ph == ph' with _ | _
  ·
    have n0 : (ph != ph') = true := by simpa using e0
    go_enter Try.func20, Try.ntmps20
    rw [hW0] at HB0
    go_wp2_with fail
    go_ret
    exact bool_ret (by first | rfl | (simp; done) | (simp [e2]; done) | (simp [e2, e3]; done)) HB0.out
  have n0 : (ph != ph') = false := by simpa using e0
  rcases e1 : ba == ba' with _ | _
  ·
    have n1 : (ba != ba') = true := by simpa using e1
    go_enter Try.func20, Try.ntmps20
    rw [hW0] at HB0
    go_wp2_with fail
    go_ret
    exact bool_ret (by first | rfl | (simp; done) | (simp [e2]; done) | (simp [e2, e3]; done)) HB0.out
  have n1 : (ba != ba') = false := by simpa using e1
  go_enter Try.func20, Try.ntmps20
  go_wp2_with fail
  rw [← hW0]
  clear hW0
  refine (C1.out 0).mono ?_
  rintro e w1 ⟨rfl, q1, rfl⟩
  obtain ⟨⟨x0, x1, x2, x3, x4, x5, x6⟩, _⟩ := X0.out.seven
  obtain ⟨⟨y0, y1, y2, y3, y4, y5, y6⟩, _⟩ := Y0.out.seven
  cases r5
  ·
    go_wp2_with fail
    go_ret
    exact bool_ret (by first | rfl | (simp; done) | (simp [e2]; done) | (simp [e2, e3]; done)) (below_drewN HB0.out _)
  rcases e2 : wi.toList == wi'.toList with _ | _
  ·
    go_wp2_with fail
    go_ret
    exact bool_ret (by first | rfl | (simp; done) | (simp [e2]; done) | (simp [e2, e3]; done)) (below_drewN HB0.out _)
  rcases e3 : va.toList == va'.toList with _ | _
  ·
    go_wp2_with fail
    go_ret
    exact bool_ret (by first | rfl | (simp; done) | (simp [e2]; done) | (simp [e2, e3]; done)) (below_drewN HB0.out _)
  by_cases hmm : m = m'
  ·
    subst hmm
    have n4 : ((m : Int) != (m : Int)) = false := by simp
    have HS := Lib.hid (show ps.take 0 = ps'.take 0 by simp)
    go_wp2_with fail
    refine (C3.out _).mono ?_
    rintro e w1 ⟨rfl, q2, rfl⟩
    cases r7
    ·
      go_wp2_with fail
      go_ret
      exact bool_ret (by first | rfl | (simp; done) | (simp [e2]; done) | (simp [e2, e3]; done)) (below_drewN HB0.out _)
    go_wp2_with fail
    go_loopw [5] (fun i wr => ∃ k q : Nat, k ≤ m ∧ i = .int .i64 k ∧ wr = W0.drewN q ∧ Hid (ps.take k = ps'.take k)) (fun i _ => m - (intOf i).toNat)
    case atStart => exact ⟨0, _, by omega, rfl, rfl, HS⟩
    case round =>
      clear HS
      obtain ⟨j, q, hk, rfl, rfl, HT⟩ := hrel
      by_cases hlt : j < m
      · obtain ⟨bl1, o1, p1, rfl, _, g1, c0, c1, c2⟩ := H2.out.at_ hlt
        obtain ⟨bl2, o2, p2, rfl, _, g2, d0, d1, d2⟩ := I2.out.at_ hlt
        have hk0 : (0 : Int) ≤ (j : Int) := by omega
        have hkn : (j : Int) < (m : Int) := by omega
        by_cases he : p1 = p2
        · subst he
          have HT2 := Lib.hid (take_snoc_eq HT.out g1 g2 rfl)
          clear g1 g2 HT
          obtain ⟨pn, pb, pv⟩ := p1
          simp only at c0 c1 c2 d0 d1 d2
          go_wp2_with fail
          go_quiet (fail)
          go_wp2_with fail
          go_roundw
          case rel => exact ⟨j + 1, q + nq, by omega, by go_num, by simp, HT2⟩
          case measure => simp [intOf]; omega
        · have HN := Lib.hid (show r6 = false by rw [HR.out]; simpa using ne_of_at g1 g2 he)
          have hw := pr_ways he
          clear g1 g2 HT he
          obtain ⟨pn, pb, pv⟩ := p1
          obtain ⟨qn, qb, qv⟩ := p2
          simp only at c0 c1 c2 d0 d1 d2 hw
          rcases hw with z1 | ⟨z1, z2⟩ | ⟨z1, z2, z3⟩
          all_goals
            go_wp2_with fail
            go_quiet (fail)
            go_wp2_with fail
            go_ret
            exact bool_ret (by rw [HN.out]; first | rfl | (simp; done) | (simp [e2]; done) | (simp [e2, e3]; done)) (below_drewN (below_drewN HB0.out _) _)
      · obtain rfl : m = j := by omega
        have ht : ps = ps' := by
          have := HT.out
          rwa [List.take_of_length_le (by have := H2.out.1; omega), List.take_of_length_le (by have := I2.out.1; omega)] at this
        have HE := Lib.hid (show r6 = true by rw [HR.out]; simpa using ht)
        clear ht HT
        go_wp2_with fail
        go_ret
        exact bool_ret (by rw [HE.out]; first | rfl | (simp; done) | (simp [e2]; done) | (simp [e2, e3]; done)) (below_drewN HB0.out _)
  ·
    have n4 : ((m : Int) != (m' : Int)) = true := by simp; omega
    have HN := Lib.hid (HL.out hmm)
    go_wp2_with fail
    go_ret
    exact bool_ret (by rw [HN.out]; first | rfl | (simp; done) | (simp [e2]; done) | (simp [e2, e3]; done)) (below_drewN HB0.out _)
end Go.Proofs.Ytmcfamoicdmkdaa
