/- Contracts of functions of towncrier, layers 5 to 9, and of the document's own ones, part 27; each as its theorem says. -/
import Derived.Test.YtiiobafcgdelmaaGreatL01
import Derived.Test.YtiiobafcgdelmaaGreatL05
import Derived.Test.YtiiobafcgdelmaaGreatL06
import Derived.Test.YtiiobafcgdelmaaGreatL26
import Derived.Lib.MinMax
import Derived.Test.YtiiobafcgdelmaaGreatL10
import Derived.Test.YtiiobafcgdelmaaGreatL08
set_option linter.unusedVariables false
set_option linter.unusedSimpArgs false
namespace Go.Proofs.YtiiobafcgdelmaaGreat
open Go.RowKit
set_option maxRecDepth 100000 in
set_option maxHeartbeats 1000000 in
theorem mayPromise_any (q : Int) (p : AM.Pr) (w : World) (F : FitP p) :
  Calls Tryz.prog 71 #[.agg #[.int .i64 p.n, .int .i64 p.b, .string p.v], .int .i64 q] w (BoolIs (AM.okP q p) w) := by
 have hb0 : Below w.heap.size w (w.alloc (.cells #[.int .i64 p.n, .int .i64 p.b, .string p.v] 86)) := b!
 have HB0 := h! hb0; clear hb0
 obtain ⟨b1, b2, hs⟩ := F
 unfold maxLen at hs
 have hst : AM.okP q p = if p.b = 0 then p.v.toList.isEmpty else decide (BM.good p.b) && (decide (p.b < q) && decide ((p.v.size : Int) ≤ 1024)) := by
  unfold AM.okP
  split
  ·rw [str_no]
  ·congr 2
   rw [decide_eq_decide]; omega
 generalize AM.okP q p = r at hst ⊢
 obtain ⟨n, b, s⟩ := p
 simp only at b1 b2 hs hst HB0 ⊢
 have HS := h! hst; clear hst
 by_cases hz : b = 0
 ·subst hz
  go_enter Tryz.func71, Tryz.ntmps71
  go_wp2_with fail
  go_ret
  exact bool_ret (by rw [HS.out]; simp) HB0.out
 ·have hz' : (b == 0) = false := by simpa using hz
  by_cases hg : BM.good b
  ·have HO := h! (fun W => rMay_yes b W hg)
   have HG := h! hg; clear hg
   by_cases hp : b < q
   ·go_enter Tryz.func71, Tryz.ntmps71
    go_wp2_with fail
    refine (HO.out _).mono ?_
    rintro e w1 ⟨rfl, rfl⟩
    go_wp2_with fail
    go_ret
    exact bool_ret (by rw [HS.out]; simp [hz, HG.out, show b < q by omega]) HB0.out
   ·go_enter Tryz.func71, Tryz.ntmps71
    go_wp2_with fail
    refine (HO.out _).mono ?_
    rintro e w1 ⟨rfl, rfl⟩
    go_wp2_with fail
    go_ret
    exact bool_ret (by rw [HS.out]; simp [hz, show ¬ b < q by omega]) HB0.out
  ·have HO := h! (fun W => rMay_no b W hg)
   have HG := h! hg; clear hg
   go_enter Tryz.func71, Tryz.ntmps71
   go_wp2_with fail
   refine (HO.out _).mono ?_
   rintro e w1 ⟨rfl, rfl⟩
   go_wp2_with fail
   go_ret
   exact bool_ret (by rw [HS.out]; simp [hz, HG.out]) HB0.out
def adjK (l : List Int) (k : Nat) : Bool := AM.adj (l.drop (k - 1))
theorem adj_at {l : List Int} {k : Nat} {x y : Int} (hk : 0 < k) (h1 : l[k - 1]? = some x) (h2 : l[k]? = some y) : adjK l k = (decide (x < y) && adjK l (k + 1)) := by
 unfold adjK
 have l1 := (List.getElem?_eq_some_iff.1 h1)
 have l2 := (List.getElem?_eq_some_iff.1 h2)
 obtain ⟨p1, e1⟩ := l1
 obtain ⟨p2, e2⟩ := l2
 rw [List.drop_eq_getElem_cons p1, e1, show k - 1 + 1 = k by omega, show k + 1 - 1 = k by omega, List.drop_eq_getElem_cons p2, e2]
 rfl
theorem adj_end {l : List Int} {k : Nat} (h : l.length ≤ k) : adjK l k = true := by
 unfold adjK
 rcases hd : l.drop (k - 1) with _ | ⟨x, r⟩
 ·rfl
 ·have : (l.drop (k - 1)).length ≤ 1 := by rw [List.length_drop]; omega
  rw [hd] at this
  obtain rfl : r = [] := List.eq_nil_of_length_eq_zero (by rw [List.length_cons] at this; omega)
  rfl
theorem adj_first (l : List Int) : adjK l 0 = AM.adj l ∧ adjK l 1 = AM.adj l := ⟨by simp [adjK], by simp [adjK]⟩
set_option maxRecDepth 100000 in
set_option maxHeartbeats 2000000 in
theorem rising_any (A : Option Addr) (n c : Nat) (ns : List Int) (B : Option Addr) (m d : Nat) (ms : List Int) (w : World) (hr : Rd w A n (ic ns)) (hr2 : Rd w B m (ic ms)) (hn : n ≤ 2000) (hm : m ≤ 2000) :
  Calls Tryz.prog 69 #[.slice A n c, .slice B m d] w fun e w' => e = .returned (.bool (AM.adj ns && QM.within ns ms)) ∧ ∃ q, w' = w.drewN q := by
 have hl : ns.length = n := by have := hr.1; rwa [ic_length] at this
 obtain ⟨r, hrr⟩ : ∃ r, r = AM.adj ns := ⟨_, rfl⟩
 rw [← hrr]
 have HC := h! (fun q => rWithin_any A n c ns B m d ms (w.drewN q) (hr.drewN q) (by omega) (hr2.drewN q) (by omega))
 generalize QM.within ns ms = wi at HC ⊢
 have HS := h! (show adjK ns 0 = r by rw [hrr]; exact (adj_first ns).1)
 have HL := h! hl
 have HR := h! hr
 clear hl hr hr2 hrr
 go_enter Tryz.func69, Tryz.ntmps69
 go_wp2_with fail
 go_loopw [5] (fun i wr => ∃ k q : Nat, k ≤ n ∧ i = .int .i64 k ∧ wr = w.drewN q ∧ Hid (adjK ns k = r)) (fun i _ => n - (intOf i).toNat)
 case atStart => exact ⟨0, 0, by omega, rfl, rfl, HS⟩
 case round =>
  clear HS
  obtain ⟨k, q, hk, rfl, rfl, HT⟩ := hrel
  by_cases hlt : k < n
  ·by_cases h0 : 0 < k
   ·obtain ⟨ad, u1, e0, _, hu1, hc1⟩ := HR.out.at_ hlt
    subst e0
    obtain ⟨ad2, u2, e0, _, hu2, hc2⟩ := HR.out.at_ (show k - 1 < n by omega)
    injection e0 with e0
    subst e0
    obtain ⟨y, g1, rfl⟩ := ic_at hu1
    obtain ⟨x, g2, rfl⟩ := ic_at hu2
    have hst := HT.out
    rw [adj_at h0 g2 g1] at hst
    have i0 : (0 : Int) ≤ (k : Int) := by omega
    have i1 : (k : Int) < (n : Int) := by omega
    have i2 : (0 : Int) ≤ (k : Int) - 1 := by omega
    have i3 : (k : Int) - 1 < (n : Int) := by omega
    have i4 : IntKind.i64.wrap ((k : Int) - 1) = (k : Int) - 1 := by rw [IntKind.wrap_i64]; omega
    have i5 : ((k : Int) - 1).toNat = k - 1 := by omega
    have d0 : decide ((0 : Int) < (k : Int)) = true := by simp; omega
    have d1 : decide (0 < k) = true := by simp; omega
    clear hu1 hu2 g1 g2
    by_cases hxy : x < y
    ·have d2 : decide (y ≤ x) = false := by simp; omega
     have HT2 := h! (show adjK ns (k + 1) = r by rw [show decide (x < y) = true by simpa using hxy, Bool.true_and] at hst; exact hst)
     clear hst hxy HT
     go_wp2_with fail
     go_quiet (fail)
     go_wp2_with fail
     go_roundw
     case rel => exact ⟨k + 1, q + nq, by omega, by go_num, by simp, HT2⟩
     case measure => simp [intOf]; omega
    ·have d2 : decide (y ≤ x) = true := by simp; omega
     have hrf : false = r := by rw [show decide (x < y) = false by simpa using hxy, Bool.false_and] at hst; exact hst
     have HF := h! hrf
     clear hst hxy HT hrf
     go_wp2_with fail
     go_quiet (fail)
     go_wp2_with fail
     go_ret
     exact ⟨by rw [← HF.out]; rfl, q + nq, by simp⟩
   ·obtain rfl : k = 0 := by omega
    have HT2 := h! (show adjK ns (0 + 1) = r by rw [← HT.out]; exact ((adj_first ns).2).trans ((adj_first ns).1).symm)
    have d0 : decide ((0 : Int) < ((0 : Nat) : Int)) = false := by simp
    have d1 : decide ((0 : Int) < 0) = false := by simp
    clear HT
    go_wp2_with fail
    go_quiet (fail)
    go_wp2_with fail
    go_roundw
    case rel => exact ⟨0 + 1, q + nq, by omega, by go_num, by simp, HT2⟩
    case measure => simp [intOf]; omega
  ·have hrt : r = true := by rw [← HT.out]; exact adj_end (by have := HL.out; omega)
   subst hrt
   clear HT
   go_wp2_with fail
   refine (HC.out _).mono ?_
   rintro e w1 ⟨rfl, rfl⟩
   go_wp2_with fail
   go_ret
   exact ⟨by simp, q, rfl⟩
set_option maxHeartbeats 1000000 in
theorem sameInts_any (A : Option Addr) (n c : Nat) (xs : List Int) (B : Option Addr) (m d : Nat) (ys : List Int) (w : World) (h1 : Rd w A n (ic xs)) (h2 : Rd w B m (ic ys)) (hm : n ≤ 9223372036854775807) (hm2 : m ≤ 9223372036854775807) :
  Calls Tryz.prog 20 #[.slice A n c, .slice B m d] w (BoolQ (decide (xs = ys)) w) := by
 have l1 : xs.length = n := by have := h1.1; rwa [ic_length] at this
 have l2 : ys.length = m := by have := h2.1; rwa [ic_length] at this
 obtain ⟨r, hr⟩ : ∃ r, r = decide (xs = ys) := ⟨_, rfl⟩
 rw [← hr]
 have HR := h! hr; clear hr
 by_cases hnm : n = m
 ·subst hnm
  have HL1 := h! l1
  have HL2 := h! l2
  clear l1 l2
  have hne : ((n : Int) != (n : Int)) = false := by simp
  have HS := h! (show xs.take 0 = ys.take 0 by simp)
  go_enter Tryz.func20, Tryz.ntmps20
  go_wp2
  go_loopw [5] (fun i wr => ∃ k q : Nat, k ≤ n ∧ i = .int .i64 k ∧ wr = w.drewN q ∧ Hid (xs.take k = ys.take k)) (fun i _ => n - (intOf i).toNat)
  case atStart => exact ⟨0, 0, by omega, rfl, rfl, HS⟩
  case round =>
   clear HS
   obtain ⟨k, q, hk, rfl, rfl, HT⟩ := hrel
   by_cases hlt : k < n
   ·obtain ⟨ad1, u1, rfl, _, hu1, hcell1⟩ := h1.at_ hlt
    obtain ⟨ad2, u2, rfl, _, hu2, hcell2⟩ := h2.at_ hlt
    obtain ⟨z1, e1, rfl⟩ := ic_at hu1
    obtain ⟨z2, e2, rfl⟩ := ic_at hu2
    have hk0 : (0 : Int) ≤ (k : Int) := by omega
    have hkn : (k : Int) < (n : Int) := by omega
    clear hu1 hu2
    by_cases he : z1 = z2
    ·subst he
     have HT2 := h! (take_snoc_eq HT.out e1 e2 rfl)
     clear e1 e2 HT
     have hbz : (z1 != z1) = false := by simp
     go_wp2_with fail
     go_quiet (fail)
     go_wp2_with fail
     go_roundw
     case rel => exact ⟨k + 1, q + nq, by omega, by go_num, by simp, HT2⟩
     case measure => simp [intOf]; omega
    ·have HN := h! (ne_of_at e1 e2 he)
     have hbz : (z1 != z2) = true := by simpa using he
     clear e1 e2 HT he
     go_wp2_with fail
     go_quiet (fail)
     go_wp2_with fail
     go_ret
     exact ⟨by rw [HR.out]; simp [HN.out], q + nq, by simp⟩
   ·obtain rfl : n = k := by omega
    have ht : xs = ys := by
     have := HT.out
     rwa [List.take_of_length_le (by have := HL1.out; omega), List.take_of_length_le (by have := HL2.out; omega)] at this
    have HE := h! ht; clear ht HT
    go_wp2
    go_ret
    exact ⟨by rw [HR.out]; simp [HE.out], q, rfl⟩
 ·have hne : ((n : Int) != (m : Int)) = true := by simp; omega
  have hn : ¬ xs = ys := fun e => hnm (by rw [← l1, ← l2, e])
  have hf : r = false := by rw [HR.out]; simpa using hn
  have HF := h! hf
  clear hn hf
  clear l1 l2 h1 h2
  go_enter Tryz.func20, Tryz.ntmps20
  go_wp2
  go_ret
  exact ⟨by rw [HF.out]; rfl, 0, rfl⟩
theorem at_eq2 (a b : AM.At) : decide (a = b) = ((a.ph == b.ph) && ((a.ba == b.ba) && (decide (a.ms = b.ms) && ((a.wi.toList == b.wi.toList) && ((a.va.toList == b.va.toList) && (decide (a.ac = b.ac) && decide (a.ps = b.ps))))))) := by
 rw [at_eq]
 generalize (a.ph == b.ph) = x1
 generalize (a.ba == b.ba) = x2
 generalize (a.wi.toList == b.wi.toList) = x3
 generalize (a.va.toList == b.va.toList) = x4
 generalize decide (a.ms = b.ms) = x5
 generalize decide (a.ps = b.ps) = x6
 generalize decide (a.ac = b.ac) = x7
 cases x1 <;> cases x2 <;> cases x3 <;> cases x4 <;> cases x5 <;> cases x6 <;> cases x7 <;> rfl
set_option maxRecDepth 100000 in
set_option maxHeartbeats 1000000 in
theorem rnodes_any (B : Option Addr) (m d : Nat) (ps : List AM.Pr) (w : World) (hr : RdP w B m ps) (hm : m ≤ 2000) :
  Calls Tryz.prog 70 #[.slice B m d] w (RowIs 3 1 m (ic (AM.nodes ps)) w) := by
 obtain ⟨i0, hi, hz0, hz1, hz2⟩ := info_parts info_ai
 have hst : NodesRel w ps 0 (.slice none 0 0) w := ⟨Below.refl _ _, World.ownsRow_nil _ _ _ _⟩
 have HS := h! hst; clear hst
 have HW := h! hr; clear hr
 go_enter Tryz.func70, Tryz.ntmps70
 go_wp2_with fail
 go_loopw [3, 4] (fun v i wr => ∃ k : Nat, k ≤ m ∧ i = .int .i64 k ∧ NodesRel w ps k v wr) (fun _ i _ => m - (intOf i).toNat)
 case atStart => exact ⟨0, by omega, rfl, HS.out⟩
 case round =>
  clear HS
  obtain ⟨k, hk, rfl, hbel, hown⟩ := hrel
  by_cases hlt : k < m
  ·obtain ⟨bl, o, p, rfl, hbl, hp, c0, c1, c2⟩ := (HW.out.below hbel).at_ hlt
   obtain ⟨pn, pb, pv⟩ := p
   simp only at c0 c1 c2
   have ho2 : (wr.alloc (.cells #[.int .i64 pn] 3)).ownsRow w.heap.size 3 1 _ k _ := own_below3 hown ((Below.refl _ _).alloc n! _)
   have hr2 := rd_one wr 3 pn
   have hsz := hbel.size
   have HO1 := h! hown
   have HB1 := h! hbel
   have HO2 := h! ho2
   have HP := h! hp
   have HR2 := h! hr2
   clear ho2 hown hbel hp hr2
   go_wp2_with (at_builtin; refine wpList_append_rd _ rfl _ _ 22 rfl w.heap.size 3 i0 (.int .i64 0) 8 Tryz.underlying22 hi hz0 hz1 hz2 rfl _ _ _ rfl HO2.out (some ⟨wr.heap.size, 0, none⟩) 1 1 [.int .i64 pn] rfl HR2.out (by intro u hu; simp at hu; subst hu; rfl) (by unfold maxLen; omega) (by omega) (by simp; omega) ?_; intro v2 w2 hown2 hg2 hob2)
   have hnext := nodesRel_next HB1.out HO1.out HP.out hown2 (by simp; omega) hg2
   clear hown2 hg2 hob2
   go_roundw
   case rel => exact ⟨k + 1, by omega, by go_num, hnext⟩
   case measure => simp [intOf]; omega
  ·obtain rfl : m = k := by omega
   rw [List.take_of_length_le (by have := HW.out.1; omega)] at hown
   obtain ⟨A', c', rfl, _, _⟩ := own_form hown
   have hfin : RowIs 3 1 m (ic (AM.nodes ps)) w (.returned (.slice A' m c')) wr := ⟨A', c', rfl, hown, hbel⟩
   have HF := h! hfin
   clear hfin hown hbel
   go_wp2_with fail
   go_ret
   exact HF.out
set_option maxRecDepth 100000 in
set_option maxHeartbeats 1000000 in
theorem rbest_any (B : Option Addr) (m d : Nat) (ps : List AM.Pr) (wi : ByteArray) (w : World) (hr : RdP w B m ps) (hm : m ≤ 9223372036854775807) :
  Calls Tryz.prog 73 #[.slice B m d, .string wi] w fun e w' => e = .returned (.string (AM.best ps wi)) ∧ w = w' := by
 obtain ⟨r, hrr⟩ : ∃ r, r = AM.best ps wi := ⟨_, rfl⟩
 rw [← hrr]
 have HS := h! (show AM.bestF 0 wi (ps.drop 0) = r by rw [hrr]; rfl)
 have HW := h! hr; clear hr hrr
 go_enter Tryz.func73, Tryz.ntmps73
 go_wp2_with fail
 go_loop [5, 6, 7] (fun x s i => ∃ (k : Nat) (b : Int) (t : ByteArray), k ≤ m ∧ i = .int .i64 k ∧ x = .int .i64 b ∧ s = .string t ∧ Hid (AM.bestF b t (ps.drop k) = r)) (fun _ _ i => m - (intOf i).toNat)
 case atStart => exact ⟨0, 0, wi, by omega, rfl, rfl, rfl, HS⟩
 case round =>
  clear HS
  obtain ⟨k, b, t, hk, rfl, rfl, rfl, HR⟩ := hrel
  by_cases hlt : k < m
  ·obtain ⟨bl, o, p, rfl, hbl, hp, c0, c1, c2⟩ := HW.out.at_ hlt
   have hkp : k < ps.length := (List.getElem?_eq_some_iff.1 hp).1
   have hpe : ps[k] = p := (List.getElem?_eq_some_iff.1 hp).2
   have hre := HR.out
   rw [List.drop_eq_getElem_cons hkp, hpe, AM.bestF] at hre
   obtain ⟨pn, pb, pv⟩ := p
   simp only at c0 c1 c2 hre
   clear hp hpe hkp HR
   by_cases hgt : b < pb
   ·rw [if_pos hgt] at hre
    have HN := h! hre; clear hre
    go_wp2_with fail
    go_round
    case rel => exact ⟨k + 1, pb, pv, by omega, by go_num, rfl, rfl, HN⟩
    case measure => simp [intOf]; omega
   ·rw [if_neg hgt] at hre
    have HN := h! hre; clear hre
    go_wp2_with fail
    go_round
    case rel => exact ⟨k + 1, b, t, by omega, by go_num, rfl, rfl, HN⟩
    case measure => simp [intOf]; omega
  ·obtain rfl : m = k := by omega
   have hd : t = r := by have := HR.out; rw [List.drop_of_length_le (by have := HW.out.1; omega)] at this; simpa [AM.bestF] using this
   have HD := h! hd
   clear hd HR
   go_wp2_with fail
   go_ret
   exact ⟨by rw [HD.out]; rfl, rfl⟩
set_option maxRecDepth 100000 in
set_option maxHeartbeats 4000000 in
theorem rsame_any (v : Value) (a : AM.At) (u : Value) (b : AM.At) (w : World) (H : AtIs w v a) (K : AtIs w u b) (F : Fit a) (G : Fit b) :
  Calls Tryz.prog 35 #[v, u] w (BoolIs (decide (a = b)) w) := by
 rw [at_eq2]
 obtain ⟨A, n, c, B, m, d, C, k, f, rfl, h1, h2, h3⟩ := H
 obtain ⟨f1, f2, f3⟩ := AtIs.fit_n h1 h2 h3 F
 obtain ⟨A', n', c', B', m', d', C', k', f', rfl, i1, i2, i3⟩ := K
 obtain ⟨j1, j2, j3⟩ := AtIs.fit_n i1 i2 i3 G
 obtain ⟨ph, ba, ms, wi, va, ps, ac⟩ := a
 obtain ⟨ph', ba', ms', wi', va', ps', ac'⟩ := b
 simp only at h1 h2 h3 i1 i2 i3 ⊢
 clear F G
 obtain ⟨W0, hW0⟩ : ∃ W0, W0 = (w.alloc (.cells #[.int .u8 ph, .int .i64 ba, .slice A n c, .string wi, .string va, .slice B m d, .slice C k f] 57)).alloc (.cells #[.int .u8 ph', .int .i64 ba', .slice A' n' c', .string wi', .string va', .slice B' m' d', .slice C' k' f'] 57) := ⟨_, rfl⟩
 have hb0 : Below w.heap.size w W0 := by rw [hW0]; exact ((Below.refl _ _).alloc n! _).alloc (by simp) _
 have X0 := h! (show Box W0 w.heap.size 57 #[.int .u8 ph, .int .i64 ba, .slice A n c, .string wi, .string va, .slice B m d, .slice C k f] by rw [hW0]; exact (Box.new _ _ _).alloc _)
 have Y0 := h! (show Box W0 (w.heap.size + 1) 57 #[.int .u8 ph', .int .i64 ba', .slice A' n' c', .string wi', .string va', .slice B' m' d', .slice C' k' f'] by rw [hW0]; exact Box.new_at _ (by simp))
 have HB0 := h! hb0
 have C1 := h! (fun q => sameInts_any A n c ms A' n' c' ms' (W0.drewN q) ((h1.below hb0).drewN q) ((i1.below hb0).drewN q) (by omega) (by omega))
 have C3 := h! (fun q => sameInts_any C k f ac C' k' f' ac' (W0.drewN q) ((h3.below hb0).drewN q) ((i3.below hb0).drewN q) (by omega) (by omega))
 have H2 := h! (h2.below hb0)
 have I2 := h! (i2.below hb0)
 have hl : m ≠ m' → decide (ps = ps') = false := fun h => by simpa using fun e => h (by have := h2.1; have := i2.1; rw [e] at *; omega)
 have HL := h! hl
 clear hb0 h1 h2 h3 i1 i2 i3 hl
 generalize decide (ms = ms') = r5 at C1 ⊢
 generalize decide (ac = ac') = r7 at C3 ⊢
 obtain ⟨r6, hr6⟩ : ∃ r, r = decide (ps = ps') := ⟨_, rfl⟩
 rw [← hr6] at HL ⊢
 have HR := h! hr6; clear hr6
 rcases e0 : ph == ph' with _ | _
 ·
  have n0 : (ph != ph') = true := by simpa using e0
  go_enter Tryz.func35, Tryz.ntmps35
  rw [hW0] at HB0
  go_wp2_with fail
  go_ret
  exact bool_ret (by first | rfl | (simp; done) | (simp [e2]; done) | (simp [e2, e3]; done)) HB0.out
 have n0 : (ph != ph') = false := by simpa using e0
 rcases e1 : ba == ba' with _ | _
 ·
  have n1 : (ba != ba') = true := by simpa using e1
  go_enter Tryz.func35, Tryz.ntmps35
  rw [hW0] at HB0
  go_wp2_with fail
  go_ret
  exact bool_ret (by first | rfl | (simp; done) | (simp [e2]; done) | (simp [e2, e3]; done)) HB0.out
 have n1 : (ba != ba') = false := by simpa using e1
 go_enter Tryz.func35, Tryz.ntmps35
 go_wp2_with fail
 rw [← hW0]
 clear hW0
 refine (C1.out 0).mono ?_
 rintro e w1 ⟨rfl, q1, rfl⟩
 obtain ⟨⟨x0, x1, x2, x3, x4, x5, x6⟩, _⟩ := X0.out.seven
 obtain ⟨⟨y0, y1, y2, y3, y4, y5, y6⟩, _⟩ := Y0.out.seven
 cases r5
 ·
  go_wp2_with fail
  go_ret
  exact bool_ret (by first | rfl | (simp; done) | (simp [e2]; done) | (simp [e2, e3]; done)) (below_drewN HB0.out _)
 rcases e2 : wi.toList == wi'.toList with _ | _
 ·
  go_wp2_with fail
  go_ret
  exact bool_ret (by first | rfl | (simp; done) | (simp [e2]; done) | (simp [e2, e3]; done)) (below_drewN HB0.out _)
 rcases e3 : va.toList == va'.toList with _ | _
 ·
  go_wp2_with fail
  go_ret
  exact bool_ret (by first | rfl | (simp; done) | (simp [e2]; done) | (simp [e2, e3]; done)) (below_drewN HB0.out _)
 by_cases hmm : m = m'
 ·
  subst hmm
  have n4 : ((m : Int) != (m : Int)) = false := by simp
  have HS := h! (show ps.take 0 = ps'.take 0 by simp)
  go_wp2_with fail
  refine (C3.out _).mono ?_
  rintro e w1 ⟨rfl, q2, rfl⟩
  cases r7
  ·
   go_wp2_with fail
   go_ret
   exact bool_ret (by first | rfl | (simp; done) | (simp [e2]; done) | (simp [e2, e3]; done)) (below_drewN HB0.out _)
  go_wp2_with fail
  go_loopw [5] (fun i wr => ∃ k q : Nat, k ≤ m ∧ i = .int .i64 k ∧ wr = W0.drewN q ∧ Hid (ps.take k = ps'.take k)) (fun i _ => m - (intOf i).toNat)
  case atStart => exact ⟨0, _, by omega, rfl, rfl, HS⟩
  case round =>
   clear HS
   obtain ⟨j, q, hk, rfl, rfl, HT⟩ := hrel
   by_cases hlt : j < m
   ·obtain ⟨bl1, o1, p1, rfl, _, g1, c0, c1, c2⟩ := H2.out.at_ hlt
    obtain ⟨bl2, o2, p2, rfl, _, g2, d0, d1, d2⟩ := I2.out.at_ hlt
    have hk0 : (0 : Int) ≤ (j : Int) := by omega
    have hkn : (j : Int) < (m : Int) := by omega
    by_cases he : p1 = p2
    ·subst he
     have HT2 := h! (take_snoc_eq HT.out g1 g2 rfl)
     clear g1 g2 HT
     obtain ⟨pn, pb, pv⟩ := p1
     simp only at c0 c1 c2 d0 d1 d2
     go_wp2_with fail
     go_quiet (fail)
     go_wp2_with fail
     go_roundw
     case rel => exact ⟨j + 1, q + nq, by omega, by go_num, by simp, HT2⟩
     case measure => simp [intOf]; omega
    ·have HN := h! (show r6 = false by rw [HR.out]; simpa using ne_of_at g1 g2 he)
     have hw := pr_ways he
     clear g1 g2 HT he
     obtain ⟨pn, pb, pv⟩ := p1
     obtain ⟨qn, qb, qv⟩ := p2
     simp only at c0 c1 c2 d0 d1 d2 hw
     rcases hw with z1 | ⟨z1, z2⟩ | ⟨z1, z2, z3⟩
     all_goals
      go_wp2_with fail
      go_quiet (fail)
      go_wp2_with fail
      go_ret
      exact bool_ret (by rw [HN.out]; first | rfl | (simp; done) | (simp [e2]; done) | (simp [e2, e3]; done)) (below_drewN (below_drewN HB0.out _) _)
   ·obtain rfl : m = j := by omega
    have ht : ps = ps' := by
     have := HT.out
     rwa [List.take_of_length_le (by have := H2.out.1; omega), List.take_of_length_le (by have := I2.out.1; omega)] at this
    have HE := h! (show r6 = true by rw [HR.out]; simpa using ht)
    clear ht HT
    go_wp2_with fail
    go_ret
    exact bool_ret (by rw [HE.out]; first | rfl | (simp; done) | (simp [e2]; done) | (simp [e2, e3]; done)) (below_drewN HB0.out _)
 ·
  have n4 : ((m : Int) != (m' : Int)) = true := by simp; omega
  have HN := h! (HL.out hmm)
  go_wp2_with fail
  go_ret
  exact bool_ret (by rw [HN.out]; first | rfl | (simp; done) | (simp [e2]; done) | (simp [e2, e3]; done)) (below_drewN HB0.out _)
def TwinSt (w W : World) (F G H : Array Value) : Prop :=
 Box W w.heap.size 57 F ∧ Box W (w.heap.size + 1) 57 G ∧ Box W (w.heap.size + 1 + 1) 57 H ∧ Below w.heap.size w W
theorem TwinSt.step {w W w2 : World} {F G H : Array Value} (h : TwinSt w W F G H) (hg : W.grownBy w2 none) (i : Nat) (x : Value) : TwinSt w (w2.setCell ⟨w.heap.size + 1 + 1, i, none⟩ x) F G (H.setIfInBounds i x) :=
 ⟨(h.1.grown hg (by simp)).far (by show w.heap.size ≠ w.heap.size + 1 + 1; omega) x, (h.2.1.grown hg (by simp)).far (by show w.heap.size + 1 ≠ w.heap.size + 1 + 1; omega) x, (h.2.2.1.grown hg (by simp)).stored i x, (h.2.2.2.grown hg h.2.2.2.size (fun g hg => by simp at hg)).setCell (by show w.heap.size ≤ w.heap.size + 1 + 1; omega) x⟩
theorem TwinSt.size {w W : World} {F G H : Array Value} (h : TwinSt w W F G H) : w.heap.size + 1 + 1 < W.heap.size := h.2.2.1.lt
theorem own_step {W w2 : World} {base s n g i : Nat} {e : TypeId} {v : Value} {xs : List Value} (h : W.ownsRow base e s v n xs) (hg : W.grownBy w2 none) (hb : g < base) (x : Value) : (w2.setCell ⟨g, i, none⟩ x).ownsRow base e s v n xs :=
 own_set1 (own_grown h hg (fun g _ => by simp)) hb x
set_option maxRecDepth 100000 in
set_option maxHeartbeats 2000000 in
theorem rtwin_any (v : Value) (a : AM.At) (w : World) (H : AtIs w v a) (F : Fit a) :
  Calls Tryz.prog 22 #[v] w (AtRet a w) := by
 obtain ⟨i0, hi, hz0, hz1, hz2⟩ := info_parts info_ai
 obtain ⟨j0, hj, hy0, hy1, hy2⟩ := info_parts info_apr
 obtain ⟨A, n, c, B, m, d, C, k, f, rfl, h1, h2, h3⟩ := H
 obtain ⟨f1, f2, f3⟩ := AtIs.fit_n h1 h2 h3 F
 have l1 : a.ms.length = n := by have := h1.1; rwa [ic_length] at this
 have l2 : a.ps.length = m := h2.1
 have l3 : a.ac.length = k := by have := h3.1; rwa [ic_length] at this
 obtain ⟨ph, ba, ms, wi, va, ps, ac⟩ := a
 simp only at h1 h2 h3 l1 l2 l3 ⊢
 clear F
 obtain ⟨W0, hW0⟩ : ∃ W0, W0 = ((w.alloc (.cells #[.int .u8 ph, .int .i64 ba, .slice A n c, .string wi, .string va, .slice B m d, .slice C k f] 57)).alloc (.cells #[.int .u8 0, .int .i64 0, .slice none 0 0, .string ⟨#[]⟩, .string ⟨#[]⟩, .slice none 0 0, .slice none 0 0] 57)).alloc (.cells #[.int .u8 ph, .int .i64 ba, .slice A n c, .string wi, .string va, .slice B m d, .slice C k f] 57) := ⟨_, rfl⟩
 have ht0 : TwinSt w W0 #[.int .u8 ph, .int .i64 ba, .slice A n c, .string wi, .string va, .slice B m d, .slice C k f] #[.int .u8 0, .int .i64 0, .slice none 0 0, .string ⟨#[]⟩, .string ⟨#[]⟩, .slice none 0 0, .slice none 0 0] #[.int .u8 ph, .int .i64 ba, .slice A n c, .string wi, .string va, .slice B m d, .slice C k f] := by
  rw [hW0]
  exact ⟨((Box.new _ _ _).alloc _).alloc _, (Box.new_at _ (by simp)).alloc _, Box.new_at _ (by simp), (((Below.refl _ _).alloc n! _).alloc (by simp) _).alloc (by simp; omega) _⟩
 have hq := ht0.2.2.2
 have R1 := h! (fun (W : World) (hb : Below w.heap.size w W) => (h1.below hb).g)
 have R2 := h! (fun (W : World) (hb : Below w.heap.size w W) => (h2.below hb).g)
 have R3 := h! (fun (W : World) (hb : Below w.heap.size w W) => (h3.below hb).g)
 have T0 := h! ht0
 clear h1 h2 h3 hq ht0
 obtain ⟨⟨s0, s1, s2, s3, s4, s5, s6⟩, _⟩ := T0.out.1.seven
 go_enter Tryz.func22, Tryz.ntmps22
 go_upto_region 2 with (fail)
 rw [← hW0]
 clear hW0
 have HN1 := h! (World.ownsRow_nil W0 W0.heap.size 3 1)
 go_upto_region 3 with (at_builtin; refine wpList_append_g _ rfl _ _ 22 rfl W0.heap.size 3 i0 (.int .i64 0) 1 8 Tryz.underlying22 hi hz0 hz1 hz2 rfl (by omega) (.slice none 0 0) _ _ rfl HN1.out A n c (ic ms) rfl (R1.out _ T0.out.2.2.2) (ic_one _) (by unfold maxLen; omega) (by omega) n! ?_; intro v2 w1 o1 g1 ob1; simp only [Nat.zero_add, List.nil_append] at o1; obtain ⟨A1, c1, rfl, _, _⟩ := own_form o1; obtain ⟨_, z0, z1, z2, z3, z4, z5, z6⟩ := (T0.out.2.2.1.grown g1 (by simp [Value.ownBlock])).seven)
 clear s0 s1 s2 s3 s4 s5 s6 z0 z1 z2 z3 z4 z5 z6 HN1 ob1
 have T1 : Hid (TwinSt w (w1.setCell ⟨w.heap.size + 1 + 1, 2, none⟩ (.slice A1 n c1)) #[.int .u8 ph, .int .i64 ba, .slice A n c, .string wi, .string va, .slice B m d, .slice C k f] #[.int .u8 0, .int .i64 0, .slice none 0 0, .string ⟨#[]⟩, .string ⟨#[]⟩, .slice none 0 0, .slice none 0 0] #[.int .u8 ph, .int .i64 ba, .slice A1 n c1, .string wi, .string va, .slice B m d, .slice C k f]) := h! (by simpa using T0.out.step g1 2 (.slice A1 n c1))
 have O1 := h! (own_set1 (k := 2) o1 T0.out.size (.slice A1 n c1))
 have L1 : Hid (∀ q, Value.ownBlock (.slice A1 n c1) = some q → W0.heap.size ≤ q ∧ q < (w1.setCell ⟨w.heap.size + 1 + 1, 2, none⟩ (.slice A1 n c1)).heap.size) := h! (fun q hq => by rw [size_set]; exact o1.lt q hq)
 have G1 := h! (show W0.heap.size ≤ (w1.setCell ⟨w.heap.size + 1 + 1, 2, none⟩ (.slice A1 n c1)).heap.size by rw [size_set]; exact g1.size)
 clear o1 g1
 generalize w1.setCell ⟨w.heap.size + 1 + 1, 2, none⟩ (.slice A1 n c1) = W1 at T1 L1 G1 O1 ⊢
 obtain ⟨⟨s0, s1, s2, s3, s4, s5, s6⟩, _⟩ := T1.out.1.seven
 have HN2 := h! (World.ownsRow_nil W1 W1.heap.size 86 3)
 go_upto_region 4 with (at_builtin; refine wpList_append_g _ rfl _ _ 55 rfl W1.heap.size 86 j0 _ 3 32 Tryz.underlying55 hj hy0 hy1 hy2 rfl (by omega) (.slice none 0 0) _ _ rfl HN2.out B m d (pp ps) rfl (R2.out _ T1.out.2.2.2) (pp_one _) (by unfold maxLen; omega) (by omega) n! ?_; intro v2 w2 o2 g2 ob2; simp only [Nat.zero_add, List.nil_append] at o2; obtain ⟨A2, c2, rfl, _, _⟩ := own_form o2; obtain ⟨_, z0, z1, z2, z3, z4, z5, z6⟩ := (T1.out.2.2.1.grown g2 (by simp [Value.ownBlock])).seven)
 clear s0 s1 s2 s3 s4 s5 s6 z0 z1 z2 z3 z4 z5 z6 HN2 ob2
 have T2 : Hid (TwinSt w (w2.setCell ⟨w.heap.size + 1 + 1, 5, none⟩ (.slice A2 m c2)) #[.int .u8 ph, .int .i64 ba, .slice A n c, .string wi, .string va, .slice B m d, .slice C k f] #[.int .u8 0, .int .i64 0, .slice none 0 0, .string ⟨#[]⟩, .string ⟨#[]⟩, .slice none 0 0, .slice none 0 0] #[.int .u8 ph, .int .i64 ba, .slice A1 n c1, .string wi, .string va, .slice A2 m c2, .slice C k f]) := h! (by simpa using T1.out.step g2 5 (.slice A2 m c2))
 have O2 := h! (own_set1 (k := 5) o2 T1.out.size (.slice A2 m c2))
 have L2 : Hid (∀ q, Value.ownBlock (.slice A2 m c2) = some q → W1.heap.size ≤ q ∧ q < (w2.setCell ⟨w.heap.size + 1 + 1, 5, none⟩ (.slice A2 m c2)).heap.size) := h! (fun q hq => by rw [size_set]; exact o2.lt q hq)
 have G2 := h! (show W1.heap.size ≤ (w2.setCell ⟨w.heap.size + 1 + 1, 5, none⟩ (.slice A2 m c2)).heap.size by rw [size_set]; exact g2.size)
 have O1 := h! (own_step (i := 5) O1.out g2 (show w.heap.size + 1 + 1 < W0.heap.size from T0.out.size) (.slice A2 m c2))
 clear o2 g2
 generalize w2.setCell ⟨w.heap.size + 1 + 1, 5, none⟩ (.slice A2 m c2) = W2 at T2 L2 G2 O1 O2 ⊢
 obtain ⟨⟨s0, s1, s2, s3, s4, s5, s6⟩, _⟩ := T2.out.1.seven
 have HN3 := h! (World.ownsRow_nil W2 W2.heap.size 3 1)
 go_upto_region 5 with (at_builtin; refine wpList_append_g _ rfl _ _ 22 rfl W2.heap.size 3 i0 (.int .i64 0) 1 8 Tryz.underlying22 hi hz0 hz1 hz2 rfl (by omega) (.slice none 0 0) _ _ rfl HN3.out C k f (ic ac) rfl (R3.out _ T2.out.2.2.2) (ic_one _) (by unfold maxLen; omega) (by omega) n! ?_; intro v2 w3 o3 g3 ob3; simp only [Nat.zero_add, List.nil_append] at o3; obtain ⟨A3, c3, rfl, _, _⟩ := own_form o3; obtain ⟨_, z0, z1, z2, z3, z4, z5, z6⟩ := (T2.out.2.2.1.grown g3 (by simp [Value.ownBlock])).seven)
 clear s0 s1 s2 s3 s4 s5 s6 z0 z1 z2 z3 z4 z5 z6 HN3 ob3
 have T3 : Hid (TwinSt w (w3.setCell ⟨w.heap.size + 1 + 1, 6, none⟩ (.slice A3 k c3)) #[.int .u8 ph, .int .i64 ba, .slice A n c, .string wi, .string va, .slice B m d, .slice C k f] #[.int .u8 0, .int .i64 0, .slice none 0 0, .string ⟨#[]⟩, .string ⟨#[]⟩, .slice none 0 0, .slice none 0 0] #[.int .u8 ph, .int .i64 ba, .slice A1 n c1, .string wi, .string va, .slice A2 m c2, .slice A3 k c3]) := h! (by simpa using T2.out.step g3 6 (.slice A3 k c3))
 have O3 := h! (own_set1 (k := 6) o3 T2.out.size (.slice A3 k c3))
 have L3 : Hid (∀ q, Value.ownBlock (.slice A3 k c3) = some q → W2.heap.size ≤ q ∧ q < (w3.setCell ⟨w.heap.size + 1 + 1, 6, none⟩ (.slice A3 k c3)).heap.size) := h! (fun q hq => by rw [size_set]; exact o3.lt q hq)
 have G3 := h! (show W2.heap.size ≤ (w3.setCell ⟨w.heap.size + 1 + 1, 6, none⟩ (.slice A3 k c3)).heap.size by rw [size_set]; exact g3.size)
 have O1 := h! (own_step (i := 6) O1.out g3 (show w.heap.size + 1 + 1 < W0.heap.size from T0.out.size) (.slice A3 k c3))
 have O2 := h! (own_step (i := 6) O2.out g3 (show w.heap.size + 1 + 1 < W1.heap.size from T1.out.size) (.slice A3 k c3))
 clear o3 g3
 generalize w3.setCell ⟨w.heap.size + 1 + 1, 6, none⟩ (.slice A3 k c3) = W3 at T3 L3 G3 O1 O2 O3 ⊢
 obtain ⟨⟨s0, s1, s2, s3, s4, s5, s6⟩, _⟩ := T3.out.1.seven
 clear s0 s1 s2 s3 s4 s5 s6
 obtain ⟨⟨s0, s1, s2, s3, s4, s5, s6⟩, _⟩ := T3.out.2.2.1.seven
 obtain ⟨_, z0, z1, z2, z3, z4, z5, z6⟩ := T3.out.2.1.seven
 have HF := h! (And.intro (own_put7 O1.out (g := w.heap.size + 1) (by have := T0.out.size; omega) (.int .u8 ph) (.int .i64 ba) (.slice A1 n c1) (.string wi) (.string va) (.slice A2 m c2) (.slice A3 k c3))
  (And.intro (own_put7 O2.out (g := w.heap.size + 1) (by have := T1.out.size; omega) (.int .u8 ph) (.int .i64 ba) (.slice A1 n c1) (.string wi) (.string va) (.slice A2 m c2) (.slice A3 k c3))
  (And.intro (own_put7 O3.out (g := w.heap.size + 1) (by have := T2.out.size; omega) (.int .u8 ph) (.int .i64 ba) (.slice A1 n c1) (.string wi) (.string va) (.slice A2 m c2) (.slice A3 k c3))
  (And.intro (below_put7 T3.out.2.2.2 (g := w.heap.size + 1) (by omega) (.int .u8 ph) (.int .i64 ba) (.slice A1 n c1) (.string wi) (.string va) (.slice A2 m c2) (.slice A3 k c3))
   (T3.out.2.1.put7 (.int .u8 ph) (.int .i64 ba) (.slice A1 n c1) (.string wi) (.string va) (.slice A2 m c2) (.slice A3 k c3))))))
 go_wp2_with fail
 unfold put7 at HF
 obtain ⟨q1, q3, q5, qb, qx⟩ := HF.out
 obtain ⟨⟨d0, d1, d2, d3, d4, d5, d6⟩, _⟩ := qx.seven
 have k1 := own_base q1 (show w.heap.size ≤ W0.heap.size by have := T0.out.size; omega)
 have k3 := own_base q3 (show w.heap.size ≤ W1.heap.size by have := T1.out.size; omega)
 have k5 := own_base q5 (show w.heap.size ≤ W2.heap.size by have := T2.out.size; omega)
 have kd := (fun q (hq : Value.ownBlock (.slice A1 n c1) = some q) => fun (hq2 : Value.ownBlock (.slice A3 k c3) = some q) => by
  have := L1.out q hq
  have := L3.out q hq2
  have := G2.out
  omega : ∀ q, Value.ownBlock (.slice A1 n c1) = some q → Value.ownBlock (.slice A3 k c3) ≠ some q)
 subst l1
 subst l2
 subst l3
 exact bodyPost_ret (v := .agg #[.int .u8 ph, .int .i64 ba, .slice A1 ms.length c1, .string wi, .string va, .slice A2 ps.length c2, .slice A3 ac.length c3]) (by simp [results, Tryz.results22, go_sem, d0, d1, d2, d3, d4, d5, d6]) rfl
  ⟨_, rfl, ⟨A1, c1, A2, c2, A3, c3, rfl, k1, k3, k5, kd⟩, qb⟩
set_option maxRecDepth 100000 in
set_option maxHeartbeats 4000000 in
theorem rmay_0 (ph ba : Int) (ms : List Int) (wi va : ByteArray) (ps : List AM.Pr) (ac : List Int) (A : Option Addr) (n c : Nat) (B : Option Addr) (m d : Nat) (C : Option Addr) (k f : Nat) (w : World) (h1 : Rd w A n (ic ms)) (h2 : RdP w B m ps) (h3 : Rd w C k (ic ac)) (F : Fit ⟨ph, ba, ms, wi, va, ps, ac⟩) (hp : ph = 0) :
  Calls Tryz.prog 42 #[.agg #[.int .u8 ph, .int .i64 ba, .slice A n c, .string wi, .string va, .slice B m d, .slice C k f]] w (BoolIs (AM.may ⟨ph, ba, ms, wi, va, ps, ac⟩) w) := by
 obtain ⟨f1, f2, f3⟩ := AtIs.fit_n (a := ⟨ph, ba, ms, wi, va, ps, ac⟩) h1 h2 h3 F
 have l1 : ms.length = n := by have := h1.1; rwa [ic_length] at this
 have l2 : ps.length = m := h2.1
 have l3 : ac.length = k := by have := h3.1; rwa [ic_length] at this
 obtain ⟨W0, hW0⟩ : ∃ W0, W0 = w.alloc (.cells #[.int .u8 ph, .int .i64 ba, .slice A n c, .string wi, .string va, .slice B m d, .slice C k f] 57) := ⟨_, rfl⟩
 have hb0 : Below w.heap.size w W0 := by rw [hW0]; exact (Below.refl _ _).alloc n! _
 have X0 := h! (show Box W0 w.heap.size 57 #[.int .u8 ph, .int .i64 ba, .slice A n c, .string wi, .string va, .slice B m d, .slice C k f] by rw [hW0]; exact Box.new _ _ _)
 have B0 := h! hb0
 have hst : AM.may ⟨ph, ba, ms, wi, va, ps, ac⟩ = ((ba == 0) && (decide (n = 0) && (wi.toList.isEmpty && (va.toList.isEmpty && (decide (m = 0) && decide (k = 0)))))) := by
  subst hp
  unfold AM.may AM.zero
  rw [if_pos rfl, Bool.eq_iff_iff, ← l1, ← l2, ← l3, str_no, str_no]
  simp only [decide_eq_true_eq, AM.At.mk.injEq, true_and, Bool.and_eq_true, beq_iff_eq, List.length_eq_zero_iff]
 have HS := h! hst
 subst hp
 generalize AM.may ⟨0, ba, ms, wi, va, ps, ac⟩ = r at HS ⊢
 clear hst hb0 h1 h2 h3 l1 l2 l3 F f1 f2 f3
 by_cases hba : ba = 0
 rotate_left
 ·have E0 := h! (show (ba == 0) = false by simpa using hba)
  have d0 : (ba == 0) = false := by simpa using hba
  clear hba
  go_enter Tryz.func42, Tryz.ntmps42
  go_upto_region 1 with (fail)
  rw [← hW0]
  clear hW0
  obtain ⟨⟨s0, s1, s2, s3, s4, s5, s6⟩, _⟩ := X0.out.seven
  go_wp2_with fail
  go_ret
  exact bool_ret (by rw [HS.out]; simp [E0.out]) B0.out
 subst hba
 by_cases hn : n = 0
 rotate_left
 ·have E0 := h! hn
  have d1 : (((n : Nat) : Int) == 0) = false := by simp; omega
  have d2 : (n == 0) = false := by simpa using hn
  have d3 : decide (n = 0) = false := by simpa using hn
  clear hn
  go_enter Tryz.func42, Tryz.ntmps42
  go_upto_region 1 with (fail)
  rw [← hW0]
  clear hW0
  obtain ⟨⟨s0, s1, s2, s3, s4, s5, s6⟩, _⟩ := X0.out.seven
  go_wp2_with fail
  go_ret
  exact bool_ret (by rw [HS.out]; simp [E0.out]) B0.out
 subst hn
 rcases e1 : wi.toList.isEmpty with _ | _
 ·have E0 := h! e1
  go_enter Tryz.func42, Tryz.ntmps42
  go_upto_region 1 with (fail)
  rw [← hW0]
  clear hW0
  obtain ⟨⟨s0, s1, s2, s3, s4, s5, s6⟩, _⟩ := X0.out.seven
  go_wp2_with fail
  go_ret
  exact bool_ret (by rw [HS.out]; simp [E0.out]) B0.out
 rcases e2 : va.toList.isEmpty with _ | _
 ·have E0 := h! e2
  go_enter Tryz.func42, Tryz.ntmps42
  go_upto_region 1 with (fail)
  rw [← hW0]
  clear hW0
  obtain ⟨⟨s0, s1, s2, s3, s4, s5, s6⟩, _⟩ := X0.out.seven
  go_wp2_with fail
  go_ret
  exact bool_ret (by rw [HS.out]; simp [E0.out]) B0.out
 by_cases hm : m = 0
 rotate_left
 ·have E0 := h! hm
  have d1 : (((m : Nat) : Int) == 0) = false := by simp; omega
  have d2 : (m == 0) = false := by simpa using hm
  have d3 : decide (m = 0) = false := by simpa using hm
  clear hm
  go_enter Tryz.func42, Tryz.ntmps42
  go_upto_region 1 with (fail)
  rw [← hW0]
  clear hW0
  obtain ⟨⟨s0, s1, s2, s3, s4, s5, s6⟩, _⟩ := X0.out.seven
  go_wp2_with fail
  go_ret
  exact bool_ret (by rw [HS.out]; simp [E0.out]) B0.out
 subst hm
 by_cases hk : k = 0
 rotate_left
 ·have E0 := h! hk
  have d1 : (((k : Nat) : Int) == 0) = false := by simp; omega
  have d2 : (k == 0) = false := by simpa using hk
  have d3 : decide (k = 0) = false := by simpa using hk
  clear hk
  go_enter Tryz.func42, Tryz.ntmps42
  go_upto_region 1 with (fail)
  rw [← hW0]
  clear hW0
  obtain ⟨⟨s0, s1, s2, s3, s4, s5, s6⟩, _⟩ := X0.out.seven
  go_wp2_with fail
  go_ret
  exact bool_ret (by rw [HS.out]; simp [E0.out]) B0.out
 subst hk
 have E1 := h! e1
 have E2 := h! e2
 go_enter Tryz.func42, Tryz.ntmps42
 go_upto_region 1 with (fail)
 rw [← hW0]
 clear hW0
 obtain ⟨⟨s0, s1, s2, s3, s4, s5, s6⟩, _⟩ := X0.out.seven
 go_wp2_with fail
 go_ret
 exact bool_ret (by rw [HS.out]; simp [E1.out, E2.out]) B0.out
end Go.Proofs.YtiiobafcgdelmaaGreat
