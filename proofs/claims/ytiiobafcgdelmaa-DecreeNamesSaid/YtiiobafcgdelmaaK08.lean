/-
  What package attempt answers of promises and lists: isPromise, arePromises, nodesOf, Best, isMost, areSome, wrong, isAnswer. Conditions: as each theorem says.
  What package attempt answers of lists of nodes: nodesOf, isMost, areSome, wrong, isAnswer. Conditions: as each theorem says.
-/
import Derived.Test.YtiiobafcgdelmaaK03
import Derived.Test.YtiiobafcgdelmaaK06
import Derived.Test.YtiiobafcgdelmaaK07
namespace Go.Proofs.Ytiiobafcgdelmaa
open Go.RowKit
set_option linter.unusedVariables false

theorem str_no (s : ByteArray) : s.toList.isEmpty = decide (s = .empty) := by
  rw [Bool.eq_iff_iff, List.isEmpty_iff, ByteArray.toList_eq, decide_eq_true_iff]
  constructor
  · intro h
    obtain ⟨⟨l⟩⟩ := s
    simp at h
    rw [h]; rfl
  · rintro rfl; rfl
/-- a bool, and nothing but new blocks -/
def BoolIs (b : Bool) (w : World) (e : Ending) (w' : World) : Prop := e = .returned (.bool b) ∧ Below w.heap.size w w'
theorem bool_ret {x y : Bool} {w w' : World} (h : y = x) (hb : Below w.heap.size w w') : BoolIs x w (.returned (.bool y)) w' := ⟨by rw [h], hb⟩
def IntIs (y : Int) (w : World) (e : Ending) (w' : World) : Prop := e = .returned (.int .i64 y) ∧ Below w.heap.size w w'

set_option maxRecDepth 100000 in
set_option maxHeartbeats 1000000 in
theorem isPromise_any (q : Int) (p : AM.Pr) (w : World) (F : FitP p) :
    Calls Try.prog 70 #[.int .i64 q, .agg #[.int .i64 p.n, .int .i64 p.b, .string p.v]] w (BoolIs (AM.okP q p) w) := by
  have hb0 : Below w.heap.size w (w.alloc (.cells #[.int .i64 p.n, .int .i64 p.b, .string p.v] 79)) := (Below.refl _ _).alloc (Nat.le_refl _) _
  have HB0 := Lib.hid hb0; clear hb0
  obtain ⟨b1, b2, hs⟩ := F
  unfold maxLen at hs
  have hst : AM.okP q p = if p.b = 0 then p.v.toList.isEmpty else decide (BM.good p.b) && (decide (p.b < q) && decide ((p.v.size : Int) ≤ 1024)) := by
    unfold AM.okP
    split
    · rw [str_no]
    · congr 2
      rw [decide_eq_decide]; omega
  generalize AM.okP q p = r at hst ⊢
  obtain ⟨n, b, s⟩ := p
  simp only at b1 b2 hs hst HB0 ⊢
  have HS := Lib.hid hst; clear hst
  by_cases hz : b = 0
  · subst hz
    go_enter Try.func70, Try.ntmps70
    go_wp2_with fail
    go_ret
    exact bool_ret (by rw [HS.out]; simp) HB0.out
  · have hz' : (b == 0) = false := by simpa using hz
    by_cases hg : BM.good b
    · have HO := Lib.hid (show BM.OfIs b (b / 8) (b % 8) 0 from .inl ⟨hg, rfl, rfl, rfl⟩)
      have HG := Lib.hid hg; clear hg
      by_cases hp : b < q
      · go_enter Try.func70, Try.ntmps70
        go_wp2_with fail
        refine (check_any HO.out b1 b2 _).mono ?_
        rintro e w1 ⟨rfl, rfl⟩
        go_wp2_with fail
        go_ret
        exact bool_ret (by rw [HS.out]; simp [hz, HG.out, show b < q by omega]) HB0.out
      · go_enter Try.func70, Try.ntmps70
        go_wp2_with fail
        refine (check_any HO.out b1 b2 _).mono ?_
        rintro e w1 ⟨rfl, rfl⟩
        go_wp2_with fail
        go_ret
        exact bool_ret (by rw [HS.out]; simp [hz, show ¬ b < q by omega]) HB0.out
    · have HO := Lib.hid (show BM.OfIs b 0 0 50 from .inr ⟨hg, rfl, rfl, rfl⟩)
      have HG := Lib.hid hg; clear hg
      go_enter Try.func70, Try.ntmps70
      go_wp2_with fail
      refine (check_any HO.out b1 b2 _).mono ?_
      rintro e w1 ⟨rfl, rfl⟩
      go_wp2_with fail
      go_ret
      exact bool_ret (by rw [HS.out]; simp [hz, HG.out]) HB0.out

/-- the loop over promises: what is left decides -/
def AreRel (w : World) (q : Int) (ps : List AM.Pr) (r : Bool) (k : Nat) (wr : World) : Prop := Below w.heap.size w wr ∧ (ps.drop k).all (AM.okP q) = r
set_option maxRecDepth 100000 in
set_option maxHeartbeats 1000000 in
theorem arePromises_any (q : Int) (B : Option Addr) (m d : Nat) (ps : List AM.Pr) (w : World) (hr : RdP w B m ps) (hm : m ≤ 9223372036854775807) (F : ∀ p ∈ ps, FitP p) :
    Calls Try.prog 77 #[.int .i64 q, .slice B m d] w (BoolIs (ps.all (AM.okP q)) w) := by
  obtain ⟨r, hrr⟩ : ∃ r, r = ps.all (AM.okP q) := ⟨_, rfl⟩
  rw [← hrr]
  have hst : AreRel w q ps r 0 w := ⟨Below.refl _ _, hrr.symm⟩
  have HS := Lib.hid hst; clear hst hrr
  have HF := Lib.hid F; clear F
  have HW := Lib.hid hr; clear hr
  go_enter Try.func77, Try.ntmps77
  go_wp2_with fail
  go_loopw [9] (fun i wr => ∃ k : Nat, k ≤ m ∧ i = .int .i64 k ∧ AreRel w q ps r k wr) (fun i _ => m - (intOf i).toNat)
  case atStart => exact ⟨0, by omega, rfl, HS.out⟩
  case round =>
    clear HS
    obtain ⟨k, hk, rfl, hbel, hre⟩ := hrel
    by_cases hlt : k < m
    · obtain ⟨bl, o, p, rfl, hbl, hp, c0, c1, c2⟩ := (HW.out.below hbel).at_ hlt
      have hkp : k < ps.length := (List.getElem?_eq_some_iff.1 hp).1
      have hpe : ps[k] = p := (List.getElem?_eq_some_iff.1 hp).2
      rw [List.drop_eq_getElem_cons hkp, hpe, List.all_cons] at hre
      have hfp : FitP p := HF.out p (by rw [← hpe]; exact List.getElem_mem ..)
      have hc := fun W => isPromise_any q p W hfp
      obtain ⟨n, b, s⟩ := p
      simp only at c0 c1 c2 hc
      have HC := Lib.hid hc
      have hb1 : Below w.heap.size w (wr.alloc (.cells #[.int .i64 n, .int .i64 b, .string s] 79)) := hbel.alloc hbel.size _
      have HB1 := Lib.hid hb1
      clear hc hfp hp hpe hkp hb1 hbel
      rcases hok : AM.okP q ⟨n, b, s⟩ with _ | _
      · rw [hok] at hre
        have HR := Lib.hid hre
        have HOK := Lib.hid hok
        clear hre hok
        go_wp2_with fail
        refine (HC.out _).mono ?_
        rintro e w1 ⟨rfl, hb⟩
        rw [HOK.out]
        have HB2 := Lib.hid (bmore HB1.out hb (Nat.le_refl _)); clear hb
        go_wp2_with fail
        go_ret
        exact bool_ret (by simpa using HR.out) HB2.out
      · rw [hok, Bool.true_and] at hre
        have HR := Lib.hid hre
        have HOK := Lib.hid hok
        clear hre hok
        go_wp2_with fail
        refine (HC.out _).mono ?_
        rintro e w1 ⟨rfl, hb⟩
        rw [HOK.out]
        have HB2 := Lib.hid (bmore HB1.out hb (Nat.le_refl _)); clear hb
        go_wp2_with fail
        go_roundw
        case rel => exact ⟨k + 1, by omega, by go_num, HB2.out, HR.out⟩
        case measure => simp [intOf]; omega
    · obtain rfl : m = k := by omega
      have hd : true = r := by rw [List.drop_of_length_le (by have := HW.out.1; omega)] at hre; simpa using hre
      have HD := Lib.hid hd
      have HB := Lib.hid hbel
      clear hd hre hbel
      go_wp2_with fail
      go_ret
      exact bool_ret HD.out HB.out

/-- the loop of Best -/
def BestRel (w : World) (g : Nat) (ps : List AM.Pr) (r : ByteArray) (k : Nat) (wr : World) : Prop :=
  Below w.heap.size w wr ∧ g < wr.heap.size ∧ ∃ (x b : Int) (s : ByteArray), Box wr g 79 #[.int .i64 x, .int .i64 b, .string s] ∧ AM.bestF b s (ps.drop k) = r
theorem put3_alloc {B g : Nat} {w wr : World} {x y z : Value} (h : Below B w (((wr.setCell ⟨g, 0, none⟩ x).setCell ⟨g, 1, none⟩ y).setCell ⟨g, 2, none⟩ z)) (hs : B < wr.heap.size) (o : Obj) :
    Below B w ((((wr.setCell ⟨g, 0, none⟩ x).setCell ⟨g, 1, none⟩ y).setCell ⟨g, 2, none⟩ z).alloc o) ∧ B < ((((wr.setCell ⟨g, 0, none⟩ x).setCell ⟨g, 1, none⟩ y).setCell ⟨g, 2, none⟩ z).alloc o).heap.size :=
  ⟨h.alloc (by simp [World.setCell]; omega) o, by simp [World.setCell]; omega⟩
def StrIs (s : ByteArray) (w : World) (e : Ending) (w' : World) : Prop := e = .returned (.string s) ∧ Below w.heap.size w w'
set_option maxRecDepth 100000 in
set_option maxHeartbeats 1000000 in
theorem best_any (B : Option Addr) (m d : Nat) (ps : List AM.Pr) (wi : ByteArray) (w : World) (hr : RdP w B m ps) (hm : m ≤ 9223372036854775807) :
    Calls Try.prog 84 #[.slice B m d, .string wi] w (StrIs (AM.best ps wi) w) := by
  obtain ⟨r, hrr⟩ : ∃ r, r = AM.best ps wi := ⟨_, rfl⟩
  rw [← hrr]
  have hst : BestRel w w.heap.size ps r 0 (w.alloc (.cells #[.int .i64 0, .int .i64 0, .string wi] 79)) :=
    ⟨(Below.refl _ _).alloc (Nat.le_refl _) _, by simp, 0, 0, wi, Box.new _ _ _, by rw [hrr]; rfl⟩
  have HS := Lib.hid hst; clear hst hrr
  have HW := Lib.hid hr; clear hr
  go_enter Try.func84, Try.ntmps84
  go_wp2_with fail
  go_loopw [12] (fun i wr => ∃ k : Nat, k ≤ m ∧ i = .int .i64 k ∧ BestRel w w.heap.size ps r k wr) (fun i _ => m - (intOf i).toNat)
  case atStart => exact ⟨0, by omega, rfl, HS.out⟩
  case round =>
    clear HS
    obtain ⟨k, hk, rfl, hbel, hgs, x, b, s, hbox, hre⟩ := hrel
    obtain ⟨d0, d1, d2, f0, f1, f2⟩ := hbox.three
    by_cases hlt : k < m
    · obtain ⟨bl, o, p, rfl, hbl, hp, c0, c1, c2⟩ := (HW.out.below hbel).at_ hlt
      have hkp : k < ps.length := (List.getElem?_eq_some_iff.1 hp).1
      have hpe : ps[k] = p := (List.getElem?_eq_some_iff.1 hp).2
      rw [List.drop_eq_getElem_cons hkp, hpe, AM.bestF] at hre
      obtain ⟨pn, pb, pv⟩ := p
      simp only at c0 c1 c2 hre
      have hb1 : Below w.heap.size w (wr.alloc (.cells #[.int .i64 pn, .int .i64 pb, .string pv] 79)) := hbel.alloc hbel.size _
      have hx1 := hbox.alloc (.cells #[.int .i64 pn, .int .i64 pb, .string pv] 79)
      have hsz : w.heap.size < (wr.alloc (.cells #[.int .i64 pn, .int .i64 pb, .string pv] 79)).heap.size := by simp; omega
      obtain ⟨d0', d1', d2', f0', f1', f2'⟩ := hx1.three
      have HB1 := Lib.hid hb1
      have HX1 := Lib.hid hx1
      have HSZ := Lib.hid hsz
      have hn0 := below_put3 hbel (Nat.le_refl w.heap.size) (.int .i64 pn) (.int .i64 pb) (.string pv)
      have HN1 := Lib.hid (put3_alloc hn0 hgs (.cells #[.int .i64 pn, .int .i64 pb, .string pv] 79))
      have HN2 := Lib.hid ((hbox.put3 (.int .i64 pn) (.int .i64 pb) (.string pv)).alloc (.cells #[.int .i64 pn, .int .i64 pb, .string pv] 79))
      clear hn0
      have hne : ¬ wr.heap.size = w.heap.size := by omega
      have hne2 : ¬ w.heap.size = wr.heap.size := by omega
      clear hp hpe hkp hb1 hbel hx1 hsz hbox
      by_cases hgt : b < pb
      · rw [if_pos hgt] at hre
        have HR := Lib.hid hre; clear hre
        go_wp2_with fail
        go_roundw
        case rel => exact ⟨k + 1, by omega, by go_num, HN1.out.1, HN1.out.2, pn, pb, pv, HN2.out, HR.out⟩
        case measure => simp [intOf]; omega
      · rw [if_neg hgt] at hre
        have HR := Lib.hid hre; clear hre
        go_wp2_with fail
        go_roundw
        case rel => exact ⟨k + 1, by omega, by go_num, HB1.out, HSZ.out, x, b, s, HX1.out, HR.out⟩
        case measure => simp [intOf]; omega
    · obtain rfl : m = k := by omega
      have hd : s = r := by rw [List.drop_of_length_le (by have := HW.out.1; omega)] at hre; simpa [AM.bestF] using hre
      have HD := Lib.hid hd
      have HB := Lib.hid hbel
      clear hd hre hbel hbox
      go_wp2_with fail
      go_ret
      exact ⟨by rw [HD.out]; rfl, HB.out⟩
end Go.Proofs.Ytiiobafcgdelmaa

namespace Go.Proofs.Ytiiobafcgdelmaa
open Go.RowKit
set_option linter.unusedVariables false

theorem info_ai : (Try.prog.info? 3).map (fun i => (i.zero, i.size, i.bytes)) = some (some (.int .i64 0), 1, 8) := by kernel_rfl
/-- a row of the call's own -/
def RowIs (e : TypeId) (s n : Nat) (xs : List Value) (w : World) (x : Ending) (w' : World) : Prop := ∃ A c, x = .returned (.slice A n c) ∧ w'.ownsRow w.heap.size e s (.slice A n c) n xs ∧ Below w.heap.size w w'
/-- the loop that gathers nodes -/
def NodesRel (w : World) (ps : List AM.Pr) (k : Nat) (v : Value) (wr : World) : Prop := Below w.heap.size w wr ∧ wr.ownsRow w.heap.size 3 1 v k (ic (AM.nodes (ps.take k)))
theorem nodesRel_next {w wr w2 : World} {ps : List AM.Pr} {k : Nat} {v u : Value} {p : AM.Pr} {o : Obj} (hbel : Below w.heap.size w wr) (hown : wr.ownsRow w.heap.size 3 1 v k (ic (AM.nodes (ps.take k)))) (hp : ps[k]? = some p)
    (ho : w2.ownsRow w.heap.size 3 1 u (k + 1) (ic (AM.nodes (ps.take k)) ++ [.int .i64 p.n])) (hs : w.heap.size ≤ (wr.alloc o).heap.size) (hg : (wr.alloc o).grownBy w2 v.ownBlock) : NodesRel w ps (k + 1) u w2 := by
  refine ⟨below_row (hbel.alloc hbel.size o) (own_below3 hown ((Below.refl _ _).alloc (Nat.le_refl _) _)) hs hg, ?_⟩
  have hk := (List.getElem?_eq_some_iff.1 hp).1
  have e : AM.nodes (ps.take (k + 1)) = AM.nodes (ps.take k) ++ [p.n] := by
    rw [List.take_succ_eq_append_getElem hk, (List.getElem?_eq_some_iff.1 hp).2]
    simp [AM.nodes]
  rw [e, ic_append]
  exact ho
theorem rd_one (w : World) (t : TypeId) (x : Int) : Rd (w.alloc (.cells #[.int .i64 x] t)) (some ⟨w.heap.size, 0, none⟩) 1 [.int .i64 x] := rd_box (Box.new _ _ _) rfl rfl

set_option maxRecDepth 100000 in
set_option maxHeartbeats 1000000 in
theorem nodesOf_any (B : Option Addr) (m d : Nat) (ps : List AM.Pr) (w : World) (hr : RdP w B m ps) (hm : m ≤ 2000) :
    Calls Try.prog 72 #[.slice B m d] w (RowIs 3 1 m (ic (AM.nodes ps)) w) := by
  obtain ⟨i0, hi, hz0, hz1, hz2⟩ := info_parts info_ai
  have hst : NodesRel w ps 0 (.slice none 0 0) w := ⟨Below.refl _ _, World.ownsRow_nil _ _ _ _⟩
  have HS := Lib.hid hst; clear hst
  have HW := Lib.hid hr; clear hr
  go_enter Try.func72, Try.ntmps72
  go_wp2_with fail
  go_loopw [3, 8] (fun v i wr => ∃ k : Nat, k ≤ m ∧ i = .int .i64 k ∧ NodesRel w ps k v wr) (fun _ i _ => m - (intOf i).toNat)
  case atStart => exact ⟨0, by omega, rfl, HS.out⟩
  case round =>
    clear HS
    obtain ⟨k, hk, rfl, hbel, hown⟩ := hrel
    by_cases hlt : k < m
    · obtain ⟨bl, o, p, rfl, hbl, hp, c0, c1, c2⟩ := (HW.out.below hbel).at_ hlt
      obtain ⟨pn, pb, pv⟩ := p
      simp only at c0 c1 c2
      have hb1 : Below w.heap.size w (wr.alloc (.cells #[.int .i64 pn, .int .i64 pb, .string pv] 79)) := hbel.alloc hbel.size _
      have ho1 : (wr.alloc (.cells #[.int .i64 pn, .int .i64 pb, .string pv] 79)).ownsRow w.heap.size 3 1 _ k _ := own_below3 hown ((Below.refl _ _).alloc (Nat.le_refl _) _)
      have ho2 : ((wr.alloc (.cells #[.int .i64 pn, .int .i64 pb, .string pv] 79)).alloc (.cells #[.int .i64 pn] 3)).ownsRow w.heap.size 3 1 _ k _ := own_below3 ho1 ((Below.refl _ _).alloc (Nat.le_refl _) _)
      have hr2 := rd_one (wr.alloc (.cells #[.int .i64 pn, .int .i64 pb, .string pv] 79)) 3 pn
      rw [show (wr.alloc (.cells #[.int .i64 pn, .int .i64 pb, .string pv] 79)).heap.size = wr.heap.size + 1 by simp] at hr2
      have hsz := hbel.size
      have HB1 := Lib.hid hb1
      have HO1 := Lib.hid ho1
      have HO2 := Lib.hid ho2
      have HP := Lib.hid hp
      have HR2 := Lib.hid hr2
      clear hb1 ho1 ho2 hown hbel hp hr2
      go_wp2_with (at_builtin; refine wpList_append_rd _ rfl _ _ 22 rfl w.heap.size 3 i0 (.int .i64 0) 8 Try.underlying22 hi hz0 hz1 hz2 rfl _ _ _ rfl HO2.out (some ⟨wr.heap.size + 1, 0, none⟩) 1 1 [.int .i64 pn] rfl HR2.out (by intro u hu; simp at hu; subst hu; rfl) (by unfold maxLen; omega) (by omega) (by simp; omega) ?_; intro v2 w2 hown2 hg2 hob2)
      have hnext := nodesRel_next HB1.out HO1.out HP.out hown2 (by simp; omega) hg2
      clear hown2 hg2 hob2
      go_roundw
      case rel => exact ⟨k + 1, by omega, by go_num, hnext⟩
      case measure => simp [intOf]; omega
    · obtain rfl : m = k := by omega
      rw [List.take_of_length_le (by have := HW.out.1; omega)] at hown
      obtain ⟨A', c', rfl, _, _⟩ := own_form hown
      have hfin : RowIs 3 1 m (ic (AM.nodes ps)) w (.returned (.slice A' m c')) wr := ⟨A', c', rfl, hown, hbel⟩
      have HF := Lib.hid hfin
      clear hfin hown hbel
      go_wp2_with fail
      go_ret
      exact HF.out

set_option maxRecDepth 100000 in
theorem isMost_any (A : Option Addr) (n c : Nat) (ms : List Int) (B : Option Addr) (m d : Nat) (ns : List Int) (w : World) (hr : Rd w A n (ic ms)) (hr2 : Rd w B m (ic ns)) (h : QM.may ms = true) (hl : ns.length ≤ 1000) :
    Calls Try.prog 83 #[.slice A n c, .slice B m d] w fun e w' => e = .returned (.bool (AM.most ms ns)) ∧ w = w' := by
  obtain ⟨b, y, hy⟩ := QM.mostIs_ex ms ns
  obtain ⟨e1, rfl⟩ := AM.most_is h hl hy
  rw [← e1]
  have hm : n ≤ 9223372036854775807 := by have := hr.1; have := (QM.may_len h).2.1; rw [ic_length] at *; omega
  have hm2 : m ≤ 9223372036854775807 := by have := hr2.1; rw [ic_length] at *; omega
  have HC := Lib.hid (most_any A n c ms B m d ns b 0 w hr hm hr2 hm2 hy)
  clear hr hr2 hy e1 h hl hm hm2
  go_enter Try.func83, Try.ntmps83
  go_wp2_with fail
  refine HC.out.mono ?_
  rintro e w1 ⟨rfl, rfl⟩
  cases b
  all_goals
    go_wp2_with fail
    go_ret
    exact ⟨rfl, rfl⟩

set_option maxRecDepth 100000 in
theorem areSome_any (A : Option Addr) (n c : Nat) (ms : List Int) (B : Option Addr) (m d : Nat) (ns : List Int) (w : World) (hr : Rd w A n (ic ms)) (hr2 : Rd w B m (ic ns)) (h : QM.may ms = true) (hm2 : m ≤ 9223372036854775807) :
    Calls Try.prog 78 #[.slice A n c, .slice B m d] w (BoolIs (AM.some ms ns) w) := by
  have hm : n ≤ 9223372036854775807 := by have := hr.1; have := (QM.may_len h).2.1; rw [ic_length] at *; omega
  have hl : ns.length = m := by have := hr2.1; rwa [ic_length] at this
  rcases Nat.eq_zero_or_pos m with h0 | h0
  · subst h0
    obtain rfl : ns = [] := List.eq_nil_of_length_eq_zero hl
    clear hr hr2 hl
    go_enter Try.func78, Try.ntmps78
    go_wp2_with fail
    go_ret
    exact ⟨rfl, Below.refl _ _⟩
  · obtain ⟨y, hy⟩ := QM.grpIs_ex ms ns
    have e1 := AM.some_grp h (fun e => by subst e; simp at hl; omega) hy
    have HC := Lib.hid (checkGroup_any A n c ms B m d ns y w hr hm hr2 hm2 hy)
    rw [← e1]
    have hz : ((m : Int) == 0) = false := by simp; omega
    have hz1 : ¬ (m : Int) = 0 := by omega
    have hz2 : ¬ m = 0 := by omega
    clear hr hr2 hy e1 hl
    go_enter Try.func78, Try.ntmps78
    go_wp2_with fail
    refine HC.out.mono ?_
    rintro e w1 ⟨rfl, hb⟩
    have HB := Lib.hid hb; clear hb
    go_wp2_with fail
    go_ret
    exact bool_ret rfl HB.out

set_option maxRecDepth 100000 in
theorem wrong_any (A : Option Addr) (n c : Nat) (ms : List Int) (ba : Int) (wi : ByteArray) (y : Int) (w : World) (hr : Rd w A n (ic ms)) (hm : n ≤ 9223372036854775807) (b1 : -9223372036854775808 ≤ ba) (b2 : ba ≤ 9223372036854775807) (hs : wi.size ≤ maxLen) (hy : AM.BegIs ms ba wi y) :
    Calls Try.prog 60 #[.slice A n c, .int .i64 ba, .string wi] w fun e w' => e = .returned (.int .i64 y) ∧ w = w' := by
  unfold maxLen at hs
  rcases hy with ⟨h, h0⟩ | ⟨h, h1, rfl⟩ | ⟨h, h1, h2, rfl⟩ | ⟨h, h1, h2, rfl⟩
  · have HC := Lib.hid (qcheck_any A n c ms y w hr hm h)
    have hne : (y != 0) = true := by simpa using h0
    clear hr h h0
    go_enter Try.func60, Try.ntmps60
    go_wp2_with fail
    refine HC.out.mono ?_
    rintro e w1 ⟨rfl, rfl⟩
    go_wp2_with fail
    go_ret
    exact ⟨rfl, rfl⟩
  all_goals
    have HC := Lib.hid (qcheck_any A n c ms 0 w hr hm h)
    clear hr h
  · have HO := Lib.hid (check_any (show BM.OfIs ba 0 0 50 from .inr ⟨h1, rfl, rfl, rfl⟩) b1 b2 w)
    clear h1
    go_enter Try.func60, Try.ntmps60
    go_wp2_with fail
    refine HC.out.mono ?_
    rintro e w1 ⟨rfl, rfl⟩
    go_wp2_with fail
    refine HO.out.mono ?_
    rintro e w1 ⟨rfl, rfl⟩
    go_wp2_with fail
    go_ret
    exact ⟨rfl, rfl⟩
  all_goals
    have HO := Lib.hid (check_any (show BM.OfIs ba (ba / 8) (ba % 8) 0 from .inl ⟨h1, rfl, rfl, rfl⟩) b1 b2 w)
    clear h1
    go_enter Try.func60, Try.ntmps60
    go_wp2_with fail
    refine HC.out.mono ?_
    rintro e w1 ⟨rfl, rfl⟩
    go_wp2_with fail
    refine HO.out.mono ?_
    rintro e w1 ⟨rfl, rfl⟩
    go_wp2_with fail
    go_ret
    exact ⟨rfl, rfl⟩

set_option maxRecDepth 100000 in
theorem isAnswer_any (v : Value) (a : AM.At) (b x : Int) (w : World) (H : AtIs w v a) (F : Fit a) :
    Calls Try.prog 69 #[v, .int .i64 b, .int .i64 x] w (BoolIs (decide (b = a.ba) && QM.has a.ms x) w) := by
  obtain ⟨A, n, c, B, m, d, C, k, f, rfl, h1, h2, h3⟩ := H
  obtain ⟨f1, f2, f3⟩ := AtIs.fit_n h1 h2 h3 F
  have hb0 : Below w.heap.size w (w.alloc (.cells #[.int .u8 a.ph, .int .i64 a.ba, .slice A n c, .string a.wi, .string a.va, .slice B m d, .slice C k f] 49)) := (Below.refl _ _).alloc (Nat.le_refl _) _
  have HB0 := Lib.hid hb0
  have HC := Lib.hid (has_any A n c a.ms x _ (h1.below hb0) (by omega)); clear hb0
  generalize QM.has a.ms x = r at HC ⊢
  obtain ⟨ph, ba, ms, wi, va, ps, ac⟩ := a
  simp only at HB0 HC ⊢
  clear h1 h2 h3 F
  by_cases hb : b = ba
  · subst hb
    go_enter Try.func69, Try.ntmps69
    go_wp2_with fail
    refine HC.out.mono ?_
    rintro e w1 ⟨rfl, rfl⟩
    go_wp2_with fail
    go_ret
    exact bool_ret (by simp) HB0.out
  · have hbf : (b == ba) = false := by simpa using hb
    have HN := Lib.hid hb; clear hb
    go_enter Try.func69, Try.ntmps69
    go_wp2_with fail
    go_ret
    exact bool_ret (by simp [HN.out]) HB0.out
end Go.Proofs.Ytiiobafcgdelmaa
