/-
  What package attempt answers of promises and lists: isPromise, arePromises, nodesOf, Best, isMost, areSome, wrong, isAnswer. Conditions: as each theorem says.
-/
import Derived.Test.YtmcfamoicdmkdaaAttMem
import Derived.Test.YtmcfamoicdmkdaaBallotC
import Derived.Test.YtmcfamoicdmkdaaQuorumB
namespace Go.Proofs.Ytmcfamoicdmkdaa
open Go.RowKit
set_option linter.unusedVariables false

theorem str_no (s : ByteArray) : s.toList.isEmpty = decide (s = .empty) := by
  rw [Bool.eq_iff_iff, List.isEmpty_iff, ByteArray.toList_eq, decide_eq_true_iff]
  constructor
  · intro h
    obtain ⟨⟨l⟩⟩ := s
    simp at h
    rw [h]; rfl
  · rintro rfl; rfl
/-- a bool, and nothing but new blocks -/
def BoolIs (b : Bool) (w : World) (e : Ending) (w' : World) : Prop := e = .returned (.bool b) ∧ Below w.heap.size w w'
theorem bool_ret {x y : Bool} {w w' : World} (h : y = x) (hb : Below w.heap.size w w') : BoolIs x w (.returned (.bool y)) w' := ⟨by rw [h], hb⟩
def IntIs (y : Int) (w : World) (e : Ending) (w' : World) : Prop := e = .returned (.int .i64 y) ∧ Below w.heap.size w w'

set_option maxRecDepth 100000 in
set_option maxHeartbeats 1000000 in
theorem isPromise_any (q : Int) (p : AM.Pr) (w : World) (F : FitP p) :
    Calls Try.prog 33 #[.int .i64 q, .agg #[.int .i64 p.n, .int .i64 p.b, .string p.v]] w (BoolIs (AM.okP q p) w) := by
  have hb0 : Below w.heap.size w (w.alloc (.cells #[.int .i64 p.n, .int .i64 p.b, .string p.v] 31)) := (Below.refl _ _).alloc (Nat.le_refl _) _
  have HB0 := Lib.hid hb0; clear hb0
  obtain ⟨b1, b2, hs⟩ := F
  unfold maxLen at hs
  have hst : AM.okP q p = if p.b = 0 then p.v.toList.isEmpty else decide (BM.good p.b) && (decide (p.b < q) && decide ((p.v.size : Int) ≤ 1024)) := by
    unfold AM.okP
    split
    · rw [str_no]
    · congr 2
      rw [decide_eq_decide]; omega
  generalize AM.okP q p = r at hst ⊢
  obtain ⟨n, b, s⟩ := p
  simp only at b1 b2 hs hst HB0 ⊢
  have HS := Lib.hid hst; clear hst
  by_cases hz : b = 0
  · subst hz
    go_enter Try.func33, Try.ntmps33
    go_wp2_with fail
    go_ret
    exact bool_ret (by rw [HS.out]; simp) HB0.out
  · have hz' : (b == 0) = false := by simpa using hz
    by_cases hg : BM.good b
    · have HO := Lib.hid (show BM.OfIs b (b / 8) (b % 8) 0 from .inl ⟨hg, rfl, rfl, rfl⟩)
      have HG := Lib.hid hg; clear hg
      by_cases hp : b < q
      · go_enter Try.func33, Try.ntmps33
        go_wp2_with fail
        refine (check_any HO.out b1 b2 _).mono ?_
        rintro e w1 ⟨rfl, rfl⟩
        go_wp2_with fail
        go_ret
        exact bool_ret (by rw [HS.out]; simp [hz, HG.out, show b < q by omega]) HB0.out
      · go_enter Try.func33, Try.ntmps33
        go_wp2_with fail
        refine (check_any HO.out b1 b2 _).mono ?_
        rintro e w1 ⟨rfl, rfl⟩
        go_wp2_with fail
        go_ret
        exact bool_ret (by rw [HS.out]; simp [hz, show ¬ b < q by omega]) HB0.out
    · have HO := Lib.hid (show BM.OfIs b 0 0 50 from .inr ⟨hg, rfl, rfl, rfl⟩)
      have HG := Lib.hid hg; clear hg
      go_enter Try.func33, Try.ntmps33
      go_wp2_with fail
      refine (check_any HO.out b1 b2 _).mono ?_
      rintro e w1 ⟨rfl, rfl⟩
      go_wp2_with fail
      go_ret
      exact bool_ret (by rw [HS.out]; simp [hz, HG.out]) HB0.out

/-- the loop over promises: what is left decides -/
def AreRel (w : World) (q : Int) (ps : List AM.Pr) (r : Bool) (k : Nat) (wr : World) : Prop := Below w.heap.size w wr ∧ (ps.drop k).all (AM.okP q) = r
set_option maxRecDepth 100000 in
set_option maxHeartbeats 1000000 in
theorem arePromises_any (q : Int) (B : Option Addr) (m d : Nat) (ps : List AM.Pr) (w : World) (hr : RdP w B m ps) (hm : m ≤ 9223372036854775807) (F : ∀ p ∈ ps, FitP p) :
    Calls Try.prog 67 #[.int .i64 q, .slice B m d] w (BoolIs (ps.all (AM.okP q)) w) := by
  obtain ⟨r, hrr⟩ : ∃ r, r = ps.all (AM.okP q) := ⟨_, rfl⟩
  rw [← hrr]
  have hst : AreRel w q ps r 0 w := ⟨Below.refl _ _, hrr.symm⟩
  have HS := Lib.hid hst; clear hst hrr
  have HF := Lib.hid F; clear F
  have HW := Lib.hid hr; clear hr
  go_enter Try.func67, Try.ntmps67
  go_wp2_with fail
  go_loopw [9] (fun i wr => ∃ k : Nat, k ≤ m ∧ i = .int .i64 k ∧ AreRel w q ps r k wr) (fun i _ => m - (intOf i).toNat)
  case atStart => exact ⟨0, by omega, rfl, HS.out⟩
  case round =>
    clear HS
    obtain ⟨k, hk, rfl, hbel, hre⟩ := hrel
    by_cases hlt : k < m
    · obtain ⟨bl, o, p, rfl, hbl, hp, c0, c1, c2⟩ := (HW.out.below hbel).at_ hlt
      have hkp : k < ps.length := (List.getElem?_eq_some_iff.1 hp).1
      have hpe : ps[k] = p := (List.getElem?_eq_some_iff.1 hp).2
      rw [List.drop_eq_getElem_cons hkp, hpe, List.all_cons] at hre
      have hfp : FitP p := HF.out p (by rw [← hpe]; exact List.getElem_mem ..)
      have hc := fun W => isPromise_any q p W hfp
      obtain ⟨n, b, s⟩ := p
      simp only at c0 c1 c2 hc
      have HC := Lib.hid hc
      have hb1 : Below w.heap.size w (wr.alloc (.cells #[.int .i64 n, .int .i64 b, .string s] 31)) := hbel.alloc hbel.size _
      have HB1 := Lib.hid hb1
      clear hc hfp hp hpe hkp hb1 hbel
      rcases hok : AM.okP q ⟨n, b, s⟩ with _ | _
      · rw [hok] at hre
        have HR := Lib.hid hre
        have HOK := Lib.hid hok
        clear hre hok
        go_wp2_with fail
        refine (HC.out _).mono ?_
        rintro e w1 ⟨rfl, hb⟩
        rw [HOK.out]
        have HB2 := Lib.hid (bmore HB1.out hb (Nat.le_refl _)); clear hb
        go_wp2_with fail
        go_ret
        exact bool_ret (by simpa using HR.out) HB2.out
      · rw [hok, Bool.true_and] at hre
        have HR := Lib.hid hre
        have HOK := Lib.hid hok
        clear hre hok
        go_wp2_with fail
        refine (HC.out _).mono ?_
        rintro e w1 ⟨rfl, hb⟩
        rw [HOK.out]
        have HB2 := Lib.hid (bmore HB1.out hb (Nat.le_refl _)); clear hb
        go_wp2_with fail
        go_roundw
        case rel => exact ⟨k + 1, by omega, by go_num, HB2.out, HR.out⟩
        case measure => simp [intOf]; omega
    · obtain rfl : m = k := by omega
      have hd : true = r := by rw [List.drop_of_length_le (by have := HW.out.1; omega)] at hre; simpa using hre
      have HD := Lib.hid hd
      have HB := Lib.hid hbel
      clear hd hre hbel
      go_wp2_with fail
      go_ret
      exact bool_ret HD.out HB.out

/-- the loop of Best -/
def BestRel (w : World) (g : Nat) (ps : List AM.Pr) (r : ByteArray) (k : Nat) (wr : World) : Prop :=
  Below w.heap.size w wr ∧ g < wr.heap.size ∧ ∃ (x b : Int) (s : ByteArray), Box wr g 31 #[.int .i64 x, .int .i64 b, .string s] ∧ AM.bestF b s (ps.drop k) = r
theorem put3_alloc {B g : Nat} {w wr : World} {x y z : Value} (h : Below B w (((wr.setCell ⟨g, 0, none⟩ x).setCell ⟨g, 1, none⟩ y).setCell ⟨g, 2, none⟩ z)) (hs : B < wr.heap.size) (o : Obj) :
    Below B w ((((wr.setCell ⟨g, 0, none⟩ x).setCell ⟨g, 1, none⟩ y).setCell ⟨g, 2, none⟩ z).alloc o) ∧ B < ((((wr.setCell ⟨g, 0, none⟩ x).setCell ⟨g, 1, none⟩ y).setCell ⟨g, 2, none⟩ z).alloc o).heap.size :=
  ⟨h.alloc (by simp [World.setCell]; omega) o, by simp [World.setCell]; omega⟩
def StrIs (s : ByteArray) (w : World) (e : Ending) (w' : World) : Prop := e = .returned (.string s) ∧ Below w.heap.size w w'
set_option maxRecDepth 100000 in
set_option maxHeartbeats 1000000 in
theorem best_any (B : Option Addr) (m d : Nat) (ps : List AM.Pr) (wi : ByteArray) (w : World) (hr : RdP w B m ps) (hm : m ≤ 9223372036854775807) :
    Calls Try.prog 27 #[.slice B m d, .string wi] w (StrIs (AM.best ps wi) w) := by
  obtain ⟨r, hrr⟩ : ∃ r, r = AM.best ps wi := ⟨_, rfl⟩
  rw [← hrr]
  have hst : BestRel w w.heap.size ps r 0 (w.alloc (.cells #[.int .i64 0, .int .i64 0, .string wi] 31)) :=
    ⟨(Below.refl _ _).alloc (Nat.le_refl _) _, by simp, 0, 0, wi, Box.new _ _ _, by rw [hrr]; rfl⟩
  have HS := Lib.hid hst; clear hst hrr
  have HW := Lib.hid hr; clear hr
  go_enter Try.func27, Try.ntmps27
  go_wp2_with fail
  go_loopw [12] (fun i wr => ∃ k : Nat, k ≤ m ∧ i = .int .i64 k ∧ BestRel w w.heap.size ps r k wr) (fun i _ => m - (intOf i).toNat)
  case atStart => exact ⟨0, by omega, rfl, HS.out⟩
  case round =>
    clear HS
    obtain ⟨k, hk, rfl, hbel, hgs, x, b, s, hbox, hre⟩ := hrel
    obtain ⟨d0, d1, d2, f0, f1, f2⟩ := hbox.three
    by_cases hlt : k < m
    · obtain ⟨bl, o, p, rfl, hbl, hp, c0, c1, c2⟩ := (HW.out.below hbel).at_ hlt
      have hkp : k < ps.length := (List.getElem?_eq_some_iff.1 hp).1
      have hpe : ps[k] = p := (List.getElem?_eq_some_iff.1 hp).2
      rw [List.drop_eq_getElem_cons hkp, hpe, AM.bestF] at hre
      obtain ⟨pn, pb, pv⟩ := p
      simp only at c0 c1 c2 hre
      have hb1 : Below w.heap.size w (wr.alloc (.cells #[.int .i64 pn, .int .i64 pb, .string pv] 31)) := hbel.alloc hbel.size _
      have hx1 := hbox.alloc (.cells #[.int .i64 pn, .int .i64 pb, .string pv] 31)
      have hsz : w.heap.size < (wr.alloc (.cells #[.int .i64 pn, .int .i64 pb, .string pv] 31)).heap.size := by simp; omega
      obtain ⟨d0', d1', d2', f0', f1', f2'⟩ := hx1.three
      have HB1 := Lib.hid hb1
      have HX1 := Lib.hid hx1
      have HSZ := Lib.hid hsz
      have hn0 := below_put3 hbel (Nat.le_refl w.heap.size) (.int .i64 pn) (.int .i64 pb) (.string pv)
      have HN1 := Lib.hid (put3_alloc hn0 hgs (.cells #[.int .i64 pn, .int .i64 pb, .string pv] 31))
      have HN2 := Lib.hid ((hbox.put3 (.int .i64 pn) (.int .i64 pb) (.string pv)).alloc (.cells #[.int .i64 pn, .int .i64 pb, .string pv] 31))
      clear hn0
      have hne : ¬ wr.heap.size = w.heap.size := by omega
      have hne2 : ¬ w.heap.size = wr.heap.size := by omega
      clear hp hpe hkp hb1 hbel hx1 hsz hbox
      by_cases hgt : b < pb
      · rw [if_pos hgt] at hre
        have HR := Lib.hid hre; clear hre
        go_wp2_with fail
        go_roundw
        case rel => exact ⟨k + 1, by omega, by go_num, HN1.out.1, HN1.out.2, pn, pb, pv, HN2.out, HR.out⟩
        case measure => simp [intOf]; omega
      · rw [if_neg hgt] at hre
        have HR := Lib.hid hre; clear hre
        go_wp2_with fail
        go_roundw
        case rel => exact ⟨k + 1, by omega, by go_num, HB1.out, HSZ.out, x, b, s, HX1.out, HR.out⟩
        case measure => simp [intOf]; omega
    · obtain rfl : m = k := by omega
      have hd : s = r := by rw [List.drop_of_length_le (by have := HW.out.1; omega)] at hre; simpa [AM.bestF] using hre
      have HD := Lib.hid hd
      have HB := Lib.hid hbel
      clear hd hre hbel hbox
      go_wp2_with fail
      go_ret
      exact ⟨by rw [HD.out]; rfl, HB.out⟩
end Go.Proofs.Ytmcfamoicdmkdaa
