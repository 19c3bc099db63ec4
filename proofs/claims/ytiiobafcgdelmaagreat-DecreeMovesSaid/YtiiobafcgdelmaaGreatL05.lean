/- Contracts of functions of towncrier, layers 5 to 9, and of the document's own ones, part 5; each as its theorem says. -/
import Derived.Test.YtiiobafcgdelmaaGreatL01
import Derived.Test.YtiiobafcgdelmaaGreatL04
import Derived.Deep.QuietTactic
import Derived.BigQuiet
import Derived.Below
import Derived.Test.YtiiobafcgdelmaaGreatL02
set_option linter.unusedVariables false
set_option linter.unusedSimpArgs false
namespace Go.Proofs.YtiiobafcgdelmaaGreat
open Go.RowKit
theorem need_any (A : Option Addr) (n c : Nat) (zs : List Int) (x y : Int) (w : World) (hr : Rd w A n (ic zs)) (hm : n ≤ 9223372036854775807) (hy : QM.NeedIs zs x y) :
  Calls Tryz.prog 130 #[.slice A n c] w fun e w' => e = .returned (.tuple #[.int .i64 x, .int .i64 y]) ∧ w = w' := by
 have hl : zs.length = n := by have := hr.1; rwa [ic_length] at this
 obtain ⟨hc, h⟩ := hy
 have HC := h! hc; clear hc
 rw [hl] at h
 clear hl
 rcases h with ⟨rfl, rfl⟩ | ⟨h0, rfl⟩
 ·go_enter Tryz.func130, Tryz.ntmps130
  go_wp2_with fail
  refine (qcheck_any A n c zs _ _ hr hm HC.out).mono ?_
  rintro e w1 ⟨rfl, rfl⟩
  go_wp2
  go_ret2
  exact ⟨rfl, rfl⟩
 ·have h1 : (y != 0) = true := by simpa using h0
  go_enter Tryz.func130, Tryz.ntmps130
  go_wp2_with fail
  refine (qcheck_any A n c zs _ _ hr hm HC.out).mono ?_
  rintro e w1 ⟨rfl, rfl⟩
  go_wp2
  go_ret2
  exact ⟨rfl, rfl⟩
theorem ret_bi {a b : Bool} {y : Int} (h : a = b) : Ending.returned (.tuple #[.bool a, .int .i64 y]) = .returned (.tuple #[.bool b, .int .i64 y]) := by rw [h]
set_option maxHeartbeats 1000000 in
theorem most_any (A : Option Addr) (n c : Nat) (zs : List Int) (B : Option Addr) (m d : Nat) (ys : List Int) (b : Bool) (y : Int) (w : World) (hr : Rd w A n (ic zs)) (hm : n ≤ 9223372036854775807)
  (hr2 : Rd w B m (ic ys)) (hm2 : m ≤ 9223372036854775807) (hy : QM.MostIs zs ys b y) :
  Calls Tryz.prog 126 #[.slice A n c, .slice B m d] w fun e w' => e = .returned (.tuple #[.bool b, .int .i64 y]) ∧ w = w' := by
 have hl : zs.length = n := by have := hr.1; rwa [ic_length] at this
 have hl2 : ys.length = m := by have := hr2.1; rwa [ic_length] at this
 rcases hy with ⟨hc, h0, rfl⟩ | ⟨hc, h1, rfl, rfl⟩ | ⟨hc, h1, hb, rfl⟩
 ·have hn : QM.NeedIs zs 0 y := ⟨hc, .inr ⟨h0, rfl⟩⟩
  have HN := h! hn
  have hne : (y != 0) = true := by simpa using h0
  clear hn hc h0 hl hl2
  go_enter Tryz.func126, Tryz.ntmps126
  go_wp2_with fail
  refine (need_any A n c zs 0 y _ hr hm HN.out).mono ?_
  rintro e w1 ⟨rfl, rfl⟩
  go_wp2
  go_ret2
  exact ⟨rfl, rfl⟩
 ·have hn : QM.NeedIs zs _ 0 := ⟨hc, .inl ⟨rfl, rfl⟩⟩
  generalize hx : (zs.length : Int) / 2 + 1 = x at hn
  have HN := h! hn
  rw [hl2] at h1
  clear hn hc hl hl2 hx
  go_enter Tryz.func126, Tryz.ntmps126
  go_wp2_with fail
  refine (need_any A n c zs x 0 _ hr hm HN.out).mono ?_
  rintro e w1 ⟨rfl, rfl⟩
  go_wp2
  go_ret2
  exact ⟨rfl, rfl⟩
 ·have hn : QM.NeedIs zs _ 0 := ⟨hc, .inl ⟨rfl, rfl⟩⟩
  have hmay : QM.may zs = true := by
   rcases QM.chkIs_cases hc with ⟨_, h⟩ | ⟨_, h⟩
   ·exact h
   ·omega
  obtain ⟨_, h6, hrise⟩ := QM.may_len hmay
  have hones := QM.ones_cnt (n := ys) hrise
  have hb' : decide ((zs.length : Int) / 2 + 1 ≤ (Lib.onesCount (QM.set zs &&& QM.set ys) : Int)) = b := by
   rw [hb, hones, Bool.eq_iff_iff]
   simp
   omega
  generalize hx : (zs.length : Int) / 2 + 1 = x at hn hb'
  rw [hl2] at h1
  have hs1 := QM.set_lt zs
  have hs2 := QM.set_lt ys
  have c1 := set_any A n c zs w hr hm
  have c2 := set_any B m d ys w hr2 hm2
  generalize QM.set zs = s at hs1 hb' c1
  generalize QM.set ys = t at hs2 hb' c2
  have hand := u8_ands s t hs1 hs2
  have hlt : s &&& t < 64 := Nat.lt_of_le_of_lt Nat.and_le_left hs1
  have c3 := ones_any (s &&& t) w hlt
  generalize Lib.onesCount (s &&& t) = q at hb' c3
  rw [← hand] at c3
  have HN := h! hn
  have HB := h! hb'
  have C1 := h! c1
  have C2 := h! c2
  have C3 := h! c3
  clear hn hc hl hl2 hx hb' hb hones hmay h6 hrise hs1 hs2 c1 c2 c3 hand hlt
  go_enter Tryz.func126, Tryz.ntmps126
  go_wp2_with fail
  refine (need_any A n c zs x 0 _ hr hm HN.out).mono ?_
  rintro e w1 ⟨rfl, rfl⟩
  go_wp2_with fail
  refine C1.out.mono ?_
  rintro e w1 ⟨rfl, rfl⟩
  go_wp2_with fail
  refine C2.out.mono ?_
  rintro e w1 ⟨rfl, rfl⟩
  go_wp2_with fail
  refine C3.out.mono ?_
  rintro e w1 ⟨rfl, rfl⟩
  go_wp2
  go_ret2
  exact ⟨ret_bi HB.out, rfl⟩
theorem set_quiet (A : Option Addr) (n c : Nat) (zs : List Int) (W : World) (q : Nat) (hr : Rd W A n (ic zs)) (hm : n ≤ 9223372036854775807) :
  Calls Tryz.prog 128 #[.slice A n c] (W.drewN q) fun e w' => e = .returned (.int .u8 (QM.set zs : Int)) ∧ ∃ m, w' = W.drewN m :=
 (set_any A n c zs (W.drewN q) (hr.drewN q) hm).mono fun _ _ ⟨a, b⟩ => ⟨a, q, b.symm⟩
set_option maxHeartbeats 1000000 in
theorem checkGroup_any (A : Option Addr) (n c : Nat) (rs : List Int) (B : Option Addr) (m d : Nat) (ms : List Int) (y : Int) (w : World) (hr : Rd w A n (ic rs)) (hm : n ≤ 9223372036854775807)
  (hr2 : Rd w B m (ic ms)) (hm2 : m ≤ 9223372036854775807) (hy : QM.GrpIs rs ms y) :
  Calls Tryz.prog 124 #[.agg #[.slice A n c, .slice B m d]] w fun e w' => e = .returned (.int .i64 y) ∧ Below w.heap.size w w' := by
 rcases hy with ⟨hc, h0⟩ | ⟨hc, hc2, h0⟩ | ⟨hc, hc2, hb⟩
 ·have HC := h! hc
  have hne : (y != 0) = true := by simpa using h0
  clear hc h0
  go_enter Tryz.func124, Tryz.ntmps124
  go_wp2_with fail
  refine (qcheck_any A n c rs y _ (hr.alloc _) hm HC.out).mono ?_
  rintro e w1 ⟨rfl, rfl⟩
  go_wp2
  go_ret
  exact ⟨rfl, (Below.refl _ _).alloc n! _⟩
 ·have HC := h! hc
  have HC2 := h! hc2
  have hne : (y != 0) = true := by simpa using h0
  clear hc hc2 h0
  go_enter Tryz.func124, Tryz.ntmps124
  go_wp2_with fail
  refine (qcheck_any A n c rs 0 _ (hr.alloc _) hm HC.out).mono ?_
  rintro e w1 ⟨rfl, rfl⟩
  go_wp2_with fail
  refine (qcheck_any B m d ms y _ (hr2.alloc _) hm2 HC2.out).mono ?_
  rintro e w1 ⟨rfl, rfl⟩
  go_wp2
  go_ret
  exact ⟨rfl, (Below.refl _ _).alloc n! _⟩
 ·have hmay : QM.may ms = true := by
   rcases QM.chkIs_cases hc2 with ⟨_, h⟩ | ⟨_, h⟩
   ·exact h
   ·omega
  obtain ⟨_, h6, hrise⟩ := QM.may_len hmay
  have hw := QM.within_bits (r := rs) hrise
  have hs1 := QM.set_lt ms
  have hs2 := QM.set_lt rs
  have hnot := u8_nots _ _ hs1 hs2
  have HC := h! hc
  have HC2 := h! hc2
  have c1 := fun W q (h : Rd W B m (ic ms)) => set_quiet B m d ms W q h hm2
  have c2 := fun W q (h : Rd W A n (ic rs)) => set_quiet A n c rs W q h hm
  generalize QM.set ms = s at hw hnot hs1 c1
  generalize QM.set rs = t at hw hnot hs2 c2
  have C1 := h! c1
  have C2 := h! c2
  rcases hin : QM.within ms rs with _ | _
  ·have hne : (bits .andNot .u8 (s : Int) (t : Int) != 0) = true := by
    rw [hnot]
    have : s &&& (63 ^^^ t) ≠ 0 := fun e => by rw [hw.1 e] at hin; cases hin
    simp
    omega
   rw [hin] at hb
   obtain rfl : y = 60 := by simpa using hb
   clear hc hc2 hmay h6 hrise hw hnot c1 c2 hin hb
   go_enter Tryz.func124, Tryz.ntmps124
   go_wp2_with fail
   refine (qcheck_any A n c rs 0 _ (hr.alloc _) hm HC.out).mono ?_
   rintro e w1 ⟨rfl, rfl⟩
   go_wp2_with fail
   refine (qcheck_any B m d ms 0 _ (hr2.alloc _) hm2 HC2.out).mono ?_
   rintro e w1 ⟨rfl, rfl⟩
   go_wp2_with fail
   go_quiet ((first | (go_at_call 128; with_reducible exact C1.out _ _ (hr2.alloc _)) | (go_at_call 128; with_reducible exact C2.out _ _ (hr.alloc _))))
   go_wp2
   go_ret
   exact ⟨rfl, below_drewN ((Below.refl _ _).alloc n! _) _⟩
  ·have hne : (bits .andNot .u8 (s : Int) (t : Int) != 0) = false := by
    rw [hnot, hw.2 hin]
    simp
   rw [hin] at hb
   obtain rfl : y = 0 := by simpa using hb
   clear hc hc2 hmay h6 hrise hw hnot c1 c2 hin hb
   go_enter Tryz.func124, Tryz.ntmps124
   go_wp2_with fail
   refine (qcheck_any A n c rs 0 _ (hr.alloc _) hm HC.out).mono ?_
   rintro e w1 ⟨rfl, rfl⟩
   go_wp2_with fail
   refine (qcheck_any B m d ms 0 _ (hr2.alloc _) hm2 HC2.out).mono ?_
   rintro e w1 ⟨rfl, rfl⟩
   go_wp2_with fail
   go_quiet ((first | (go_at_call 128; with_reducible exact C1.out _ _ (hr2.alloc _)) | (go_at_call 128; with_reducible exact C2.out _ _ (hr.alloc _))))
   go_wp2
   go_ret
   exact ⟨rfl, below_drewN ((Below.refl _ _).alloc n! _) _⟩
theorem str_no (s : ByteArray) : s.toList.isEmpty = decide (s = .empty) := by
 rw [Bool.eq_iff_iff, List.isEmpty_iff, ByteArray.toList_eq, decide_eq_true_iff]
 constructor
 ·intro h
  obtain ⟨⟨l⟩⟩ := s
  simp at h
  rw [h]; rfl
 ·rintro rfl; rfl
def BoolIs (b : Bool) (w : World) (e : Ending) (w' : World) : Prop := e = .returned (.bool b) ∧ Below w.heap.size w w'
theorem bool_ret {x y : Bool} {w w' : World} (h : y = x) (hb : Below w.heap.size w w') : BoolIs x w (.returned (.bool y)) w' := ⟨by rw [h], hb⟩
def IntIs (y : Int) (w : World) (e : Ending) (w' : World) : Prop := e = .returned (.int .i64 y) ∧ Below w.heap.size w w'
set_option maxRecDepth 100000 in
set_option maxHeartbeats 1000000 in
theorem isPromise_any (q : Int) (p : AM.Pr) (w : World) (F : FitP p) :
  Calls Tryz.prog 108 #[.int .i64 q, .agg #[.int .i64 p.n, .int .i64 p.b, .string p.v]] w (BoolIs (AM.okP q p) w) := by
 have hb0 : Below w.heap.size w (w.alloc (.cells #[.int .i64 p.n, .int .i64 p.b, .string p.v] 86)) := b!
 have HB0 := h! hb0; clear hb0
 obtain ⟨b1, b2, hs⟩ := F
 unfold maxLen at hs
 have hst : AM.okP q p = if p.b = 0 then p.v.toList.isEmpty else decide (BM.good p.b) && (decide (p.b < q) && decide ((p.v.size : Int) ≤ 1024)) := by
  unfold AM.okP
  split
  ·rw [str_no]
  ·congr 2
   rw [decide_eq_decide]; omega
 generalize AM.okP q p = r at hst ⊢
 obtain ⟨n, b, s⟩ := p
 simp only at b1 b2 hs hst HB0 ⊢
 have HS := h! hst; clear hst
 by_cases hz : b = 0
 ·subst hz
  go_enter Tryz.func108, Tryz.ntmps108
  go_wp2_with fail
  go_ret
  exact bool_ret (by rw [HS.out]; simp) HB0.out
 ·have hz' : (b == 0) = false := by simpa using hz
  by_cases hg : BM.good b
  ·have HO := h! (show BM.OfIs b (b / 8) (b % 8) 0 from .inl ⟨hg, rfl, rfl, rfl⟩)
   have HG := h! hg; clear hg
   by_cases hp : b < q
   ·go_enter Tryz.func108, Tryz.ntmps108
    go_wp2_with fail
    refine (check_any HO.out b1 b2 _).mono ?_
    rintro e w1 ⟨rfl, rfl⟩
    go_wp2_with fail
    go_ret
    exact bool_ret (by rw [HS.out]; simp [hz, HG.out, show b < q by omega]) HB0.out
   ·go_enter Tryz.func108, Tryz.ntmps108
    go_wp2_with fail
    refine (check_any HO.out b1 b2 _).mono ?_
    rintro e w1 ⟨rfl, rfl⟩
    go_wp2_with fail
    go_ret
    exact bool_ret (by rw [HS.out]; simp [hz, show ¬ b < q by omega]) HB0.out
  ·have HO := h! (show BM.OfIs b 0 0 50 from .inr ⟨hg, rfl, rfl, rfl⟩)
   have HG := h! hg; clear hg
   go_enter Tryz.func108, Tryz.ntmps108
   go_wp2_with fail
   refine (check_any HO.out b1 b2 _).mono ?_
   rintro e w1 ⟨rfl, rfl⟩
   go_wp2_with fail
   go_ret
   exact bool_ret (by rw [HS.out]; simp [hz, HG.out]) HB0.out
def AreRel (w : World) (q : Int) (ps : List AM.Pr) (r : Bool) (k : Nat) (wr : World) : Prop := Below w.heap.size w wr ∧ (ps.drop k).all (AM.okP q) = r
set_option maxRecDepth 100000 in
set_option maxHeartbeats 1000000 in
theorem arePromises_any (q : Int) (B : Option Addr) (m d : Nat) (ps : List AM.Pr) (w : World) (hr : RdP w B m ps) (hm : m ≤ 9223372036854775807) (F : ∀ p ∈ ps, FitP p) :
  Calls Tryz.prog 114 #[.int .i64 q, .slice B m d] w (BoolIs (ps.all (AM.okP q)) w) := by
 obtain ⟨r, hrr⟩ : ∃ r, r = ps.all (AM.okP q) := ⟨_, rfl⟩
 rw [← hrr]
 have hst : AreRel w q ps r 0 w := ⟨Below.refl _ _, hrr.symm⟩
 have HS := h! hst; clear hst hrr
 have HF := h! F; clear F
 have HW := h! hr; clear hr
 go_enter Tryz.func114, Tryz.ntmps114
 go_wp2_with fail
 go_loopw [9] (fun i wr => ∃ k : Nat, k ≤ m ∧ i = .int .i64 k ∧ AreRel w q ps r k wr) (fun i _ => m - (intOf i).toNat)
 case atStart => exact ⟨0, by omega, rfl, HS.out⟩
 case round =>
  clear HS
  obtain ⟨k, hk, rfl, hbel, hre⟩ := hrel
  by_cases hlt : k < m
  ·obtain ⟨bl, o, p, rfl, hbl, hp, c0, c1, c2⟩ := (HW.out.below hbel).at_ hlt
   have hkp : k < ps.length := (List.getElem?_eq_some_iff.1 hp).1
   have hpe : ps[k] = p := (List.getElem?_eq_some_iff.1 hp).2
   rw [List.drop_eq_getElem_cons hkp, hpe, List.all_cons] at hre
   have hfp : FitP p := HF.out p (by rw [← hpe]; exact List.getElem_mem ..)
   have hc := fun W => isPromise_any q p W hfp
   obtain ⟨n, b, s⟩ := p
   simp only at c0 c1 c2 hc
   have HC := h! hc
   have hb1 : Below w.heap.size w (wr.alloc (.cells #[.int .i64 n, .int .i64 b, .string s] 86)) := hbel.alloc hbel.size _
   have HB1 := h! hb1
   clear hc hfp hp hpe hkp hb1 hbel
   rcases hok : AM.okP q ⟨n, b, s⟩ with _ | _
   ·rw [hok] at hre
    have HR := h! hre
    have HOK := h! hok
    clear hre hok
    go_wp2_with fail
    refine (HC.out _).mono ?_
    rintro e w1 ⟨rfl, hb⟩
    rw [HOK.out]
    have HB2 := h! (bmore HB1.out hb n!); clear hb
    go_wp2_with fail
    go_ret
    exact bool_ret (by simpa using HR.out) HB2.out
   ·rw [hok, Bool.true_and] at hre
    have HR := h! hre
    have HOK := h! hok
    clear hre hok
    go_wp2_with fail
    refine (HC.out _).mono ?_
    rintro e w1 ⟨rfl, hb⟩
    rw [HOK.out]
    have HB2 := h! (bmore HB1.out hb n!); clear hb
    go_wp2_with fail
    go_roundw
    case rel => exact ⟨k + 1, by omega, by go_num, HB2.out, HR.out⟩
    case measure => simp [intOf]; omega
  ·obtain rfl : m = k := by omega
   have hd : true = r := by rw [List.drop_of_length_le (by have := HW.out.1; omega)] at hre; simpa using hre
   have HD := h! hd
   have HB := h! hbel
   clear hd hre hbel
   go_wp2_with fail
   go_ret
   exact bool_ret HD.out HB.out
def BestRel (w : World) (g : Nat) (ps : List AM.Pr) (r : ByteArray) (k : Nat) (wr : World) : Prop :=
 Below w.heap.size w wr ∧ g < wr.heap.size ∧ ∃ (x b : Int) (s : ByteArray), Box wr g 86 #[.int .i64 x, .int .i64 b, .string s] ∧ AM.bestF b s (ps.drop k) = r
theorem put3_alloc {B g : Nat} {w wr : World} {x y z : Value} (h : Below B w (((wr.setCell ⟨g, 0, none⟩ x).setCell ⟨g, 1, none⟩ y).setCell ⟨g, 2, none⟩ z)) (hs : B < wr.heap.size) (o : Obj) :
  Below B w ((((wr.setCell ⟨g, 0, none⟩ x).setCell ⟨g, 1, none⟩ y).setCell ⟨g, 2, none⟩ z).alloc o) ∧ B < ((((wr.setCell ⟨g, 0, none⟩ x).setCell ⟨g, 1, none⟩ y).setCell ⟨g, 2, none⟩ z).alloc o).heap.size :=
 ⟨h.alloc (by simp [World.setCell]; omega) o, by simp [World.setCell]; omega⟩
def StrIs (s : ByteArray) (w : World) (e : Ending) (w' : World) : Prop := e = .returned (.string s) ∧ Below w.heap.size w w'
set_option maxRecDepth 100000 in
set_option maxHeartbeats 1000000 in
theorem best_any (B : Option Addr) (m d : Nat) (ps : List AM.Pr) (wi : ByteArray) (w : World) (hr : RdP w B m ps) (hm : m ≤ 9223372036854775807) :
  Calls Tryz.prog 121 #[.slice B m d, .string wi] w (StrIs (AM.best ps wi) w) := by
 obtain ⟨r, hrr⟩ : ∃ r, r = AM.best ps wi := ⟨_, rfl⟩
 rw [← hrr]
 have hst : BestRel w w.heap.size ps r 0 (w.alloc (.cells #[.int .i64 0, .int .i64 0, .string wi] 86)) :=
  ⟨(Below.refl _ _).alloc n! _, by simp, 0, 0, wi, Box.new _ _ _, by rw [hrr]; rfl⟩
 have HS := h! hst; clear hst hrr
 have HW := h! hr; clear hr
 go_enter Tryz.func121, Tryz.ntmps121
 go_wp2_with fail
 go_loopw [12] (fun i wr => ∃ k : Nat, k ≤ m ∧ i = .int .i64 k ∧ BestRel w w.heap.size ps r k wr) (fun i _ => m - (intOf i).toNat)
 case atStart => exact ⟨0, by omega, rfl, HS.out⟩
 case round =>
  clear HS
  obtain ⟨k, hk, rfl, hbel, hgs, x, b, s, hbox, hre⟩ := hrel
  obtain ⟨d0, d1, d2, f0, f1, f2⟩ := hbox.three
  by_cases hlt : k < m
  ·obtain ⟨bl, o, p, rfl, hbl, hp, c0, c1, c2⟩ := (HW.out.below hbel).at_ hlt
   have hkp : k < ps.length := (List.getElem?_eq_some_iff.1 hp).1
   have hpe : ps[k] = p := (List.getElem?_eq_some_iff.1 hp).2
   rw [List.drop_eq_getElem_cons hkp, hpe, AM.bestF] at hre
   obtain ⟨pn, pb, pv⟩ := p
   simp only at c0 c1 c2 hre
   have hb1 : Below w.heap.size w (wr.alloc (.cells #[.int .i64 pn, .int .i64 pb, .string pv] 86)) := hbel.alloc hbel.size _
   have hx1 := hbox.alloc (.cells #[.int .i64 pn, .int .i64 pb, .string pv] 86)
   have hsz : w.heap.size < (wr.alloc (.cells #[.int .i64 pn, .int .i64 pb, .string pv] 86)).heap.size := by simp; omega
   obtain ⟨d0', d1', d2', f0', f1', f2'⟩ := hx1.three
   have HB1 := h! hb1
   have HX1 := h! hx1
   have HSZ := h! hsz
   have hn0 := below_put3 hbel (Nat.le_refl w.heap.size) (.int .i64 pn) (.int .i64 pb) (.string pv)
   have HN1 := h! (put3_alloc hn0 hgs (.cells #[.int .i64 pn, .int .i64 pb, .string pv] 86))
   have HN2 := h! ((hbox.put3 (.int .i64 pn) (.int .i64 pb) (.string pv)).alloc (.cells #[.int .i64 pn, .int .i64 pb, .string pv] 86))
   clear hn0
   have hne : ¬ wr.heap.size = w.heap.size := by omega
   have hne2 : ¬ w.heap.size = wr.heap.size := by omega
   clear hp hpe hkp hb1 hbel hx1 hsz hbox
   by_cases hgt : b < pb
   ·rw [if_pos hgt] at hre
    have HR := h! hre; clear hre
    go_wp2_with fail
    go_roundw
    case rel => exact ⟨k + 1, by omega, by go_num, HN1.out.1, HN1.out.2, pn, pb, pv, HN2.out, HR.out⟩
    case measure => simp [intOf]; omega
   ·rw [if_neg hgt] at hre
    have HR := h! hre; clear hre
    go_wp2_with fail
    go_roundw
    case rel => exact ⟨k + 1, by omega, by go_num, HB1.out, HSZ.out, x, b, s, HX1.out, HR.out⟩
    case measure => simp [intOf]; omega
  ·obtain rfl : m = k := by omega
   have hd : s = r := by rw [List.drop_of_length_le (by have := HW.out.1; omega)] at hre; simpa [AM.bestF] using hre
   have HD := h! hd
   have HB := h! hbel
   clear hd hre hbel hbox
   go_wp2_with fail
   go_ret
   exact ⟨by rw [HD.out]; rfl, HB.out⟩
theorem info_ai : (Tryz.prog.info? 3).map (fun i => (i.zero, i.size, i.bytes)) = some (some (.int .i64 0), 1, 8) := by kernel_rfl
def RowIs (e : TypeId) (s n : Nat) (xs : List Value) (w : World) (x : Ending) (w' : World) : Prop := ∃ A c, x = .returned (.slice A n c) ∧ w'.ownsRow w.heap.size e s (.slice A n c) n xs ∧ Below w.heap.size w w'
def NodesRel (w : World) (ps : List AM.Pr) (k : Nat) (v : Value) (wr : World) : Prop := Below w.heap.size w wr ∧ wr.ownsRow w.heap.size 3 1 v k (ic (AM.nodes (ps.take k)))
theorem nodesRel_next {w wr w2 : World} {ps : List AM.Pr} {k : Nat} {v u : Value} {p : AM.Pr} {o : Obj} (hbel : Below w.heap.size w wr) (hown : wr.ownsRow w.heap.size 3 1 v k (ic (AM.nodes (ps.take k)))) (hp : ps[k]? = some p)
  (ho : w2.ownsRow w.heap.size 3 1 u (k + 1) (ic (AM.nodes (ps.take k)) ++ [.int .i64 p.n])) (hs : w.heap.size ≤ (wr.alloc o).heap.size) (hg : (wr.alloc o).grownBy w2 v.ownBlock) : NodesRel w ps (k + 1) u w2 := by
 refine ⟨below_row (hbel.alloc hbel.size o) (own_below3 hown ((Below.refl _ _).alloc n! _)) hs hg, ?_⟩
 have hk := (List.getElem?_eq_some_iff.1 hp).1
 have e : AM.nodes (ps.take (k + 1)) = AM.nodes (ps.take k) ++ [p.n] := by
  rw [List.take_succ_eq_append_getElem hk, (List.getElem?_eq_some_iff.1 hp).2]
  simp [AM.nodes]
 rw [e, ic_append]
 exact ho
theorem rd_one (w : World) (t : TypeId) (x : Int) : Rd (w.alloc (.cells #[.int .i64 x] t)) (some ⟨w.heap.size, 0, none⟩) 1 [.int .i64 x] := rd_box (Box.new _ _ _) rfl rfl
set_option maxRecDepth 100000 in
set_option maxHeartbeats 1000000 in
theorem nodesOf_any (B : Option Addr) (m d : Nat) (ps : List AM.Pr) (w : World) (hr : RdP w B m ps) (hm : m ≤ 2000) :
  Calls Tryz.prog 110 #[.slice B m d] w (RowIs 3 1 m (ic (AM.nodes ps)) w) := by
 obtain ⟨i0, hi, hz0, hz1, hz2⟩ := info_parts info_ai
 have hst : NodesRel w ps 0 (.slice none 0 0) w := ⟨Below.refl _ _, World.ownsRow_nil _ _ _ _⟩
 have HS := h! hst; clear hst
 have HW := h! hr; clear hr
 go_enter Tryz.func110, Tryz.ntmps110
 go_wp2_with fail
 go_loopw [3, 8] (fun v i wr => ∃ k : Nat, k ≤ m ∧ i = .int .i64 k ∧ NodesRel w ps k v wr) (fun _ i _ => m - (intOf i).toNat)
 case atStart => exact ⟨0, by omega, rfl, HS.out⟩
 case round =>
  clear HS
  obtain ⟨k, hk, rfl, hbel, hown⟩ := hrel
  by_cases hlt : k < m
  ·obtain ⟨bl, o, p, rfl, hbl, hp, c0, c1, c2⟩ := (HW.out.below hbel).at_ hlt
   obtain ⟨pn, pb, pv⟩ := p
   simp only at c0 c1 c2
   have hb1 : Below w.heap.size w (wr.alloc (.cells #[.int .i64 pn, .int .i64 pb, .string pv] 86)) := hbel.alloc hbel.size _
   have ho1 : (wr.alloc (.cells #[.int .i64 pn, .int .i64 pb, .string pv] 86)).ownsRow w.heap.size 3 1 _ k _ := own_below3 hown ((Below.refl _ _).alloc n! _)
   have ho2 : ((wr.alloc (.cells #[.int .i64 pn, .int .i64 pb, .string pv] 86)).alloc (.cells #[.int .i64 pn] 3)).ownsRow w.heap.size 3 1 _ k _ := own_below3 ho1 ((Below.refl _ _).alloc n! _)
   have hr2 := rd_one (wr.alloc (.cells #[.int .i64 pn, .int .i64 pb, .string pv] 86)) 3 pn
   rw [show (wr.alloc (.cells #[.int .i64 pn, .int .i64 pb, .string pv] 86)).heap.size = wr.heap.size + 1 by simp] at hr2
   have hsz := hbel.size
   have HB1 := h! hb1
   have HO1 := h! ho1
   have HO2 := h! ho2
   have HP := h! hp
   have HR2 := h! hr2
   clear hb1 ho1 ho2 hown hbel hp hr2
   go_wp2_with (at_builtin; refine wpList_append_rd _ rfl _ _ 22 rfl w.heap.size 3 i0 (.int .i64 0) 8 Tryz.underlying22 hi hz0 hz1 hz2 rfl _ _ _ rfl HO2.out (some ⟨wr.heap.size + 1, 0, none⟩) 1 1 [.int .i64 pn] rfl HR2.out (by intro u hu; simp at hu; subst hu; rfl) (by unfold maxLen; omega) (by omega) (by simp; omega) ?_; intro v2 w2 hown2 hg2 hob2)
   have hnext := nodesRel_next HB1.out HO1.out HP.out hown2 (by simp; omega) hg2
   clear hown2 hg2 hob2
   go_roundw
   case rel => exact ⟨k + 1, by omega, by go_num, hnext⟩
   case measure => simp [intOf]; omega
  ·obtain rfl : m = k := by omega
   rw [List.take_of_length_le (by have := HW.out.1; omega)] at hown
   obtain ⟨A', c', rfl, _, _⟩ := own_form hown
   have hfin : RowIs 3 1 m (ic (AM.nodes ps)) w (.returned (.slice A' m c')) wr := ⟨A', c', rfl, hown, hbel⟩
   have HF := h! hfin
   clear hfin hown hbel
   go_wp2_with fail
   go_ret
   exact HF.out
set_option maxRecDepth 100000 in
theorem isMost_any (A : Option Addr) (n c : Nat) (ms : List Int) (B : Option Addr) (m d : Nat) (ns : List Int) (w : World) (hr : Rd w A n (ic ms)) (hr2 : Rd w B m (ic ns)) (h : QM.may ms = true) (hl : ns.length ≤ 1000) :
  Calls Tryz.prog 120 #[.slice A n c, .slice B m d] w fun e w' => e = .returned (.bool (AM.most ms ns)) ∧ w = w' := by
 obtain ⟨b, y, hy⟩ := QM.mostIs_ex ms ns
 obtain ⟨e1, rfl⟩ := AM.most_is h hl hy
 rw [← e1]
 have hm : n ≤ 9223372036854775807 := by have := hr.1; have := (QM.may_len h).2.1; rw [ic_length] at *; omega
 have hm2 : m ≤ 9223372036854775807 := by have := hr2.1; rw [ic_length] at *; omega
 have HC := h! (most_any A n c ms B m d ns b 0 w hr hm hr2 hm2 hy)
 clear hr hr2 hy e1 h hl hm hm2
 go_enter Tryz.func120, Tryz.ntmps120
 go_wp2_with fail
 refine HC.out.mono ?_
 rintro e w1 ⟨rfl, rfl⟩
 cases b
 all_goals
  go_wp2_with fail
  go_ret
  exact ⟨rfl, rfl⟩
set_option maxRecDepth 100000 in
theorem areSome_any (A : Option Addr) (n c : Nat) (ms : List Int) (B : Option Addr) (m d : Nat) (ns : List Int) (w : World) (hr : Rd w A n (ic ms)) (hr2 : Rd w B m (ic ns)) (h : QM.may ms = true) (hm2 : m ≤ 9223372036854775807) :
  Calls Tryz.prog 115 #[.slice A n c, .slice B m d] w (BoolIs (AM.some ms ns) w) := by
 have hm : n ≤ 9223372036854775807 := by have := hr.1; have := (QM.may_len h).2.1; rw [ic_length] at *; omega
 have hl : ns.length = m := by have := hr2.1; rwa [ic_length] at this
 rcases Nat.eq_zero_or_pos m with h0 | h0
 ·subst h0
  obtain rfl : ns = [] := List.eq_nil_of_length_eq_zero hl
  clear hr hr2 hl
  go_enter Tryz.func115, Tryz.ntmps115
  go_wp2_with fail
  go_ret
  exact ⟨rfl, Below.refl _ _⟩
 ·obtain ⟨y, hy⟩ := QM.grpIs_ex ms ns
  have e1 := AM.some_grp h (fun e => by subst e; simp at hl; omega) hy
  have HC := h! (checkGroup_any A n c ms B m d ns y w hr hm hr2 hm2 hy)
  rw [← e1]
  have hz : ((m : Int) == 0) = false := by simp; omega
  have hz1 : ¬ (m : Int) = 0 := by omega
  have hz2 : ¬ m = 0 := by omega
  clear hr hr2 hy e1 hl
  go_enter Tryz.func115, Tryz.ntmps115
  go_wp2_with fail
  refine HC.out.mono ?_
  rintro e w1 ⟨rfl, hb⟩
  have HB := h! hb; clear hb
  go_wp2_with fail
  go_ret
  exact bool_ret rfl HB.out
set_option maxRecDepth 100000 in
theorem wrong_any (A : Option Addr) (n c : Nat) (ms : List Int) (ba : Int) (wi : ByteArray) (y : Int) (w : World) (hr : Rd w A n (ic ms)) (hm : n ≤ 9223372036854775807) (b1 : -9223372036854775808 ≤ ba) (b2 : ba ≤ 9223372036854775807) (hs : wi.size ≤ maxLen) (hy : AM.BegIs ms ba wi y) :
  Calls Tryz.prog 99 #[.slice A n c, .int .i64 ba, .string wi] w fun e w' => e = .returned (.int .i64 y) ∧ w = w' := by
 unfold maxLen at hs
 rcases hy with ⟨h, h0⟩ | ⟨h, h1, rfl⟩ | ⟨h, h1, h2, rfl⟩ | ⟨h, h1, h2, rfl⟩
 ·have HC := h! (qcheck_any A n c ms y w hr hm h)
  have hne : (y != 0) = true := by simpa using h0
  clear hr h h0
  go_enter Tryz.func99, Tryz.ntmps99
  go_wp2_with fail
  refine HC.out.mono ?_
  rintro e w1 ⟨rfl, rfl⟩
  go_wp2_with fail
  go_ret
  exact ⟨rfl, rfl⟩
 all_goals
  have HC := h! (qcheck_any A n c ms 0 w hr hm h)
  clear hr h
 ·have HO := h! (check_any (show BM.OfIs ba 0 0 50 from .inr ⟨h1, rfl, rfl, rfl⟩) b1 b2 w)
  clear h1
  go_enter Tryz.func99, Tryz.ntmps99
  go_wp2_with fail
  refine HC.out.mono ?_
  rintro e w1 ⟨rfl, rfl⟩
  go_wp2_with fail
  refine HO.out.mono ?_
  rintro e w1 ⟨rfl, rfl⟩
  go_wp2_with fail
  go_ret
  exact ⟨rfl, rfl⟩
 all_goals
  have HO := h! (check_any (show BM.OfIs ba (ba / 8) (ba % 8) 0 from .inl ⟨h1, rfl, rfl, rfl⟩) b1 b2 w)
  clear h1
  go_enter Tryz.func99, Tryz.ntmps99
  go_wp2_with fail
  refine HC.out.mono ?_
  rintro e w1 ⟨rfl, rfl⟩
  go_wp2_with fail
  refine HO.out.mono ?_
  rintro e w1 ⟨rfl, rfl⟩
  go_wp2_with fail
  go_ret
  exact ⟨rfl, rfl⟩
set_option maxRecDepth 100000 in
theorem isAnswer_any (v : Value) (a : AM.At) (b x : Int) (w : World) (H : AtIs w v a) (F : Fit a) :
  Calls Tryz.prog 107 #[v, .int .i64 b, .int .i64 x] w (BoolIs (decide (b = a.ba) && QM.has a.ms x) w) := by
 obtain ⟨A, n, c, B, m, d, C, k, f, rfl, h1, h2, h3⟩ := H
 obtain ⟨f1, f2, f3⟩ := AtIs.fit_n h1 h2 h3 F
 have hb0 : Below w.heap.size w (w.alloc (.cells #[.int .u8 a.ph, .int .i64 a.ba, .slice A n c, .string a.wi, .string a.va, .slice B m d, .slice C k f] 57)) := b!
 have HB0 := h! hb0
 have HC := h! (has_any A n c a.ms x _ (h1.below hb0) (by omega)); clear hb0
 generalize QM.has a.ms x = r at HC ⊢
 obtain ⟨ph, ba, ms, wi, va, ps, ac⟩ := a
 simp only at HB0 HC ⊢
 clear h1 h2 h3 F
 by_cases hb : b = ba
 ·subst hb
  go_enter Tryz.func107, Tryz.ntmps107
  go_wp2_with fail
  refine HC.out.mono ?_
  rintro e w1 ⟨rfl, rfl⟩
  go_wp2_with fail
  go_ret
  exact bool_ret (by simp) HB0.out
 ·have hbf : (b == ba) = false := by simpa using hb
  have HN := h! hb; clear hb
  go_enter Tryz.func107, Tryz.ntmps107
  go_wp2_with fail
  go_ret
  exact bool_ret (by simp [HN.out]) HB0.out
end Go.Proofs.YtiiobafcgdelmaaGreat
