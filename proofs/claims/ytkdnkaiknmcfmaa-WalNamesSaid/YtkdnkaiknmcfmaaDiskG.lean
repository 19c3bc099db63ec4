/-
  What the inner function 'lengthen' of package disk makes: the disk with one write more, in memory of its own. Conditions: the disk's slices read as bytes and writes.
-/
import Derived.Test.YtkdnkaiknmcfmaaDiskD
import Derived.Deep.RegionLaw
import Derived.Deep.DeepCutAuto
namespace Go.Proofs.Ytkdnkaiknmcfmaa
open Go.RowKit
set_option linter.unusedVariables false

/-- what a disk with one write more is -/
def LenIs (b : List UInt8) (ps : List DM.Wr) (q : DM.Wr) (b' : List UInt8) (ps' : List DM.Wr) (x : Int) : Prop :=
  (¬ DM.may b ps ∧ b' = [] ∧ ps' = [] ∧ x = 30) ∨ (DM.may b ps ∧ ¬ DM.may b (ps ++ [q]) ∧ b' = [] ∧ ps' = [] ∧ x = 9) ∨ (DM.may b ps ∧ DM.may b (ps ++ [q]) ∧ b' = b ∧ ps' = ps ++ [q] ∧ x = 0)
theorem lenIs_ex (b : List UInt8) (ps : List DM.Wr) (q : DM.Wr) : ∃ b' ps' x, LenIs b ps q b' ps' x := by
  by_cases h : DM.may b ps
  · by_cases h2 : DM.may b (ps ++ [q])
    · exact ⟨_, _, 0, .inr (.inr ⟨h, h2, rfl, rfl, rfl⟩)⟩
    · exact ⟨_, _, 9, .inr (.inl ⟨h, h2, rfl, rfl, rfl⟩)⟩
  · exact ⟨_, _, 30, .inl ⟨h, rfl, rfl, rfl⟩⟩

/-- the loop's word: the writes before k have been copied -/
def LenRel (w : World) (b : List UInt8) (ps' : List DM.Wr) (A5 : Option Addr) (n c5 gw N cap k : Nat) (wr : World) : Prop :=
  Below w.heap.size w wr ∧ Box wr w.heap.size 25 #[.slice A5 n c5, .slice (some ⟨gw, 0, none⟩) N cap] ∧ Box wr (w.heap.size + 1 + 1) 25 #[.slice none 0 0, .slice none 0 0] ∧
  wr.ownsRow (w.heap.size + 1 + 1 + 1) 5 1 (.slice A5 n c5) n (bc b) ∧
  ∃ l : List (Bool × Value), wr.ownsRow (w.heap.size + 1 + 1 + 1) 37 2 (.slice (some ⟨gw, 0, none⟩) N cap) N (pc l) ∧ l.length = ps'.length ∧
    ∀ (i : Nat) (p : Bool × Value) (q : DM.Wr), l[i]? = some p → ps'[i]? = some q → p.1 = q.1 ∧ (i < k → wr.ownsRow (w.heap.size + 1 + 1 + 1) 5 1 p.2 q.2.length (bc q.2)) ∧ (k ≤ i → ByIs w p.2 q.2)
theorem LenRel.at_ {w wr : World} {b : List UInt8} {ps' : List DM.Wr} {A5 : Option Addr} {n c5 gw N cap k : Nat} (h : LenRel w b ps' A5 n c5 gw N cap k wr) (hN : ps'.length = N) (hk : k < N) :
    ∃ s d Ai ci, ps'[k]? = some (s, d) ∧ wr.cell? ⟨gw, k * 2, none⟩ = some (.bool s) ∧ wr.cell? ⟨gw, k * 2 + 1, none⟩ = some (.slice Ai d.length ci) ∧ wr.frozen? ⟨gw, k * 2 + 1, none⟩ = false ∧ Rd w Ai d.length (bc d) ∧ w.heap.size + 1 + 1 + 1 ≤ gw ∧ gw < wr.heap.size := by
  obtain ⟨h1, h2, h3, h4, l, h5, h6, h7⟩ := h
  have hkl : k < l.length := by omega
  have hkp : k < ps'.length := by omega
  obtain ⟨g1, _, g2⟩ := h7 k _ _ (List.getElem?_eq_getElem hkl) (List.getElem?_eq_getElem hkp)
  obtain ⟨Ai, ci, e, _, _, hr⟩ := g2 (Nat.le_refl _)
  obtain ⟨hb1, cs, hb2⟩ := own_box h5
  refine ⟨ps'[k].1, ps'[k].2, Ai, ci, List.getElem?_eq_getElem hkp, ?_, ?_, h5.frozenAt _, hr, hb1, hb2.lt⟩
  · rw [h5.cellAt _ (by omega), pc_even l k _ (List.getElem?_eq_getElem hkl), g1]
  · rw [h5.cellAt _ (by omega), pc_odd l k _ (List.getElem?_eq_getElem hkl), e]
theorem lenRel_next {w wr w7 : World} {b d : List UInt8} {ps' : List DM.Wr} {A5 A6 : Option Addr} {n c5 gw N cap k y c6 base' : Nat} {s : Bool} (h : LenRel w b ps' A5 n c5 gw N cap k wr) (hN : ps'.length = N) (hk : ps'[k]? = some (s, d)) (hb : Below wr.heap.size wr w7)
    (ho : w7.ownsRow base' 5 1 (.slice A6 y c6) y (bc d)) (hbase : wr.heap.size ≤ base') (hy : d.length = y) : LenRel w b ps' A5 n c5 gw N cap (k + 1) (w7.setCell ⟨gw, k * 2 + 1, none⟩ (.slice A6 y c6)) := by
  obtain ⟨h1, h2, h3, h4, l, h5, h6, h7⟩ := h
  obtain ⟨hkp, he⟩ := List.getElem?_eq_some_iff.1 hk
  have hkl : k < l.length := by omega
  have h5' := own_below2 h5 hb
  obtain ⟨hb1, cs, hb2⟩ := own_box h5'
  have hlt3 := h3.lt
  have hbs : w.heap.size + 1 + 1 + 1 ≤ base' := by omega
  have g0 : l[k]? = some (l[k].1, l[k].2) := List.getElem?_eq_getElem hkl
  refine ⟨(bmore h1 hb (Nat.le_refl _)).setCell (p := ⟨gw, _, none⟩) (by show w.heap.size ≤ gw; omega) _, (h2.below hb h2.lt).far (p := ⟨gw, _, none⟩) (by show w.heap.size ≠ gw; omega) _, (h3.below hb h3.lt).far (p := ⟨gw, _, none⟩) (by show w.heap.size + 1 + 1 ≠ gw; omega) _,
    own_far (own_below2 h4 hb) hb2 (by decide), l.set k (l[k].1, .slice A6 y c6), ?_, by simpa using h6, fun i p q hp hq => ?_⟩
  · rw [← pc_set l k _ _ _ g0]
    exact (h5'.stored (k * 2 + 1) _).1
  · by_cases hik : i = k
    · subst hik
      rw [List.getElem?_set_self hkl] at hp
      injection hp with hp
      subst hp
      rw [hk] at hq
      injection hq with hq
      subst hq
      obtain ⟨g1, _, _⟩ := h7 i _ _ g0 hk
      refine ⟨g1, fun _ => ?_, fun hc => absurd hc (by omega)⟩
      show (w7.setCell _ _).ownsRow _ _ _ (.slice A6 y c6) d.length (bc d)
      rw [hy]
      exact own_far (own_mono ho hbs) hb2 (by decide)
    · rw [List.getElem?_set_ne (by omega)] at hp
      obtain ⟨g1, g2, g3⟩ := h7 i p q hp hq
      exact ⟨g1, fun hi => own_far (own_below2 (g2 (by omega)) hb) hb2 (by decide), fun hi => g3 (by omega)⟩
theorem lenRel_end {w wr : World} {b : List UInt8} {ps' : List DM.Wr} {A5 : Option Addr} {n c5 gw N cap : Nat} (h : LenRel w b ps' A5 n c5 gw N cap N wr) (hN : ps'.length = N) (hb : b.length = n) :
    DiskOwn wr (w.heap.size + 1 + 1 + 1) 5 37 (.agg #[.slice A5 n c5, .slice (some ⟨gw, 0, none⟩) N cap]) b ps' := by
  obtain ⟨h1, h2, h3, h4, l, h5, h6, h7⟩ := h
  subst hN
  subst hb
  refine ⟨_, _, l, rfl, h4, h5, h6, fun i p q hp hq => ?_⟩
  obtain ⟨g1, g2, _⟩ := h7 i p q hp hq
  exact ⟨g1, g2 (List.getElem?_eq_some_iff.1 hq).1⟩
theorem lenRel_start {w w3 w5 : World} {b : List UInt8} {ps' : List DM.Wr} {l : List (Bool × Value)} {A5 A : Option Addr} {n c c5 gw N cap base5 : Nat} (h1 : Below w.heap.size w w3) (h2 : Box w3 w.heap.size 25 #[.slice A n c, .slice (some ⟨gw, 0, none⟩) N cap]) (h3 : Box w3 (w.heap.size + 1 + 1) 25 #[.slice none 0 0, .slice none 0 0])
    (hw : w3.ownsRow (w.heap.size + 1 + 1 + 1) 37 2 (.slice (some ⟨gw, 0, none⟩) N cap) N (pc l)) (hp : PairsAre w l ps') (hb : Below w3.heap.size w3 w5) (ho : w5.ownsRow base5 5 1 (.slice A5 n c5) n (bc b)) (hbase : w3.heap.size ≤ base5) :
    LenRel w b ps' A5 n c5 gw N cap 0 (w5.setCell ⟨w.heap.size, 0, none⟩ (.slice A5 n c5)) := by
  have hlt := h3.lt
  have hb5 : Box (w5.setCell ⟨w.heap.size, 0, none⟩ (.slice A5 n c5)) w.heap.size 25 #[.slice A5 n c5, .slice (some ⟨gw, 0, none⟩) N cap] := by
    have := (h2.below hb h2.lt).stored 0 (.slice A5 n c5)
    simpa using this
  refine ⟨(bmore h1 hb (Nat.le_refl _)).setCell (p := ⟨w.heap.size, 0, none⟩) (Nat.le_refl _) _, hb5, (h3.below hb h3.lt).far (p := ⟨w.heap.size, 0, none⟩) (by show w.heap.size + 1 + 1 ≠ w.heap.size; omega) _,
    ownsRow_setCell_below (own_mono ho (by omega)) (a := ⟨w.heap.size, 0, none⟩) (by show w.heap.size < _; omega) _, l, ownsRow_setCell_below (own_below2 hw hb) (a := ⟨w.heap.size, 0, none⟩) (by show w.heap.size < _; omega) _, hp.1, fun i p q h7 h8 => ?_⟩
  obtain ⟨g1, g2⟩ := hp.2 i p q h7 h8
  exact ⟨g1, fun hi => absurd hi (by omega), fun _ => g2⟩

/-- behind the list's lengthening -/
def LenMid (w : World) (A : Option Addr) (n c N : Nat) (l : List (Bool × Value)) (wx : World) : Prop := ∃ gw cap, Below w.heap.size w wx ∧ Box wx w.heap.size 25 #[.slice A n c, .slice (some ⟨gw, 0, none⟩) N cap] ∧
  Box wx (w.heap.size + 1 + 1) 25 #[.slice none 0 0, .slice none 0 0] ∧ wx.ownsRow (w.heap.size + 1 + 1 + 1) 37 2 (.slice (some ⟨gw, 0, none⟩) N cap) N (pc l) ∧ cap ≤ maxLen ∧ N ≤ cap
theorem lenMid_of {w w1 w2 : World} {A B : Option Addr} {n c m d H cap : Nat} {l : List (Bool × Value)} {o : Obj} (hH : w1.heap.size + 1 = H) (h1 : Below w.heap.size w w1) (h2 : Box w1 w.heap.size 25 #[.slice A n c, .slice B m d]) (h3 : Box w1 (w.heap.size + 1 + 1) 25 #[.slice none 0 0, .slice none 0 0])
    (ho : w2.ownsRow H 37 2 (.slice (some ⟨H, 0, none⟩) (m + 1) cap) (m + 1) (pc l)) (hb : Below H (w1.alloc o).drew w2) :
    LenMid w A n c (m + 1) l (w2.setCell ⟨w.heap.size, 1, none⟩ (.slice (some ⟨H, 0, none⟩) (m + 1) cap)) := by
  have hlt := h3.lt
  have hbx : Box (w2.setCell ⟨w.heap.size, 1, none⟩ (.slice (some ⟨H, 0, none⟩) (m + 1) cap)) w.heap.size 25 #[.slice A n c, .slice (some ⟨H, 0, none⟩) (m + 1) cap] := by
    have := (((h2.alloc o).drew).below hb (by omega)).stored 1 (.slice (some ⟨H, 0, none⟩) (m + 1) cap)
    simpa using this
  have hsh := own_slice2 ho
  obtain ⟨A', c', e, g1, g2⟩ := hsh
  injection e with _ _ e
  subst e
  refine ⟨H, cap, ?_, hbx, (((h3.alloc o).drew).below hb (by omega)).far (p := ⟨w.heap.size, 1, none⟩) (by show w.heap.size + 1 + 1 ≠ w.heap.size; omega) _, ownsRow_setCell_below (own_mono ho (by omega)) (a := ⟨w.heap.size, 1, none⟩) (by show w.heap.size < _; omega) _, g2, g1⟩
  exact ((((h1.alloc (by omega) o).drew).trans (hb.mono (by omega)))).setCell (p := ⟨w.heap.size, 1, none⟩) (Nat.le_refl _) _

set_option maxRecDepth 100000 in
set_option maxHeartbeats 4000000 in
theorem lengthen_any (v : Value) (s : Bool) (Ap : Option Addr) (np cp : Nat) (b q b' : List UInt8) (ps ps' : List DM.Wr) (x : Int) (w : World) (HV : Hid (DiskIs w v b ps)) (HQ : Hid (Rd w Ap np (bc q))) (hnp : np ≤ cp) (hcp : cp ≤ maxLen) (HS : Hid (LenIs b ps (s, q) b' ps' x)) :
    Calls Try.prog 44 #[v, .agg #[.bool s, .slice Ap np cp]] w (DiskAns w b' ps' x) := by
  obtain ⟨i0, hi, hz0, hz1, hz2⟩ := info_parts info_put
  obtain ⟨A, n, c, B, m, d, rfl, h1, h2, h3, h4, h5, h6⟩ := HV.out
  have hc : c ≤ 9223372036854775807 := by unfold maxLen at h2; omega
  have hd : d ≤ 9223372036854775807 := by unfold maxLen at h4; omega
  have hcp2 : cp ≤ 9223372036854775807 := by unfold maxLen at hcp; omega
  have hb0 : Below w.heap.size w (((w.alloc (.cells #[.slice A n c, .slice B m d] 25)).alloc (.cells #[.bool s, .slice Ap np cp] 37)).alloc (.cells #[.slice none 0 0, .slice none 0 0] 25)) := ((((Below.refl _ _).alloc (Nat.le_refl _) _).alloc (by simp) _).alloc (by simp; omega) _)
  have hr0 := h5.below hb0
  have hw0 := h6.below hb0
  have HR := Lib.hid hr0
  have HW := Lib.hid hw0
  have HB0 := Lib.hid hb0
  have HPL := Lib.hid h6.1
  have HD := Lib.hid h4
  have HCP := Lib.hid hcp
  have HR00 := Lib.hid h5
  have HW00 := Lib.hid h6
  clear h2 h4 h5 h6 hr0 hw0 hb0 HV hcp
  go_enter Try.func44, Try.ntmps44
  go_wp2_with fail
  refine (check_any A B n c m d b ps _ HR HW (by omega) (by omega)).mono ?_
  rintro e w1 ⟨x1, rfl, hx1, hb1⟩
  have bd0 : Box w1 w.heap.size 25 #[.slice A n c, .slice B m d] := (((Box.new w _ _).alloc _).alloc _).below hb1 (by simp; omega)
  have bp0 : Box w1 (w.heap.size + 1) 37 #[.bool s, .slice Ap np cp] := ((Box.new_at (w.heap.size + 1) (by simp)).alloc _).below hb1 (by simp)
  have br0 : Box w1 (w.heap.size + 1 + 1) 25 #[.slice none 0 0, .slice none 0 0] := (Box.new_at (w.heap.size + 1 + 1) (by simp)).below hb1 (by simp)
  have BD := Lib.hid bd0
  have BP := Lib.hid bp0
  have BR := Lib.hid br0
  have c0 : w1.cell? ⟨w.heap.size, 0, none⟩ = some (.slice A n c) := bd0.cell 0
  have c1 : w1.cell? ⟨w.heap.size, 1, none⟩ = some (.slice B m d) := bd0.cell 1
  have p0 : w1.cell? ⟨w.heap.size + 1, 0, none⟩ = some (.bool s) := bp0.cell 0
  have p1 : w1.cell? ⟨w.heap.size + 1, 1, none⟩ = some (.slice Ap np cp) := bp0.cell 1
  have k0 : w1.cell? ⟨w.heap.size + 1 + 1, 0, none⟩ = some (.slice none 0 0) := br0.cell 0
  have k1 : w1.cell? ⟨w.heap.size + 1 + 1, 1, none⟩ = some (.slice none 0 0) := br0.cell 1
  have f0 : w1.frozen? ⟨w.heap.size + 1 + 1, 0, none⟩ = false := br0.frozen 0
  have f1 : w1.frozen? ⟨w.heap.size + 1 + 1, 1, none⟩ = false := br0.frozen 1
  have hz := hb1.size
  simp at hz
  have hB1 := HB0.out.trans (hb1.mono (by simp; omega))
  have HB1 := Lib.hid hB1
  clear hb1 hB1 HR HW HB0 bd0 bp0 br0
  rcases hx1 with ⟨hmay, rfl⟩ | ⟨hmay, rfl⟩
  rotate_left
  · rcases HS.out with ⟨_, rfl, rfl, rfl⟩ | ⟨hno, _⟩ | ⟨hno, _⟩
    rotate_left
    · exact absurd hno hmay
    · exact absurd hno hmay
    clear hmay HS
    go_wp2_with fail
    exact bodyPost_ret (v := .tuple #[.agg #[.slice none 0 0, .slice none 0 0], .int .i64 30]) (by simp [results, Try.results44, go_sem, k0, k1]) rfl ⟨_, rfl, DiskOwn.zero, below_put HB1.out (by omega) _ _⟩
  have hm1024 : m ≤ 1024 := by have := hmay.1; rw [HPL.out] at this; exact this
  obtain ⟨hpl, l, hl1, hl2⟩ := HW00.out
  have hl1' := hl1.below HB1.out
  have HL1 := Lib.hid hl1'
  have hpa : PairsAre w (l ++ [(s, .slice Ap np cp)]) (ps ++ [(s, q)]) := by
    have hql : q.length = np := by have := HQ.out.1; rwa [bc_length] at this
    subst hql
    exact hl2.snoc rfl ⟨Ap, cp, rfl, hnp, HCP.out, HQ.out⟩
  have HPA := Lib.hid hpa
  clear hl1 hl1' hl2 hpl hpa
  have hk0 : (0 : Int) ≤ (m : Int) := by omega
  have hk2 : (m : Int) ≤ (d : Int) := by omega
  have c1a : (w1.alloc (.cells #[.bool s, .slice Ap np cp] 37)).cell? ⟨w.heap.size, 1, none⟩ = some (.slice B m d) := (BD.out.alloc _).cell 1
  have hmid : ∀ cap2 w2, w2.ownsRow (w1.heap.size + 1) 37 2 (.slice (some ⟨w1.heap.size + 1, 0, none⟩) (m + 1) cap2) (m + 1) (pc l ++ [.bool s, .slice Ap np cp]) → Below (w1.heap.size + 1) (w1.alloc (.cells #[.bool s, .slice Ap np cp] 37)).drew w2 →
      LenMid w A n c (m + 1) (l ++ [(s, .slice Ap np cp)]) (w2.setCell ⟨w.heap.size, 1, none⟩ (.slice (some ⟨w1.heap.size + 1, 0, none⟩) (m + 1) cap2)) := fun cap2 w2 ho hb => lenMid_of rfl HB1.out BD.out BR.out (by rw [pc_append]; exact ho) hb
  have HMid := Lib.hid hmid
  clear hmid
  go_upto_region 5 with (fail)
  go_cut [26] (fun u wx => LenMid w A n c (m + 1) (l ++ [(s, .slice Ap np cp)]) wx)
  case first =>
    go_region_law (first | (refine step_append_full _ (by rfl) _ _ 23 (by rfl) 37 i0 _ 2 32 Try.underlying23 hi hz0 hz1 hz2 rfl B m (pc l) (by rfl) ((HL1.out.alloc _).drew) ⟨w1.heap.size, 0, none⟩ 1 [.bool s, .slice Ap np cp] (by rfl) ((rdS_new w1 _ _ _).drew) (by simp [Value.oneCell']) (by unfold maxLen; omega) (by omega) (w1.heap.size + 1) (by simp) ?_; intro cap2 w2 hown2 hb2 hlt2; have c12 : w2.cell? ⟨w.heap.size, 1, none⟩ = some (.slice B m d) := (((BD.out.alloc _).drew).below hb2 (by omega)).cell 1; have d12 : w2.frozen? ⟨w.heap.size, 1, none⟩ = false := (((BD.out.alloc _).drew).below hb2 (by omega)).frozen 1))
    all_goals (go_wp2_with fail; go_meet; case rel => exact HMid.out _ _ hown2 hb2)
  case rest =>
    clear c0 c1 p0 p1 k0 k1 f0 f1 c1a BD BP BR HMid HL1 HB1 hz hk0 hk2 w1
    obtain ⟨gw, cap, hB, hbd, hbr, hrow, hcm, hNc⟩ := hcut
    obtain ⟨N, hN⟩ : ∃ N, m + 1 = N := ⟨_, rfl⟩
    rw [hN] at hbd hrow hNc
    have hpl : (ps ++ [(s, q)]).length = N := by rw [List.length_append, HPL.out]; exact hN
    have hN1024 : N ≤ 1025 := by omega
    have HPL2 := Lib.hid hpl
    obtain ⟨l2, hl2⟩ : ∃ l2, l2 = l ++ [(s, Value.slice Ap np cp)] := ⟨_, rfl⟩
    rw [← hl2] at HPA hrow
    obtain ⟨ps2, hps2⟩ : ∃ ps2, ps2 = ps ++ [(s, q)] := ⟨_, rfl⟩
    rw [← hps2] at HPA HPL2
    have hS2 : (¬ DM.may b ps2 ∧ b' = [] ∧ ps' = [] ∧ x = 9) ∨ (DM.may b ps2 ∧ b' = b ∧ ps' = ps2 ∧ x = 0) := by
      rw [hps2]
      rcases HS.out with ⟨hno, _⟩ | ⟨_, g1, g2⟩ | ⟨_, g1, g2⟩
      · exact absurd hmay hno
      · exact .inl ⟨g1, g2⟩
      · exact .inr ⟨g1, g2⟩
    have HS2 := Lib.hid hS2
    have hwait : WaitIs wc (some ⟨gw, 0, none⟩) N ps2 := ⟨HPL2.out, l2, RdS.of_own hrow, HPA.out.below hB⟩
    have hrd := HR00.out.below hB
    have HWt := Lib.hid hwait
    have HRt := Lib.hid hrd
    have HRow := Lib.hid hrow
    have HBD := Lib.hid hbd
    have HBR := Lib.hid hbr
    have HBB := Lib.hid hB
    have c0 : wc.cell? ⟨w.heap.size, 0, none⟩ = some (.slice A n c) := hbd.cell 0
    have c1 : wc.cell? ⟨w.heap.size, 1, none⟩ = some (.slice (some ⟨gw, 0, none⟩) N cap) := hbd.cell 1
    clear hmay hS2 hwait hrd hrow hbd hbr hB hN hpl hl2 hps2 HS HW00 hcm l
    go_wp2_with fail
    refine (check_any A (some ⟨gw, 0, none⟩) n c N cap b ps2 _ HRt HWt (by omega) (by omega)).mono ?_
    rintro e w4 ⟨x4, rfl, hx4, hb4⟩
    have hbd4 := HBD.out.below hb4 HBD.out.lt
    have hbr4 := HBR.out.below hb4 HBR.out.lt
    have hgb := HBR.out.lt
    clear c0 c1
    rcases hx4 with ⟨hmay, rfl⟩ | ⟨hmay, rfl⟩
    rotate_left
    · rcases HS2.out with ⟨_, rfl, rfl, rfl⟩ | ⟨hno, _⟩
      rotate_left
      · exact absurd hno hmay
      have k0 : w4.cell? ⟨w.heap.size + 1 + 1, 0, none⟩ = some (.slice none 0 0) := hbr4.cell 0
      have k1 : w4.cell? ⟨w.heap.size + 1 + 1, 1, none⟩ = some (.slice none 0 0) := hbr4.cell 1
      have f0 : w4.frozen? ⟨w.heap.size + 1 + 1, 0, none⟩ = false := hbr4.frozen 0
      have f1 : w4.frozen? ⟨w.heap.size + 1 + 1, 1, none⟩ = false := hbr4.frozen 1
      have HB4 := Lib.hid (bmore HBB.out hb4 (Nat.le_refl _))
      clear hmay HS2 hbd4 hbr4 hb4
      go_wp2_with fail
      exact bodyPost_ret (v := .tuple #[.agg #[.slice none 0 0, .slice none 0 0], .int .i64 9]) (by simp [results, Try.results44, go_sem, k0, k1]) rfl ⟨_, rfl, DiskOwn.zero, below_put HB4.out (by omega) _ _⟩
    rcases HS2.out with ⟨hno, _⟩ | ⟨_, rfl, rfl, rfl⟩
    · exact absurd hmay hno
    have hfit0 := DM.fits_zero hmay.2
    have hbl : b'.length = n := by have := HRt.out.1; rwa [bc_length] at this
    have hn20 : n ≤ 1048576 := by omega
    have hsmall : ∀ (k : Nat) (s : Bool) (d : List UInt8), ps'[k]? = some (s, d) → d.length ≤ 1048576 := by
      intro k s d hk
      obtain ⟨hlt, he⟩ := List.getElem?_eq_some_iff.1 hk
      have := hmay.2 (k + 1) (by omega)
      rw [DM.behind_take _ _ _ hlt, DM.step_length, he] at this
      unfold DM.more at this
      simp only at this
      omega
    have HSm := Lib.hid hsmall
    have HBl := Lib.hid hbl
    have c0 : w4.cell? ⟨w.heap.size, 0, none⟩ = some (.slice A n c) := hbd4.cell 0
    have HBD4 := Lib.hid hbd4
    have HBR4 := Lib.hid hbr4
    have HB4 := Lib.hid hb4
    have HR4 := Lib.hid (HRt.out.below hb4)
    clear hmay HS2 hfit0 hbl hsmall hbd4 hbr4 hb4
    go_wp2_with fail
    refine (clone_sl A n c b' _ HR4 (by omega)).mono ?_
    rintro e w5 ⟨A5, c5, rfl, hown5, hb5⟩
    have hb45 := HB4.out.trans (hb5.mono HB4.out.size)
    have hstart := lenRel_start HBB.out HBD.out HBR.out HRow.out HPA.out hb45 hown5 HB4.out.size
    have HSt := Lib.hid hstart
    have e0 : w5.cell? ⟨w.heap.size, 0, none⟩ = some (.slice A n c) := (HBD.out.below hb45 HBD.out.lt).cell 0
    have e1 : w5.cell? ⟨w.heap.size, 1, none⟩ = some (.slice (some ⟨gw, 0, none⟩) N cap) := (HBD.out.below hb45 HBD.out.lt).cell 1
    have g0 : w5.frozen? ⟨w.heap.size, 0, none⟩ = false := (HBD.out.below hb45 HBD.out.lt).frozen 0
    clear hstart hb45 hown5 hb5 HR4 HB4 HBR4 HBD4 HBB HBR HBD HRow HRt HWt c0
    go_wp2_with fail
    generalize w5.setCell ⟨w.heap.size, 0, none⟩ (.slice A5 n c5) = w6 at HSt ⊢
    clear e0 e1 g0
    go_loopw [39] (fun i wr => ∃ k : Nat, k ≤ N ∧ i = .int .i64 k ∧ LenRel w b' ps' A5 n c5 gw N cap k wr) (fun i _ => N - (intOf i).toNat)
    case atStart => exact ⟨0, by omega, rfl, HSt.out⟩
    case round =>
      clear HSt
      obtain ⟨k, hk, rfl, hrel⟩ := hrel
      by_cases hlt : k < N
      · obtain ⟨s1, d1, Ai, ci, hps1, z0, z1, z2, hrd1, hgw1, hgw2⟩ := hrel.at_ HPL2.out hlt
        have hd1 := HSm.out _ _ _ hps1
        obtain ⟨y, hy⟩ : ∃ y, d1.length = y := ⟨_, rfl⟩
        rw [hy] at z1 hd1 hrd1
        have HY := Lib.hid hy
        have HPs1 := Lib.hid hps1
        have HRel := Lib.hid hrel
        have hrw := hrd1.below hrel.1
        have HRw := Lib.hid hrw
        have q1 : wr.cell? ⟨w.heap.size, 1, none⟩ = some (.slice (some ⟨gw, 0, none⟩) N cap) := hrel.2.1.cell 1
        have hg0 : w.heap.size < wr.heap.size := hrel.2.1.lt
        clear hy hps1 hrel hrd1 hrw
        have i0' : (0 : Int) ≤ (k : Int) := by omega
        have i1 : (k : Int) < (N : Int) := by omega
        have ne1 : w.heap.size ≠ gw := by omega
        have ne2 : gw ≠ w.heap.size := by omega
        have ne3 : wr.heap.size ≠ gw := by omega
        have ne4 : gw ≠ wr.heap.size := by omega
        have ne5 : w.heap.size ≠ wr.heap.size := by omega
        have ne6 : wr.heap.size ≠ w.heap.size := by omega
        go_wp2_with fail
        have bv := Box.new wr 37 #[.bool s1, .slice Ai y ci]
        have v1 : (wr.alloc (.cells #[.bool s1, .slice Ai y ci] 37)).cell? ⟨wr.heap.size, 1, none⟩ = some (.slice Ai y ci) := bv.cell 1
        have q2 : (wr.alloc (.cells #[.bool s1, .slice Ai y ci] 37)).cell? ⟨w.heap.size, 1, none⟩ = some (.slice (some ⟨gw, 0, none⟩) N cap) := by rw [World.cell?_alloc_lt _ _ _ hg0]; exact q1
        have z12 : (wr.alloc (.cells #[.bool s1, .slice Ai y ci] 37)).cell? ⟨gw, k * 2 + 1, none⟩ = some (.slice Ai y ci) := by rw [World.cell?_alloc_lt _ _ _ hgw2]; exact z1
        have z22 : (wr.alloc (.cells #[.bool s1, .slice Ai y ci] 37)).frozen? ⟨gw, k * 2 + 1, none⟩ = false := (((Below.refl wr.heap.size wr).alloc (Nat.le_refl _) _).frozen (p := ⟨gw, k * 2 + 1, none⟩) hgw2).trans z2
        have hrw8 := (HRw.out.alloc (.cells #[.bool s1, .slice Ai y ci] 37))
        have hb8 : Below wr.heap.size wr (wr.alloc (.cells #[.bool s1, .slice Ai y ci] 37)) := (Below.refl _ _).alloc (Nat.le_refl _) _
        have hs8 : wr.heap.size + 1 = (wr.alloc (.cells #[.bool s1, .slice Ai y ci] 37)).heap.size := by simp
        have HRw8 := Lib.hid hrw8
        have HB8 := Lib.hid hb8
        have HS8 := Lib.hid hs8
        clear hrw8 hb8 hs8 bv z0 z1 z2 q1
        generalize wr.alloc (.cells #[.bool s1, .slice Ai y ci] 37) = w8 at v1 q2 z12 z22 HRw8 HB8 HS8 ⊢
        have hw8 : wr.heap.size < w8.heap.size := by have := HS8.out; omega
        go_region_held3 (fun w' => w'.cell? ⟨w.heap.size, 1, none⟩ = some (.slice (some ⟨gw, 0, none⟩) N cap) ∧ w'.cell? ⟨wr.heap.size, 1, none⟩ = some (.slice Ai y ci))
          (first | exact ⟨s17, s27⟩ | go_keep)
          (first
            | (go_at_call 42; refine (clone_sl Ai y ci d1 _ (Lib.hid HRw8.out.drew) (by omega)).mono ?_; rintro e w7 ⟨A6, c6, rfl, hown7, hb7⟩; have z17 : w7.cell? ⟨gw, k * 2 + 1, none⟩ = some (.slice Ai y ci) := (hb7.cell (show gw < _ from Nat.lt_trans hgw2 hw8)).trans z12; have z27 : w7.frozen? ⟨gw, k * 2 + 1, none⟩ = false := (hb7.frozen (show gw < _ from Nat.lt_trans hgw2 hw8)).trans z22; have s17 : w7.cell? ⟨w.heap.size, 1, none⟩ = some (.slice (some ⟨gw, 0, none⟩) N cap) := (hb7.cell (show w.heap.size < _ from Nat.lt_trans hg0 hw8)).trans q2; have s27 : w7.cell? ⟨wr.heap.size, 1, none⟩ = some (.slice Ai y ci) := (hb7.cell (show wr.heap.size < _ from hw8)).trans v1))
        have hnext := lenRel_next HRel.out HPL2.out HPs1.out (HB8.out.trans ((Below.refl _ _).drew.trans (hb7.mono (by show wr.heap.size ≤ w8.heap.size; omega)))) hown7 (by show wr.heap.size ≤ w8.heap.size; omega) HY.out
        clear hown7 hb7
        go_wp2_with fail
        go_roundw
        case rel => exact ⟨k + 1, by omega, by go_num, hnext⟩
        case measure => simp [intOf]; omega
      · obtain rfl : N = k := by omega
        have hfin := lenRel_end hrel HPL2.out HBl.out
        have HF := Lib.hid hfin
        have k0 : wr.cell? ⟨w.heap.size + 1 + 1, 0, none⟩ = some (.slice none 0 0) := hrel.2.2.1.cell 0
        have k1 : wr.cell? ⟨w.heap.size + 1 + 1, 1, none⟩ = some (.slice none 0 0) := hrel.2.2.1.cell 1
        have f0 : wr.frozen? ⟨w.heap.size + 1 + 1, 0, none⟩ = false := hrel.2.2.1.frozen 0
        have f1 : wr.frozen? ⟨w.heap.size + 1 + 1, 1, none⟩ = false := hrel.2.2.1.frozen 1
        have q0 : wr.cell? ⟨w.heap.size, 0, none⟩ = some (.slice A5 n c5) := hrel.2.1.cell 0
        have q1 : wr.cell? ⟨w.heap.size, 1, none⟩ = some (.slice (some ⟨gw, 0, none⟩) N cap) := hrel.2.1.cell 1
        have HBb := Lib.hid hrel.1
        clear hrel hfin
        go_wp2_with fail
        exact bodyPost_ret (v := .tuple #[.agg #[.slice A5 n c5, .slice (some ⟨gw, 0, none⟩) N cap], .int .i64 0]) (by simp [results, Try.results44, go_sem, k0, k1]) rfl ⟨_, rfl, (HF.out.put (by omega) _ _).mono (by omega), below_put HBb.out (by omega) _ _⟩
end Go.Proofs.Ytkdnkaiknmcfmaa
