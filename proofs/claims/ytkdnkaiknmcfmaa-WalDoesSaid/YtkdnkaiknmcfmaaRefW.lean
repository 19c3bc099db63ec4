/-
  What Write of the document's disks answers. Conditions: the disk's slices read as bytes and writes; all its bytes together are no more than one slice may have; the new write has at most 2,000,000.
-/
import Derived.Test.YtkdnkaiknmcfmaaRefT
import Derived.Test.YtkdnkaiknmcfmaaRefB
namespace Go.Proofs.Ytkdnkaiknmcfmaa
open Go.RowKit
set_option linter.unusedVariables false

theorem total_may {b : List UInt8} {ps : List DM.Wr} (h : DM.may b ps) : DM.total b ps ≤ 1074790400 := by
  have h1 := DM.fits_zero h.2
  have key : ∀ (l : List DM.Wr), (∀ q ∈ l, q.2.length ≤ 1048576) → (l.map (·.2.length)).sum ≤ l.length * 1048576 := by
    intro l
    induction l with
    | nil => simp
    | cons q t ih =>
      intro hq
      have := ih (fun q' hq' => hq q' (by simp [hq']))
      have := hq q (by simp)
      simp only [List.map_cons, List.sum_cons, List.length_cons]
      omega
  have h2 := key ps (fun q hq => by
    obtain ⟨i, hi, rfl⟩ := List.getElem_of_mem hq
    have := h.2 (i + 1) (by omega)
    rw [DM.behind_take _ _ _ hi, DM.step_length] at this
    unfold DM.more at this
    omega)
  have h3 := h.1
  unfold DM.total
  omega

theorem row_next {wr w4 w5 : World} {base g3 n k y c4 c5 co co' : Nat} {A4 A5 Bo Bo' : Option Addr} {b dd : List UInt8} {ps : List DM.Wr} {s : Bool} {l : List (Bool × Value)} {o : Obj}
    (h4 : wr.ownsRow base 5 1 (.slice A5 n c5) n (bc b)) (h5 : Box wr g3 25 #[.slice A5 n c5, .slice Bo k co]) (h6 : wr.ownsRow base 37 2 (.slice Bo k co) k (pc l)) (h7 : PairsOwn wr base 5 l ps) (hk : ps.length = k) (hn : b.length = n) (hb : base ≤ wr.heap.size)
    (hy : dd.length = y) (ho4 : w4.ownsRow wr.drew.heap.size 5 1 (.slice A4 y c4) y (bc dd)) (hb4 : Below wr.drew.heap.size wr.drew w4)
    (ho5 : w5.ownsRow base 37 2 (.slice Bo' (k + 1) co') (k + 1) (pc l ++ [.bool s, .slice A4 y c4])) (hg5 : (w4.alloc o).grownBy w5 (Value.ownBlock (.slice Bo k co))) :
    DiskOwn (w5.setCell ⟨g3, 1, none⟩ (.slice Bo' (k + 1) co')) base 5 37 (.agg #[.slice A5 n c5, .slice Bo' (k + 1) co']) b (ps ++ [(s, dd)]) ∧
    Box (w5.setCell ⟨g3, 1, none⟩ (.slice Bo' (k + 1) co')) g3 25 #[.slice A5 n c5, .slice Bo' (k + 1) co'] ∧
    (∀ (g : Nat) (cs : Array Value), Box wr g 25 cs → g ≠ g3 → Box (w5.setCell ⟨g3, 1, none⟩ (.slice Bo' (k + 1) co')) g 25 cs) ∧
    (∀ X, X ≤ base → X ≤ g3 → X ≤ wr.heap.size → Below X wr (w5.setCell ⟨g3, 1, none⟩ (.slice Bo' (k + 1) co'))) := by
  have hw4 : Below wr.heap.size wr (w4.alloc o) := (((Below.refl _ _).drew).trans hb4).alloc hb4.size o
  have e6 := own_below2 h6 hw4
  have e5 := box_grown (h5.below hw4 h5.lt) hg5 (own_box_ne e6 (h5.below hw4 h5.lt) (by decide))
  have far : ∀ {v : Value} {q : Nat} {xs : List Value}, (w4.alloc o).ownsRow base 5 1 v q xs → w5.ownsRow base 5 1 v q xs := fun h => own_grown h hg5 (own_ne e6 h (by decide))
  have e4 := far (own_below2 h4 hw4)
  have o4 : w5.ownsRow base 5 1 (.slice A4 y c4) y (bc dd) := far (own_mono (own_below2 ho4 ((Below.refl _ _).alloc (Nat.le_refl _) o)) (by show base ≤ wr.heap.size; omega))
  refine ⟨⟨_, _, l ++ [(s, .slice A4 y c4)], rfl, by rw [hn]; exact own_far e4 e5 (by decide), ?_, ?_⟩, ?_, ?_, ?_⟩
  · rw [pc_append, List.length_append, hk]; exact own_far ho5 e5 (by decide)
  · refine ⟨by rw [List.length_append, List.length_append, h7.1]; rfl, fun i p q hp hq => ?_⟩
    rcases Nat.lt_or_ge i l.length with hil | hil
    · rw [List.getElem?_append_left hil] at hp
      rw [List.getElem?_append_left (by rw [← h7.1]; exact hil)] at hq
      obtain ⟨j1, j2⟩ := h7.2 i p q hp hq
      exact ⟨j1, own_far (far (own_below2 j2 hw4)) e5 (by decide)⟩
    · rw [List.getElem?_append_right hil] at hp
      rw [List.getElem?_append_right (by rw [← h7.1]; exact hil), ← h7.1] at hq
      rcases Nat.eq_zero_or_pos (i - l.length) with h0 | h0
      · rw [h0] at hp hq
        simp at hp hq
        subst hp; subst hq
        refine ⟨rfl, ?_⟩
        show (w5.setCell _ _).ownsRow _ _ _ (.slice A4 y c4) dd.length (bc dd)
        rw [hy]
        exact own_far o4 e5 (by decide)
      · rw [List.getElem?_eq_none (by simp; omega)] at hp; cases hp
  · have := e5.stored 1 (.slice Bo' (k + 1) co')
    simpa using this
  · intro g cs hbx hg
    exact (box_grown (hbx.below hw4 hbx.lt) hg5 (own_box_ne e6 (hbx.below hw4 hbx.lt) (by decide))).far (p := ⟨g3, 1, none⟩) hg _
  · intro X h1 h2 h3
    exact ((hw4.mono h3).grown hg5 (by have := hw4.size; omega) (fun g hg => by have := own_block_ge e6 g hg; omega)).setCell (p := ⟨g3, 1, none⟩) h2 _

def WMid (w w3 : World) (g3 n m c2 : Nat) (A2 : Option Addr) (b : List UInt8) (ps : List DM.Wr) (base : Nat) (wx : World) : Prop :=
  ∃ B3 d3, DiskOwn wx base 5 37 (.agg #[.slice A2 n c2, .slice B3 m d3]) b ps ∧ Box wx g3 25 #[.slice A2 n c2, .slice B3 m d3] ∧ Box wx (w.heap.size + 1 + 1) 25 #[.slice none 0 0, .slice none 0 0] ∧ Below w.heap.size w wx

set_option maxRecDepth 100000 in
set_option maxHeartbeats 16000000 in
theorem refWrite_any (v : Value) (s : Bool) (Ap : Option Addr) (np cp : Nat) (b q b' : List UInt8) (ps ps' : List DM.Wr) (x : Int) (nb mb : Nat) (w : World) (HV : Hid (DiskIs w v b ps)) (HT : Hid (DM.total b ps ≤ 140737488355328)) (HQ : Hid (Rd w Ap np (bc q))) (hnp : np ≤ 2000000) (HS : Hid (LenIs b ps (s, q) b' ps' x)) (HNB : Hid (b'.length = nb)) (HMB : Hid (ps'.length = mb)) :
    Calls Try.prog 34 #[v, .agg #[.bool s, .slice Ap np cp]] w (DAns w b' ps' nb mb x) := by
  obtain ⟨i0, hi, hz0, hz1, hz2⟩ := info_parts info_byte
  obtain ⟨j0, hj, hy0, hy1, hy2⟩ := info_parts info_put
  obtain ⟨A, n, c, B, m, d, rfl, h1, h2, h3, h4, h5, h6⟩ := HV.out
  have hbl : b.length = n := by have := h5.1; rwa [bc_length] at this
  have hql : q.length = np := by have := HQ.out.1; rwa [bc_length] at this
  have hpl := h6.1
  have hB0 : Below w.heap.size w (((w.alloc (.cells #[.slice A n c, .slice B m d] 25)).alloc (.cells #[.bool s, .slice Ap np cp] 37)).alloc (.cells #[.slice none 0 0, .slice none 0 0] 25)) := (((Below.refl _ _).alloc (Nat.le_refl _) _).alloc (by simp) _).alloc (by simp; omega) _
  have V : Hid (Var (((w.alloc (.cells #[.slice A n c, .slice B m d] 25)).alloc (.cells #[.bool s, .slice Ap np cp] 37)).alloc (.cells #[.slice none 0 0, .slice none 0 0] 25)) w.heap.size A n c B m d b ps) := Lib.hid ⟨((Box.new _ _ _).alloc _).alloc _, HV.out.below hB0⟩
  have Y : Hid (Box (((w.alloc (.cells #[.slice A n c, .slice B m d] 25)).alloc (.cells #[.bool s, .slice Ap np cp] 37)).alloc (.cells #[.slice none 0 0, .slice none 0 0] 25)) (w.heap.size + 1) 37 #[.bool s, .slice Ap np cp]) := Lib.hid ((Box.new_at (w.heap.size + 1) (by simp)).alloc _)
  have X : Hid (Box (((w.alloc (.cells #[.slice A n c, .slice B m d] 25)).alloc (.cells #[.bool s, .slice Ap np cp] 37)).alloc (.cells #[.slice none 0 0, .slice none 0 0] 25)) (w.heap.size + 1 + 1) 25 #[.slice none 0 0, .slice none 0 0]) := Lib.hid (Box.new_at _ (by simp))
  have HRq := Lib.hid (HQ.out.below hB0)
  have HB := Lib.hid hB0
  have HBL := Lib.hid hbl
  have HPL := Lib.hid hpl
  have HQL := Lib.hid hql
  clear h1 h2 h3 h4 h5 h6 hB0 HV hbl hpl hql HQ
  obtain ⟨gm, hgm⟩ : ∃ gm, GIs gm b ps := ⟨decide (DM.may b ps), by simp [GIs]⟩
  have HGM := Lib.hid hgm
  clear hgm
  go_enter Try.func34, Try.ntmps34
  go_wp2_with fail
  generalize (((w.alloc (.cells #[.slice A n c, .slice B m d] 25)).alloc (.cells #[.bool s, .slice Ap np cp] 37)).alloc (.cells #[.slice none 0 0, .slice none 0 0] 25)) = w0 at V X Y HB HRq ⊢
  refine (may_any _ b ps gm _ (Lib.hid V.out.2) HT HGM).mono ?_
  rintro e w1 ⟨rfl, hb1⟩
  have V1 := Lib.hid (V.out.below hb1)
  have X1 := Lib.hid (X.out.below hb1 X.out.lt)
  have Y1 := Lib.hid (Y.out.below hb1 Y.out.lt)
  have HR1 := Lib.hid (HRq.out.below hb1)
  have HB1 := Lib.hid (bmore HB.out hb1 (Nat.le_refl _))
  have k0 := V1.out.c0
  have k1 := V1.out.c1
  clear hb1 V X Y HB HRq
  have hmayg : gm = true ↔ DM.may b ps := HGM.out
  by_cases hmay : DM.may b ps
  rotate_left
  · have hgf : gm = false := by cases gm with | true => exact absurd (hmayg.1 rfl) hmay | false => rfl
    subst hgf
    rcases HS.out with ⟨_, rfl, rfl, rfl⟩ | ⟨hno, _⟩ | ⟨hno, _⟩
    rotate_left
    · exact absurd hno hmay
    · exact absurd hno hmay
    have hnb : 0 = nb := HNB.out
    have hmb : 0 = mb := HMB.out
    subst hnb
    subst hmb
    have z0 : w1.cell? ⟨w.heap.size + 1 + 1, 0, none⟩ = some (.slice none 0 0) := X1.out.cell 0
    have z1 : w1.cell? ⟨w.heap.size + 1 + 1, 1, none⟩ = some (.slice none 0 0) := X1.out.cell 1
    have z2 : w1.frozen? ⟨w.heap.size + 1 + 1, 0, none⟩ = false := X1.out.frozen 0
    have z3 : w1.frozen? ⟨w.heap.size + 1 + 1, 1, none⟩ = false := X1.out.frozen 1
    clear hmayg hmay HS
    go_wp2
    exact bodyPost_ret (v := .tuple #[.agg #[.slice none 0 0, .slice none 0 0], .int .i64 30]) (by simp [results, Try.results34, go_sem, z0, z1]) rfl ⟨_, _, _, _, rfl, DiskOwn.zero, below_put HB1.out (by omega) _ _⟩
  have hgt : gm = true := hmayg.2 hmay
  subst hgt
  have hm1024 : m ≤ 1024 := by have := hmay.1; rw [HPL.out] at this; exact this
  have htot := total_may hmay
  have htot2 : DM.total b (ps ++ [(s, q)]) ≤ 140737488355328 := by rw [DM.total_snoc]; simp only; rw [HQL.out]; omega
  have HT2 := Lib.hid htot2
  have htw := twin_any (.agg #[.slice A n c, .slice B m d]) b ps w1 (Lib.hid V1.out.2) HT (by rw [HPL.out]; omega)
  rw [HBL.out, HPL.out] at htw
  have HTw := Lib.hid htw
  have HMay := Lib.hid hmay
  clear hmayg hmay htot htot2 htw
  go_wp2_with fail
  refine (HTw.out).mono ?_
  rintro e w2 ⟨A2, c2, B2, d2, rfl, hown2, hb2⟩
  obtain ⟨x2, y2, l, e2, o1, o2, o3⟩ := hown2
  simp at e2
  obtain ⟨rfl, rfl⟩ := e2
  rw [HBL.out] at o1
  rw [HPL.out] at o2
  have hst : Below w2.heap.size w2 (w2.alloc (.cells #[.slice A2 n c2, .slice B2 m d2] 25)) := (Below.refl _ _).alloc (Nat.le_refl _) _
  have hb3 := bmore hb2 hst (Nat.le_refl _)
  have O1 := Lib.hid (own_below2 o1 hst)
  have O2 := Lib.hid (own_below2 o2 hst)
  have O3 := Lib.hid (o3.below hst)
  have Y3 := Lib.hid (Y1.out.below hb3 Y1.out.lt)
  have X3 := Lib.hid (X1.out.below hb3 X1.out.lt)
  have R3 := Lib.hid (HR1.out.below hb3)
  have HB3 := Lib.hid (bmore HB1.out hb3 (Nat.le_refl _))
  have G3 := Lib.hid (Box.new w2 25 #[.slice A2 n c2, .slice B2 m d2])
  have hs12 : w1.heap.size ≤ w2.heap.size := hb2.size
  have hx1 : w.heap.size + 1 + 1 < w1.heap.size := X1.out.lt
  clear k0 k1 o1 o2 o3 hb2 hst hb3 HTw V1 X1 Y1 HR1 HB1
  go_upto_region 4 with (fail)
  generalize w2.alloc (.cells #[.slice A2 n c2, .slice B2 m d2] 25) = w3 at O1 O2 O3 Y3 X3 R3 HB3 G3 ⊢
  have hg3w : w1.heap.size ≤ w2.heap.size := hs12
  generalize w2.heap.size = g3 at G3 hs12 hg3w ⊢
  have p0 : w3.cell? ⟨w.heap.size + 1, 0, none⟩ = some (.bool s) := Y3.out.cell 0
  have p1 : w3.cell? ⟨w.heap.size + 1, 1, none⟩ = some (.slice Ap np cp) := Y3.out.cell 1
  have ko : w3.cell? ⟨g3, 1, none⟩ = some (.slice B2 m d2) := G3.out.cell 1
  have hg3 : g3 < w3.heap.size := G3.out.lt
  have hpl3 : w.heap.size + 1 < w3.heap.size := Y3.out.lt
  have hmid : ∀ A4 c4 w4 Bo' co' w5, w4.ownsRow w3.drew.heap.size 5 1 (.slice A4 np c4) np (bc q) → Below w3.drew.heap.size w3.drew w4 → w5.ownsRow w1.heap.size 37 2 (.slice Bo' (m + 1) co') (m + 1) (pc l ++ [.bool s, .slice A4 np c4]) → (w4.alloc (.cells #[.bool s, .slice A4 np c4] 37)).grownBy w5 (Value.ownBlock (.slice B2 m d2)) →
      WMid w w3 g3 n (m + 1) c2 A2 b (ps ++ [(s, q)]) w1.heap.size (w5.setCell ⟨g3, 1, none⟩ (.slice Bo' (m + 1) co')) := by
    intro A4 c4 w4 Bo' co' w5 q1 q2 q3 q4
    obtain ⟨t1, t2, t3, t4⟩ := row_next O1.out G3.out O2.out O3.out HPL.out HBL.out (by omega) HQL.out q1 q2 q3 q4
    exact ⟨Bo', co', t1, t2, t3 _ _ X3.out (by omega), HB3.out.trans (t4 _ (by omega) (by omega) (by omega))⟩
  have HMid := Lib.hid hmid
  clear hmid
  go_cut [22] (fun u wx => WMid w w3 g3 n (m + 1) c2 A2 b (ps ++ [(s, q)]) w1.heap.size wx)
  case first =>
    go_region_law (first
      | (refine step_append_fresh _ (by rfl) _ _ 22 (by rfl) 5 i0 _ 1 Try.underlying22 hi hz0 hz1 hz2 rfl (by rfl) Ap np cp (bc q) (by rfl) R3.out.drew (bc_one q) (by unfold maxLen; omega) (by omega) ?_
         intro A4 c4 w4 hown4 hb4
         have hB4 : Below w3.heap.size w3 w4 := ((Below.refl _ _).drew).trans hb4
         have hB5 : Below w3.heap.size w3 (w4.alloc (.cells #[.bool s, .slice A4 np c4] 37)) := hB4.alloc hB4.size _
         have p04 := (hB4.cell (p := ⟨w.heap.size + 1, 0, none⟩) hpl3).trans p0
         have ko4 := (hB4.cell (p := ⟨g3, 1, none⟩) hg3).trans ko
         have ko5 := (hB5.cell (p := ⟨g3, 1, none⟩) hg3).trans ko
         have hs5 := hB5.size)
      | (refine step_append_row _ (by rfl) _ _ 23 (by rfl) w1.heap.size 37 j0 _ 2 32 Try.underlying23 hj hy0 hy1 hy2 rfl (by omega) B2 m d2 (pc l) (by rfl) (own_below2 O2.out hB5) ⟨w4.heap.size, 0, none⟩ 1 [.bool s, .slice A4 np c4] (by rfl) (rdS_new w4 _ _ _) (by simp [Value.oneCell']) (by unfold maxLen; omega) (by omega) (by omega) ?_
         intro Bo' co' w5 hown5 hg5
         have bx5 := box_grown (G3.out.below hB5 G3.out.lt) hg5 (own_box_ne (own_below2 O2.out hB5) (G3.out.below hB5 G3.out.lt) (by decide))
         have st0 : w5.cell? ⟨g3, 1, none⟩ = some (.slice B2 m d2) := bx5.cell 1
         have st1 : w5.frozen? ⟨g3, 1, none⟩ = false := bx5.frozen 1))
    all_goals (go_wp2_with fail; go_meet; case rel => exact HMid.out _ _ _ _ _ _ hown4 hb4 hown5 hg5)
  case rest =>
    obtain ⟨B3, d3, hown, hbx, hbr, hB⟩ := hcut
    have HO := Lib.hid hown
    have BX := Lib.hid hbx
    have BR := Lib.hid hbr
    have HBc := Lib.hid hB
    clear hown hbx hbr hB HMid p0 p1 ko O1 O2 O3 Y3 X3 R3 HB3 G3 hi hz0 hz1 hz2 hj hy0 hy1 hy2
    have k0 : wc.cell? ⟨g3, 0, none⟩ = some (.slice A2 n c2) := BX.out.cell 0
    have k1 : wc.cell? ⟨g3, 1, none⟩ = some (.slice B3 (m + 1) d3) := BX.out.cell 1
    obtain ⟨gn, hgn⟩ : ∃ gn, GIs gn b (ps ++ [(s, q)]) := ⟨decide (DM.may b (ps ++ [(s, q)])), by simp [GIs]⟩
    have HGN := Lib.hid hgn
    have hgnm : gn = true ↔ DM.may b (ps ++ [(s, q)]) := hgn
    clear hgn
    go_wp2_with fail
    refine (may_any _ b (ps ++ [(s, q)]) gn _ (Lib.hid HO.out.is) HT2 HGN).mono ?_
    rintro e w7 ⟨rfl, hb7⟩
    have BX7 := Lib.hid (BX.out.below hb7 BX.out.lt)
    have BR7 := Lib.hid (BR.out.below hb7 BR.out.lt)
    have HO7 := Lib.hid (HO.out.below hb7)
    have HB7 := Lib.hid (bmore HBc.out hb7 (Nat.le_refl _))
    have z0 : w7.cell? ⟨w.heap.size + 1 + 1, 0, none⟩ = some (.slice none 0 0) := BR7.out.cell 0
    have z1 : w7.cell? ⟨w.heap.size + 1 + 1, 1, none⟩ = some (.slice none 0 0) := BR7.out.cell 1
    have z2 : w7.frozen? ⟨w.heap.size + 1 + 1, 0, none⟩ = false := BR7.out.frozen 0
    have z3 : w7.frozen? ⟨w.heap.size + 1 + 1, 1, none⟩ = false := BR7.out.frozen 1
    have y0 : w7.cell? ⟨g3, 0, none⟩ = some (.slice A2 n c2) := BX7.out.cell 0
    have y1 : w7.cell? ⟨g3, 1, none⟩ = some (.slice B3 (m + 1) d3) := BX7.out.cell 1
    clear hb7 BX BR HO HBc k0 k1
    rcases HS.out with ⟨hno, _⟩ | ⟨_, hno, rfl, rfl, rfl⟩ | ⟨_, hyes, rfl, rfl, rfl⟩
    · exact absurd HMay.out hno
    · have hgf : gn = false := by cases gn with | true => exact absurd (hgnm.1 rfl) hno | false => rfl
      subst hgf
      have hnb : 0 = nb := HNB.out
      have hmb : 0 = mb := HMB.out
      subst hnb
      subst hmb
      clear hno hgnm
      go_wp2
      exact bodyPost_ret (v := .tuple #[.agg #[.slice none 0 0, .slice none 0 0], .int .i64 9]) (by simp [results, Try.results34, go_sem, z0, z1]) rfl ⟨_, _, _, _, rfl, DiskOwn.zero, below_put HB7.out (by omega) _ _⟩
    · have hgt : gn = true := hgnm.2 hyes
      subst hgt
      have hnb : n = nb := by rw [← HNB.out]; exact HBL.out.symm
      have hmb : m + 1 = mb := by rw [← HMB.out, List.length_append, HPL.out]; rfl
      subst hnb
      subst hmb
      clear hyes hgnm
      go_wp2
      exact bodyPost_ret (v := .tuple #[.agg #[.slice A2 n c2, .slice B3 (m + 1) d3], .int .i64 0]) (by simp [results, Try.results34, go_sem, z0, z1]) rfl ⟨_, _, _, _, rfl, (HO7.out.put (by omega) _ _).mono (by omega), below_put HB7.out (by omega) _ _⟩
end Go.Proofs.Ytkdnkaiknmcfmaa
