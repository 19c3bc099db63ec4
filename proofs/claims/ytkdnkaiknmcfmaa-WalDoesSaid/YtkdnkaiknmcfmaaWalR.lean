/-
  What the document's own Open and Reset of layer 4 answer. Conditions: the disk's slices read as bytes and writes, the others as texts; the disk's bytes are together at most 2^47.
-/
import Derived.Test.YtkdnkaiknmcfmaaWalD
import Derived.Test.YtkdnkaiknmcfmaaRefW
import Derived.Test.YtkdnkaiknmcfmaaFrameRF
import Derived.Deep.RegionHeld3
import Derived.Deep.DeepCutAuto
namespace Go.Proofs.Ytkdnkaiknmcfmaa
open Go.RowKit
set_option linter.unusedVariables false

/-- behind a write: a variable of its own holds the answer -/
def RMid (wr : World) (nb np : Nat) (b : List UInt8) (ps : List DM.Wr) (x : Int) (u9 u6 : Value) (wx : World) : Prop :=
  ∃ g A c B d, u9 = .pointer (some ⟨g, 0, none⟩) ∧ u6 = .int .i64 x ∧ wr.heap.size ≤ g ∧ Below wr.heap.size wr wx ∧ Box wx g 25 #[.slice A nb c, .slice B np d] ∧ DiskOwn wx wr.heap.size 5 37 (.agg #[.slice A nb c, .slice B np d]) b ps
theorem rm_below {wr w4 : World} {o : Obj} (hb4 : Below (wr.alloc o).drew.heap.size (wr.alloc o).drew w4) : Below wr.heap.size wr w4 :=
  (((Below.refl _ _).alloc (Nat.le_refl _) o).drew).trans (hb4.mono (by show wr.heap.size ≤ (wr.alloc o).heap.size; simp))
theorem rm_box {wr w4 : World} {t : TypeId} {cs : Array Value} (hb4 : Below (wr.alloc (.cells cs t)).drew.heap.size (wr.alloc (.cells cs t)).drew w4) : Box w4 wr.heap.size t cs :=
  ((Box.new wr t cs).drew).below hb4 (by show wr.heap.size < (wr.alloc (.cells cs t)).heap.size; simp)
theorem rmid1 {wr w4 : World} {nb np c4 d4 : Nat} {A4 B4 : Option Addr} {b : List UInt8} {ps : List DM.Wr} {x : Int} (hb4 : Below (wr.alloc (.cells #[.slice none 0 0, .slice none 0 0] 25)).drew.heap.size (wr.alloc (.cells #[.slice none 0 0, .slice none 0 0] 25)).drew w4)
    (hown : DiskOwn w4 (wr.alloc (.cells #[.slice none 0 0, .slice none 0 0] 25)).drew.heap.size 5 37 (.agg #[.slice A4 nb c4, .slice B4 np d4]) b ps) :
    RMid wr nb np b ps x (.pointer (some ⟨wr.heap.size, 0, none⟩)) (.int .i64 x) ((w4.setCell ⟨wr.heap.size, 0, none⟩ (.slice A4 nb c4)).setCell ⟨wr.heap.size, 1, none⟩ (.slice B4 np d4)) :=
  ⟨wr.heap.size, A4, c4, B4, d4, rfl, rfl, Nat.le_refl _, below_put (rm_below hb4) (Nat.le_refl _) _ _, (rm_box hb4).put _ _, (hown.put (by show wr.heap.size < (wr.alloc _).heap.size; simp) _ _).mono (by show wr.heap.size ≤ (wr.alloc _).heap.size; simp)⟩
theorem rmid2 {wr w4 : World} {nb np c4 d4 : Nat} {A4 B4 : Option Addr} {b : List UInt8} {ps : List DM.Wr} {x : Int} (hb4 : Below wr.drew.heap.size wr.drew w4)
    (hown : DiskOwn w4 wr.drew.heap.size 5 37 (.agg #[.slice A4 nb c4, .slice B4 np d4]) b ps) :
    RMid wr nb np b ps x (.pointer (some ⟨w4.heap.size, 0, none⟩)) (.int .i64 x) (w4.alloc (.cells #[.slice A4 nb c4, .slice B4 np d4] 25)) := by
  have hb : Below wr.heap.size wr w4 := ((Below.refl _ _).drew).trans hb4
  obtain ⟨h1, h2⟩ := var_step hb hown
  exact ⟨w4.heap.size, A4, c4, B4, d4, rfl, rfl, hb.size, h1, Box.new _ _ _, (show DiskOwn w4 wr.heap.size _ _ _ _ _ from hown).below ((Below.refl _ _).alloc (Nat.le_refl _) _)⟩

set_option maxRecDepth 100000 in
set_option maxHeartbeats 4000000 in
theorem refReset_any (v : Value) (L : Option Addr) (nl cl : Nat) (b b' : List UInt8) (ps ps' : List DM.Wr) (ls : List (List UInt8)) (x : Int) (n m : Nat) (w : World) (HV : Hid (DiskIs w v b ps)) (HT : Hid (DM.total b ps ≤ 140737488355328)) (HR : Hid (Rd w L nl (sc ls))) (HSm : Hid (∀ t ∈ ls, t.length ≤ 9223372036854775807)) (HNl : Hid (nl ≤ maxLen)) (HA : Hid (ResetIs b ps ls b' ps' x)) (Hn : Hid (b'.length = n)) (Hm : Hid (ps'.length = m)) :
    Calls Try.prog 19 #[v, .slice L nl cl] w (DAns w b' ps' n m x) := by
  obtain ⟨A, n1, c, B, m1, d, rfl, h1, h2, h3, h4, h5, h6⟩ := HV.out
  have hB0 : Below w.heap.size w ((w.alloc (.cells #[.slice A n1 c, .slice B m1 d] 25)).alloc (.cells #[.slice none 0 0, .slice none 0 0] 25)) := ((Below.refl _ _).alloc (Nat.le_refl _) _).alloc (by simp) _
  have X := Lib.hid (show Box ((w.alloc (.cells #[.slice A n1 c, .slice B m1 d] 25)).alloc (.cells #[.slice none 0 0, .slice none 0 0] 25)) w.heap.size 25 #[.slice A n1 c, .slice B m1 d] from (Box.new _ _ _).alloc _)
  have Y := Lib.hid (show Box ((w.alloc (.cells #[.slice A n1 c, .slice B m1 d] 25)).alloc (.cells #[.slice none 0 0, .slice none 0 0] 25)) (w.heap.size + 1) 25 #[.slice none 0 0, .slice none 0 0] from Box.new_at _ (by simp))
  have HV0 := Lib.hid (HV.out.below hB0)
  have HR0 := Lib.hid (HR.out.below hB0)
  have HB := Lib.hid hB0
  clear h2 h4 h5 h6 hB0 HV
  go_enter Try.func19, Try.ntmps19
  go_upto_region 1 with (fail)
  generalize ((w.alloc (.cells #[.slice A n1 c, .slice B m1 d] 25)).alloc (.cells #[.slice none 0 0, .slice none 0 0] 25)) = w0 at X Y HV0 HB HR0 ⊢
  have k0 : w0.cell? ⟨w.heap.size, 0, none⟩ = some (.slice A n1 c) := X.out.cell 0
  have k1 : w0.cell? ⟨w.heap.size, 1, none⟩ = some (.slice B m1 d) := X.out.cell 1
  go_wp2_with fail
  clear k0 k1
  rcases HA.out with ⟨h1, rfl, rfl, rfl⟩ | ⟨h1, h2, rfl, rfl, rfl⟩ | ⟨h1, h2, h3, rfl, rfl, rfl⟩ | ⟨h1, h2, h3, h4⟩
  · obtain rfl : 0 = n := Hn.out
    obtain rfl : 0 = m := Hm.out
    have HX := Lib.hid (show GIs false b ps by simp [GIs, h1])
    refine (may_any _ b ps false _ HV0 HT HX).mono ?_
    rintro e w1 ⟨rfl, hb1⟩
    have X1 := Lib.hid (X.out.below hb1 X.out.lt)
    have Y1 := Lib.hid (Y.out.below hb1 Y.out.lt)
    have HV1 := Lib.hid (HV0.out.below hb1)
    have HR1 := Lib.hid (HR0.out.below hb1)
    have HB1 := Lib.hid (bmore HB.out hb1 (Nat.le_refl _))
    have hYlt := Y1.out.lt
    clear h1 hb1 X Y HV0 HR0 HB HR
    have z0 : w1.cell? ⟨w.heap.size + 1, 0, none⟩ = some (.slice none 0 0) := Y1.out.cell 0
    have z1 : w1.cell? ⟨w.heap.size + 1, 1, none⟩ = some (.slice none 0 0) := Y1.out.cell 1
    have z2 : w1.frozen? ⟨w.heap.size + 1, 0, none⟩ = false := Y1.out.frozen 0
    have z3 : w1.frozen? ⟨w.heap.size + 1, 1, none⟩ = false := Y1.out.frozen 1
    go_wp2_with fail
    exact bodyPost_ret (v := .tuple #[.agg #[.slice none 0 0, .slice none 0 0], .int .i64 30]) (by simp [results, Try.results19, go_sem, z0, z1]) rfl ⟨_, _, _, _, rfl, DiskOwn.zero, below_put HB1.out (by omega) _ _⟩
  · obtain rfl : 0 = n := Hn.out
    obtain rfl : 0 = m := Hm.out
    have HX := Lib.hid (show GIs true b ps by simp [GIs, h1])
    refine (may_any _ b ps true _ HV0 HT HX).mono ?_
    rintro e w1 ⟨rfl, hb1⟩
    have X1 := Lib.hid (X.out.below hb1 X.out.lt)
    have Y1 := Lib.hid (Y.out.below hb1 Y.out.lt)
    have HV1 := Lib.hid (HV0.out.below hb1)
    have HR1 := Lib.hid (HR0.out.below hb1)
    have HB1 := Lib.hid (bmore HB.out hb1 (Nat.le_refl _))
    have hYlt := Y1.out.lt
    clear h1 hb1 X Y HV0 HR0 HB HR
    have HJ := Lib.hid (show JoinIs ls [] 0 4 from ⟨rfl, .inr (.inr ⟨h2, rfl, rfl⟩)⟩)
    go_wp2_with fail
    refine (refJoin_ans L nl cl ls [] 0 4 _ HJ.out HR1.out HSm.out HNl.out).mono ?_
    rintro e w2 ⟨A2, c2, rfl, hr2, l1, l2, hb2⟩
    have X2 := Lib.hid (X1.out.below hb2 X1.out.lt)
    have Y2 := Lib.hid (Y1.out.below hb2 Y1.out.lt)
    have HV2 := Lib.hid (HV1.out.below hb2)
    have HB2 := Lib.hid (bmore HB1.out hb2 (Nat.le_refl _))
    have HJr := Lib.hid hr2
    have HL2 := Lib.hid l2
    have hYlt2 := Y2.out.lt
    clear hr2 l2 hb2 X1 Y1 HV1 HR1 HB1
    have z0 : w2.cell? ⟨w.heap.size + 1, 0, none⟩ = some (.slice none 0 0) := Y2.out.cell 0
    have z1 : w2.cell? ⟨w.heap.size + 1, 1, none⟩ = some (.slice none 0 0) := Y2.out.cell 1
    have z2 : w2.frozen? ⟨w.heap.size + 1, 0, none⟩ = false := Y2.out.frozen 0
    have z3 : w2.frozen? ⟨w.heap.size + 1, 1, none⟩ = false := Y2.out.frozen 1
    go_wp2_with fail
    exact bodyPost_ret (v := .tuple #[.agg #[.slice none 0 0, .slice none 0 0], .int .i64 4]) (by simp [results, Try.results19, go_sem, z0, z1]) rfl ⟨_, _, _, _, rfl, DiskOwn.zero, below_put HB2.out (by omega) _ _⟩
  · obtain rfl : 0 = n := Hn.out
    obtain rfl : 0 = m := Hm.out
    have HX := Lib.hid (show GIs true b ps by simp [GIs, h1])
    refine (may_any _ b ps true _ HV0 HT HX).mono ?_
    rintro e w1 ⟨rfl, hb1⟩
    have X1 := Lib.hid (X.out.below hb1 X.out.lt)
    have Y1 := Lib.hid (Y.out.below hb1 Y.out.lt)
    have HV1 := Lib.hid (HV0.out.below hb1)
    have HR1 := Lib.hid (HR0.out.below hb1)
    have HB1 := Lib.hid (bmore HB.out hb1 (Nat.le_refl _))
    have hYlt := Y1.out.lt
    clear h1 hb1 X Y HV0 HR0 HB HR
    have HJ := Lib.hid (show JoinIs ls [] 0 3 from ⟨rfl, .inr (.inl ⟨h2, h3, rfl, rfl⟩)⟩)
    go_wp2_with fail
    refine (refJoin_ans L nl cl ls [] 0 3 _ HJ.out HR1.out HSm.out HNl.out).mono ?_
    rintro e w2 ⟨A2, c2, rfl, hr2, l1, l2, hb2⟩
    have X2 := Lib.hid (X1.out.below hb2 X1.out.lt)
    have Y2 := Lib.hid (Y1.out.below hb2 Y1.out.lt)
    have HV2 := Lib.hid (HV1.out.below hb2)
    have HB2 := Lib.hid (bmore HB1.out hb2 (Nat.le_refl _))
    have HJr := Lib.hid hr2
    have HL2 := Lib.hid l2
    have hYlt2 := Y2.out.lt
    clear hr2 l2 hb2 X1 Y1 HV1 HR1 HB1
    have z0 : w2.cell? ⟨w.heap.size + 1, 0, none⟩ = some (.slice none 0 0) := Y2.out.cell 0
    have z1 : w2.cell? ⟨w.heap.size + 1, 1, none⟩ = some (.slice none 0 0) := Y2.out.cell 1
    have z2 : w2.frozen? ⟨w.heap.size + 1, 0, none⟩ = false := Y2.out.frozen 0
    have z3 : w2.frozen? ⟨w.heap.size + 1, 1, none⟩ = false := Y2.out.frozen 1
    go_wp2_with fail
    exact bodyPost_ret (v := .tuple #[.agg #[.slice none 0 0, .slice none 0 0], .int .i64 3]) (by simp [results, Try.results19, go_sem, z0, z1]) rfl ⟨_, _, _, _, rfl, DiskOwn.zero, below_put HB2.out (by omega) _ _⟩
  · obtain ⟨nj, hnj⟩ : ∃ nj, (NM.join ls).length = nj := ⟨_, rfl⟩
    have HLen := Lib.hid h4
    have hnj2 : nj ≤ 2000000 := by have := h3.2; omega
    have HX := Lib.hid (show GIs true b ps by simp [GIs, h1])
    refine (may_any _ b ps true _ HV0 HT HX).mono ?_
    rintro e w1 ⟨rfl, hb1⟩
    have X1 := Lib.hid (X.out.below hb1 X.out.lt)
    have Y1 := Lib.hid (Y.out.below hb1 Y.out.lt)
    have HV1 := Lib.hid (HV0.out.below hb1)
    have HR1 := Lib.hid (HR0.out.below hb1)
    have HB1 := Lib.hid (bmore HB.out hb1 (Nat.le_refl _))
    have hYlt := Y1.out.lt
    clear h1 hb1 X Y HV0 HR0 HB HR
    have HJ := Lib.hid (show JoinIs ls (NM.join ls) nj 0 from ⟨hnj, .inl ⟨h2, h3, rfl, rfl⟩⟩)
    go_wp2_with fail
    refine (refJoin_ans L nl cl ls (NM.join ls) nj 0 _ HJ.out HR1.out HSm.out HNl.out).mono ?_
    rintro e w2 ⟨A2, c2, rfl, hr2, l1, l2, hb2⟩
    have X2 := Lib.hid (X1.out.below hb2 X1.out.lt)
    have Y2 := Lib.hid (Y1.out.below hb2 Y1.out.lt)
    have HV2 := Lib.hid (HV1.out.below hb2)
    have HB2 := Lib.hid (bmore HB1.out hb2 (Nat.le_refl _))
    have HJr := Lib.hid hr2
    have HL2 := Lib.hid l2
    have hYlt2 := Y2.out.lt
    clear hr2 l2 hb2 X1 Y1 HV1 HR1 HB1
    have k0 : w2.cell? ⟨w.heap.size, 0, none⟩ = some (.slice A n1 c) := X2.out.cell 0
    have k1 : w2.cell? ⟨w.heap.size, 1, none⟩ = some (.slice B m1 d) := X2.out.cell 1
    clear h4 h3 hnj
    go_wp2_with fail
    refine (refWrite_any _ true A2 nj c2 b (NM.join ls) b' ps ps' x n m _ HV2 HT HJr hnj2 HLen Hn Hm).mono ?_
    rintro e w3 ⟨A3, c3, B3, d3, rfl, hown3, hb3⟩
    have hal : Below w3.heap.size w3 (w3.alloc (.cells #[.slice A3 n c3, .slice B3 m d3] 25)) := (Below.refl _ _).alloc (Nat.le_refl _) _
    have y3 := Y2.out.below hb3 Y2.out.lt
    have Y3 := Lib.hid (y3.below hal y3.lt)
    have HB3 := Lib.hid (bmore (bmore HB2.out hb3 (Nat.le_refl _)) hal (Nat.le_refl _))
    have HO3 := Lib.hid (hown3.below hal)
    have X3 := Lib.hid (Box.new w3 25 #[.slice A3 n c3, .slice B3 m d3])
    have hw3 : w.heap.size + 1 < w3.heap.size := y3.lt
    clear hown3 hb3 k0 k1 y3 hal
    go_upto_region 7 with (fail)
    generalize w3.alloc (.cells #[.slice A3 n c3, .slice B3 m d3] 25) = w4 at Y3 HB3 HO3 X3 ⊢
    have j0 := X3.out.cell 0
    have j1 := X3.out.cell 1
    have hne : w3.heap.size ≠ w.heap.size + 1 := by omega
    have hne2 : w.heap.size + 1 ≠ w3.heap.size := by omega
    have z0 : w4.cell? ⟨w.heap.size + 1, 0, none⟩ = some (.slice none 0 0) := Y3.out.cell 0
    have z1 : w4.cell? ⟨w.heap.size + 1, 1, none⟩ = some (.slice none 0 0) := Y3.out.cell 1
    have z2 : w4.frozen? ⟨w.heap.size + 1, 0, none⟩ = false := Y3.out.frozen 0
    have z3 : w4.frozen? ⟨w.heap.size + 1, 1, none⟩ = false := Y3.out.frozen 1
    go_wp2_with fail
    exact bodyPost_ret (v := .tuple #[.agg #[.slice A3 n c3, .slice B3 m d3], .int .i64 x]) (by simp [results, Try.results19, go_sem, z0, z1]) rfl ⟨_, _, _, _, rfl, (HO3.out.put (by omega) _ _).mono (by omega), below_put HB3.out (by omega) _ _⟩

theorem refAll_s (A : Option Addr) (n c : Nat) (r : List UInt8) (ts : List (List UInt8)) (k q : Nat) (w : World) (HR : Hid (Rd w A n (bc r))) (hnc : n ≤ c) (HC : Hid (c ≤ maxLen)) (hn : n ≤ 1048576) (HK : Hid (NM.cut r = (ts, k))) (HQ : Hid (ts.length = q)) :
    Calls Try.prog 33 #[.slice A n c] w fun e w' => ∃ C g, e = .returned (.tuple #[.slice C q g, .int .i64 (k : Int)]) ∧ w'.ownsRow w.heap.size 9 1 (.slice C q g) q (sc ts) ∧ Below w.heap.size w w' := by
  refine (refAll_any A n c r w HR.out hnc HC.out hn).mono ?_
  rintro e w' ⟨hb, v, rfl, ho⟩
  rw [HK.out] at ho ⊢
  simp only at ho
  rw [HQ.out] at ho
  obtain ⟨C, g, rfl, _, _⟩ := own_slice ho
  exact ⟨C, g, rfl, ho, hb⟩

set_option maxRecDepth 100000 in
set_option maxHeartbeats 8000000 in
theorem refOpen_any (v : Value) (b b' : List UInt8) (ps ps' : List DM.Wr) (ts : List (List UInt8)) (x : Int) (n m q : Nat) (w : World) (HV : Hid (DiskIs w v b ps)) (HT : Hid (DM.total b ps ≤ 140737488355328)) (HO : Hid (OpenIs b ps b' ps' ts x)) (Hn : Hid (b'.length = n)) (Hm : Hid (ps'.length = m)) (Hq : Hid (ts.length = q)) :
    Calls Try.prog 17 #[v] w (OAns w b' ps' ts n m q x) := by
  obtain ⟨r, x0, hse⟩ := seeIs_ex b ps
  obtain ⟨⟨t0, k⟩, hcut⟩ : ∃ p, NM.cut r = p := ⟨_, rfl⟩
  obtain ⟨nr, hnr⟩ : ∃ nr, r.length = nr := ⟨_, rfl⟩
  obtain ⟨q0, hq⟩ : ∃ q, t0.length = q := ⟨_, rfl⟩
  have HS := Lib.hid hse
  have HC := Lib.hid hcut
  have HNR := Lib.hid hnr
  have HQ := Lib.hid hq
  clear hse hcut hnr hq
  obtain ⟨A, n1, c, B, m1, d, rfl, h1, h2, h3, h4, h5, h6⟩ := HV.out
  have hB0 : Below w.heap.size w ((w.alloc (.cells #[.slice A n1 c, .slice B m1 d] 25)).alloc (.cells #[.slice none 0 0, .slice none 0 0] 25)) := ((Below.refl _ _).alloc (Nat.le_refl _) _).alloc (by simp) _
  have X := Lib.hid (show Box ((w.alloc (.cells #[.slice A n1 c, .slice B m1 d] 25)).alloc (.cells #[.slice none 0 0, .slice none 0 0] 25)) w.heap.size 25 #[.slice A n1 c, .slice B m1 d] from (Box.new _ _ _).alloc _)
  have Y := Lib.hid (show Box ((w.alloc (.cells #[.slice A n1 c, .slice B m1 d] 25)).alloc (.cells #[.slice none 0 0, .slice none 0 0] 25)) (w.heap.size + 1) 25 #[.slice none 0 0, .slice none 0 0] from Box.new_at _ (by simp))
  have HV0 := Lib.hid (HV.out.below hB0)
  have HB := Lib.hid hB0
  clear h2 h4 h5 h6 hB0 HV
  go_enter Try.func17, Try.ntmps17
  go_upto_region 1 with (fail)
  generalize ((w.alloc (.cells #[.slice A n1 c, .slice B m1 d] 25)).alloc (.cells #[.slice none 0 0, .slice none 0 0] 25)) = w0 at X Y HV0 HB ⊢
  have k0 : w0.cell? ⟨w.heap.size, 0, none⟩ = some (.slice A n1 c) := X.out.cell 0
  have k1 : w0.cell? ⟨w.heap.size, 1, none⟩ = some (.slice B m1 d) := X.out.cell 1
  go_wp2_with fail
  clear k0 k1
  refine (refSee_any _ b r ps nr x0 _ HV0 HT HS HNR).mono ?_
  rintro e w1 ⟨A1, c1, rfl, hr1, hb1⟩
  have X1 := Lib.hid (X.out.below hb1 X.out.lt)
  have Y1 := Lib.hid (Y.out.below hb1 Y.out.lt)
  have HV1 := Lib.hid (HV0.out.below hb1)
  have HB1 := Lib.hid (bmore HB.out hb1 (Nat.le_refl _))
  obtain ⟨l1, l2⟩ := own_le hr1
  have HSeen := Lib.hid (Rd.of_own hr1)
  have HL2 := Lib.hid l2
  have hl2 : c1 ≤ 9223372036854775807 := by unfold maxLen at l2; omega
  clear hr1 l2 hb1 X Y HV0 HB
  have hYlt := Y1.out.lt
  rcases HO.out with ⟨h1, rfl, rfl, rfl, rfl⟩ | ⟨h1, h4, hbb, hpp, hts, rfl⟩ | ⟨h1, h4, h5, h6⟩
  · obtain rfl : 0 = n := Hn.out
    obtain rfl : 0 = m := Hm.out
    obtain rfl : 0 = q := Hq.out
    obtain rfl : x0 = 30 := by
      rcases HS.out with ⟨h, _⟩ | ⟨_, _, h⟩
      · exact absurd h h1
      · exact h
    clear h1
    have z0 : w1.cell? ⟨w.heap.size + 1, 0, none⟩ = some (.slice none 0 0) := Y1.out.cell 0
    have z1 : w1.cell? ⟨w.heap.size + 1, 1, none⟩ = some (.slice none 0 0) := Y1.out.cell 1
    have z2 : w1.frozen? ⟨w.heap.size + 1, 0, none⟩ = false := Y1.out.frozen 0
    have z3 : w1.frozen? ⟨w.heap.size + 1, 1, none⟩ = false := Y1.out.frozen 1
    go_wp2_with fail
    exact bodyPost_ret (v := .tuple #[.agg #[.slice none 0 0, .slice none 0 0], .slice none 0 0, .int .i64 30]) (by simp [results, Try.results17, go_sem, z0, z1]) rfl ⟨_, _, _, _, _, _, rfl, DiskOwn.zero, Rd.nil, Nat.le_refl _, Nat.zero_le _, below_put HB1.out (by omega) _ _⟩
  all_goals
    obtain ⟨hr, rfl⟩ : r = DM.behind b ps ∧ x0 = 0 := by
      rcases HS.out with ⟨_, h, h'⟩ | ⟨h, _⟩
      · exact ⟨h, h'⟩
      · exact absurd h1 h
    have HM := Lib.hid h1
    have hnr20 : nr ≤ 1048576 := by rw [← HNR.out, hr]; exact DM.fits_all h1.2
    rw [← hr, HC.out, HNR.out] at h4
    have hps0 := h1.1
    go_wp2_with fail
    refine (refAll_s A1 nr c1 r t0 k q0 _ HSeen l1 HL2 hnr20 HC HQ).mono ?_
    rintro e w2 ⟨C2, g2, rfl, ho2, hb2⟩
    have X2 := Lib.hid (X1.out.below hb2 X1.out.lt)
    have Y2 := Lib.hid (Y1.out.below hb2 Y1.out.lt)
    have HV2 := Lib.hid (HV1.out.below hb2)
    have HB2 := Lib.hid (bmore HB1.out hb2 (Nat.le_refl _))
    have HT2 := Lib.hid (own_mono ho2 (base' := w.heap.size + 1 + 1) (by omega))
    have HSeen2 := Lib.hid (HSeen.out.below hb2)
    have hYlt2 := Y2.out.lt
    clear ho2 hb2 X1 Y1 HV1 HB1 hYlt HSeen
  · obtain rfl : b = b' := hbb.symm
    obtain rfl : ps = ps' := hpp.symm
    obtain rfl : k = nr := h4
    obtain rfl : t0 = ts := by rw [hts, ← hr, HC.out]
    obtain rfl : q0 = q := by rw [← HQ.out, Hq.out]
    have k0 : w2.cell? ⟨w.heap.size, 0, none⟩ = some (.slice A n1 c) := X2.out.cell 0
    have k1 : w2.cell? ⟨w.heap.size, 1, none⟩ = some (.slice B m1 d) := X2.out.cell 1
    have htw := twin_any _ b ps w2 HV2 HT (by omega)
    rw [Hn.out, Hm.out] at htw
    have HTw := Lib.hid htw
    clear hr h1 hts hbb hpp htw
    go_wp2_with fail
    refine HTw.out.mono ?_
    rintro e w3 ⟨A3, c3, B3, d3, rfl, hown3, hb3⟩
    have Y3 := Lib.hid (Y2.out.below hb3 Y2.out.lt)
    have HB3 := Lib.hid (bmore HB2.out hb3 (Nat.le_refl _))
    have HO3 := Lib.hid (hown3.mono (base' := w.heap.size + 1 + 1) (by omega))
    have HT3 := Lib.hid (own_below2 HT2.out hb3)
    clear hown3 hb3 k0 k1 HTw
    have z0 : w3.cell? ⟨w.heap.size + 1, 0, none⟩ = some (.slice none 0 0) := Y3.out.cell 0
    have z1 : w3.cell? ⟨w.heap.size + 1, 1, none⟩ = some (.slice none 0 0) := Y3.out.cell 1
    have z2 : w3.frozen? ⟨w.heap.size + 1, 0, none⟩ = false := Y3.out.frozen 0
    have z3 : w3.frozen? ⟨w.heap.size + 1, 1, none⟩ = false := Y3.out.frozen 1
    go_wp2_with fail
    exact bodyPost_ret (v := .tuple #[.agg #[.slice A3 n c3, .slice B3 m d3], .slice C2 q0 g2, .int .i64 0]) (by simp [results, Try.results17, go_sem, z0, z1]) rfl (oAns_of HO3.out HT3.out (Nat.le_refl _) HB3.out)
  · have hne1 : ((k : Int) == (nr : Int)) = false := by simp; omega
    have hne2 : decide ((k : Int) = (nr : Int)) = false := by simp; omega
    have ht : (NM.cut (DM.behind b ps)).1 = t0 := by rw [← hr, HC.out]
    have hk2 : (NM.cut (DM.behind b ps)).2 = k := by rw [← hr, HC.out]
    rw [hk2, ← hr] at h5
    rw [ht] at h6
    have hkr : k ≤ nr := by
      have := (NM.join_cut (r.length + 1) r).2.1
      have e : (NM.cutF (r.length + 1) r).2 = k := by show (NM.cut r).2 = k; rw [HC.out]
      rw [e, HNR.out] at this; exact this
    have HL := Lib.hid h5
    have H6 := Lib.hid h6
    have HSk := Lib.hid (show Rd w2 A1 k (bc (r.take k)) by rw [← bc_take]; exact HSeen2.out.front hkr)
    have k0 : w2.cell? ⟨w.heap.size, 0, none⟩ = some (.slice A n1 c) := X2.out.cell 0
    have k1 : w2.cell? ⟨w.heap.size, 1, none⟩ = some (.slice B m1 d) := X2.out.cell 1
    have i0 : (0 : Int) ≤ (k : Int) := by omega
    have i1 : (k : Int) ≤ (c1 : Int) := by omega
    have i2 : k ≤ c1 := by omega
    have happ : ∀ W, Below w2.heap.size w2 W → Calls Try.prog 34 #[.agg #[.slice A n1 c, .slice B m1 d], .agg #[.bool true, .slice A1 k c1]] W (DAns W b' ps' n m x) := fun W hW => refWrite_any _ true A1 k c1 b (r.take k) b' ps ps' x n m W (Lib.hid (HV2.out.below hW)) HT (Lib.hid (HSk.out.below hW)) (by omega) HL Hn Hm
    have HApp := Lib.hid happ
    have hwl : w.heap.size < w2.heap.size := by omega
    clear hr h1 h5 h6 ht hk2 happ
    have ne1 : w.heap.size ≠ w2.heap.size := by omega
    have ne2 : w2.heap.size ≠ w.heap.size := by omega
    go_upto_region 7 with (fail)
    go_cut [9, 6] (fun u9 u6 wx => RMid w2 n m b' ps' x u9 u6 wx)
    case first =>
      go_region_held3 (fun w' => w'.cell? ⟨w.heap.size, 0, none⟩ = some (.slice A n1 c) ∧ w'.cell? ⟨w.heap.size, 1, none⟩ = some (.slice B m1 d))
        (first | exact ⟨a1, a2⟩ | exact ⟨e1, e2⟩ | go_keep)
        (first
          | (go_at_call 34; refine (HApp.out _ (Below.refl _ _).drew).mono ?_; rintro e w4 ⟨A4, c4, B4, d4, rfl, hown4, hb4⟩; have a1 : w4.cell? ⟨w.heap.size, 0, none⟩ = some (.slice A n1 c) := (hb4.cell (p := ⟨w.heap.size, 0, none⟩) hwl).trans k0; have a2 : w4.cell? ⟨w.heap.size, 1, none⟩ = some (.slice B m1 d) := (hb4.cell (p := ⟨w.heap.size, 1, none⟩) hwl).trans k1; have hw4 : w2.heap.size ≤ w4.heap.size := hb4.size; have ne3 : w.heap.size ≠ w4.heap.size := (by omega); have ne4 : w4.heap.size ≠ w.heap.size := (by omega); have mid := rmid2 (x := x) hb4 hown4)
          | (go_at_call 34; refine (HApp.out _ ((Below.refl _ _).alloc (Nat.le_refl _) _).drew).mono ?_; rintro e w4 ⟨A4, c4, B4, d4, rfl, hown4, hb4⟩; have bx := rm_box hb4; have bb := rm_below hb4; have e1 : w4.cell? ⟨w.heap.size, 0, none⟩ = some (.slice A n1 c) := (bb.cell (p := ⟨w.heap.size, 0, none⟩) hwl).trans k0; have e2 : w4.cell? ⟨w.heap.size, 1, none⟩ = some (.slice B m1 d) := (bb.cell (p := ⟨w.heap.size, 1, none⟩) hwl).trans k1; have z0 : w4.cell? ⟨w2.heap.size, 0, none⟩ = some (.slice none 0 0) := bx.cell 0; have z1 : w4.cell? ⟨w2.heap.size, 1, none⟩ = some (.slice none 0 0) := bx.cell 1; have z2 : w4.frozen? ⟨w2.heap.size, 0, none⟩ = false := bx.frozen 0; have z3 : w4.frozen? ⟨w2.heap.size, 1, none⟩ = false := bx.frozen 1; have mid := rmid1 (x := x) hb4 hown4))
      all_goals (go_wp2_with fail; go_meet; case rel => exact mid)
    case rest =>
      obtain ⟨g9, A4, c4, B4, d4, rfl, rfl, hg9, hB, hX, hO⟩ := hcut
      have HB4 := Lib.hid (bmore HB2.out hB (Nat.le_refl _))
      have Y4 := Lib.hid (Y2.out.below hB Y2.out.lt)
      have HT4 := Lib.hid (own_below2 HT2.out hB)
      have HO4 := Lib.hid (hO.mono (base' := w.heap.size + 1 + 1) (by omega))
      have j0 : wc.cell? ⟨g9, 0, none⟩ = some (.slice A4 n c4) := hX.cell 0
      have j1 : wc.cell? ⟨g9, 1, none⟩ = some (.slice B4 m d4) := hX.cell 1
      clear k0 k1 hB hX hO HApp HV2 HB2 Y2 X2 HT2
      rcases H6.out with ⟨rfl, rfl⟩ | ⟨rfl, rfl⟩
      · obtain rfl : q0 = q := by rw [← HQ.out, Hq.out]
        have z0 : wc.cell? ⟨w.heap.size + 1, 0, none⟩ = some (.slice none 0 0) := Y4.out.cell 0
        have z1 : wc.cell? ⟨w.heap.size + 1, 1, none⟩ = some (.slice none 0 0) := Y4.out.cell 1
        have z2 : wc.frozen? ⟨w.heap.size + 1, 0, none⟩ = false := Y4.out.frozen 0
        have z3 : wc.frozen? ⟨w.heap.size + 1, 1, none⟩ = false := Y4.out.frozen 1
        go_wp2_with fail
        exact bodyPost_ret (v := .tuple #[.agg #[.slice A4 n c4, .slice B4 m d4], .slice C2 q0 g2, .int .i64 0]) (by simp [results, Try.results17, go_sem, z0, z1]) rfl (oAns_of HO4.out HT4.out (Nat.le_refl _) HB4.out)
      · obtain rfl : 0 = q := Hq.out
        obtain ⟨rfl, rfl⟩ : b' = [] ∧ ps' = [] := by
          rcases HL.out with ⟨_, h, h', _⟩ | ⟨_, _, h, h', _⟩ | ⟨_, _, _, _, h⟩
          · exact ⟨h, h'⟩
          · exact ⟨h, h'⟩
          · cases h
        obtain rfl : 0 = n := Hn.out
        obtain rfl : 0 = m := Hm.out
        have z0 : wc.cell? ⟨w.heap.size + 1, 0, none⟩ = some (.slice none 0 0) := Y4.out.cell 0
        have z1 : wc.cell? ⟨w.heap.size + 1, 1, none⟩ = some (.slice none 0 0) := Y4.out.cell 1
        have z2 : wc.frozen? ⟨w.heap.size + 1, 0, none⟩ = false := Y4.out.frozen 0
        have z3 : wc.frozen? ⟨w.heap.size + 1, 1, none⟩ = false := Y4.out.frozen 1
        go_wp2_with fail
        exact bodyPost_ret (v := .tuple #[.agg #[.slice none 0 0, .slice none 0 0], .slice none 0 0, .int .i64 9]) (by simp [results, Try.results17, go_sem, z0, z1]) rfl ⟨_, _, _, _, _, _, rfl, DiskOwn.zero, Rd.nil, Nat.le_refl _, Nat.zero_le _, below_put HB4.out (by omega) _ _⟩
end Go.Proofs.Ytkdnkaiknmcfmaa
