/-
  What the inner function 'appendAll' of package wal, and wal.Add, answer. Conditions: the disk's slices read as bytes and writes, the others as rows of bytes, as texts.
-/
import Derived.Test.YtkdnkaiknmcfmaaWalB
namespace Go.Proofs.Ytkdnkaiknmcfmaa
open Go.RowKit
set_option linter.unusedVariables false

/-- appends of bytes, one write each -/
def pf (fs : List (List UInt8)) : List DM.Wr := fs.map fun f => (false, f)
theorem pf_length (fs : List (List UInt8)) : (pf fs).length = fs.length := by simp [pf]
theorem pf_take (fs : List (List UInt8)) (k : Nat) (f : List UInt8) (h : fs[k]? = some f) : pf (fs.take (k + 1)) = pf (fs.take k) ++ [(false, f)] := by
  obtain ⟨hlt, he⟩ := List.getElem?_eq_some_iff.1 h
  rw [List.take_succ_eq_append_getElem hlt, he]; simp [pf]
theorem may_pf_take {b : List UInt8} {ps : List DM.Wr} {fs : List (List UInt8)} (h : DM.may b (ps ++ pf fs)) (k : Nat) : DM.may b (ps ++ pf (fs.take k)) := by
  have := DM.may_take h (ps.length + k)
  rw [List.take_length_add_append] at this
  unfold pf at this ⊢
  rw [← List.map_take] at this
  exact this
/-- what appending all comes to -/
def AllIs (b : List UInt8) (ps : List DM.Wr) (fs : List (List UInt8)) (b' : List UInt8) (ps' : List DM.Wr) (x : Int) : Prop :=
  (DM.may b (ps ++ pf fs) ∧ b' = b ∧ ps' = ps ++ pf fs ∧ x = 0) ∨ (¬ DM.may b (ps ++ pf fs) ∧ b' = [] ∧ ps' = [] ∧ x = 9)
theorem allIs_ex (b : List UInt8) (ps : List DM.Wr) (fs : List (List UInt8)) : ∃ b' ps' x, AllIs b ps fs b' ps' x := by
  by_cases h : DM.may b (ps ++ pf fs)
  · exact ⟨_, _, _, .inl ⟨h, rfl, rfl, rfl⟩⟩
  · exact ⟨_, _, _, .inr ⟨h, rfl, rfl, rfl⟩⟩
/-- the loop's word: of the rows the first k wait behind ps in the variable d -/
def AppRel (w : World) (b : List UInt8) (ps : List DM.Wr) (fs : List (List UInt8)) (n m k : Nat) (wr : World) : Prop :=
  Below w.heap.size w wr ∧ Box wr (w.heap.size + 1) 25 #[.slice none 0 0, .slice none 0 0] ∧ DM.may b (ps ++ pf (fs.take k)) ∧ ∃ A c B d, Box wr w.heap.size 25 #[.slice A n c, .slice B (m + k) d] ∧
    DiskOwn wr (w.heap.size + 1 + 1) 5 37 (.agg #[.slice A n c, .slice B (m + k) d]) b (ps ++ pf (fs.take k))
/-- the variable d (block w.heap.size) is given a disk in memory of its own -/
theorem var_put {w wr w1 : World} {b : List UInt8} {ps : List DM.Wr} {A B A1 B1 : Option Addr} {n c m d n1 c1 m1 d1 base : Nat} (h1 : Below w.heap.size w wr) (h2 : Box wr (w.heap.size + 1) 25 #[.slice none 0 0, .slice none 0 0]) (h3 : Box wr w.heap.size 25 #[.slice A n c, .slice B m d])
    (hb : Below wr.heap.size wr w1) (ho : DiskOwn w1 base 5 37 (.agg #[.slice A1 n1 c1, .slice B1 m1 d1]) b ps) (hbase : w.heap.size + 1 + 1 ≤ base) :
    Below w.heap.size w ((w1.setCell ⟨w.heap.size, 0, none⟩ (.slice A1 n1 c1)).setCell ⟨w.heap.size, 1, none⟩ (.slice B1 m1 d1)) ∧ Box ((w1.setCell ⟨w.heap.size, 0, none⟩ (.slice A1 n1 c1)).setCell ⟨w.heap.size, 1, none⟩ (.slice B1 m1 d1)) (w.heap.size + 1) 25 #[.slice none 0 0, .slice none 0 0] ∧
    Box ((w1.setCell ⟨w.heap.size, 0, none⟩ (.slice A1 n1 c1)).setCell ⟨w.heap.size, 1, none⟩ (.slice B1 m1 d1)) w.heap.size 25 #[.slice A1 n1 c1, .slice B1 m1 d1] ∧
    DiskOwn ((w1.setCell ⟨w.heap.size, 0, none⟩ (.slice A1 n1 c1)).setCell ⟨w.heap.size, 1, none⟩ (.slice B1 m1 d1)) (w.heap.size + 1 + 1) 5 37 (.agg #[.slice A1 n1 c1, .slice B1 m1 d1]) b ps :=
  ⟨below_put (bmore h1 hb (Nat.le_refl _)) (Nat.le_refl _) _ _, (h2.below hb h2.lt).putFar (by omega) _ _, (h3.below hb h3.lt).put _ _, (ho.mono hbase).put (by omega) _ _⟩

set_option maxRecDepth 100000 in
set_option maxHeartbeats 4000000 in
theorem appendAll_any (v : Value) (F : Option Addr) (nf cf : Nat) (b b' : List UInt8) (ps ps' : List DM.Wr) (fs : List (List UInt8)) (x : Int) (n m : Nat) (w : World) (HV : Hid (DiskIs w v b ps)) (HM : Hid (DM.may b ps)) (HF : Hid (RowsIs w F nf fs)) (hnf : nf ≤ 1024) (HA : Hid (AllIs b ps fs b' ps' x)) (Hn : Hid (b'.length = n)) (Hm : Hid (ps'.length = m)) :
    Calls Try.prog 25 #[v, .slice F nf cf] w (DAns w b' ps' n m x) := by
  obtain ⟨A, n1, c, B, m1, d, rfl, h1, h2, h3, h4, h5, h6⟩ := HV.out
  have hB0 : Below w.heap.size w ((w.alloc (.cells #[.slice A n1 c, .slice B m1 d] 25)).alloc (.cells #[.slice none 0 0, .slice none 0 0] 25)) := ((Below.refl _ _).alloc (Nat.le_refl _) _).alloc (by simp) _
  have X := Lib.hid (show Box ((w.alloc (.cells #[.slice A n1 c, .slice B m1 d] 25)).alloc (.cells #[.slice none 0 0, .slice none 0 0] 25)) w.heap.size 25 #[.slice A n1 c, .slice B m1 d] from (Box.new _ _ _).alloc _)
  have Y := Lib.hid (show Box ((w.alloc (.cells #[.slice A n1 c, .slice B m1 d] 25)).alloc (.cells #[.slice none 0 0, .slice none 0 0] 25)) (w.heap.size + 1) 25 #[.slice none 0 0, .slice none 0 0] from Box.new_at _ (by simp))
  have HV0 := Lib.hid (HV.out.below hB0)
  have HBL := Lib.hid (show b.length = n1 by have := h5.1; rwa [bc_length] at this)
  have HPL := Lib.hid h6.1
  have HB := Lib.hid hB0
  clear h2 h4 h5 h6 hB0 HV
  go_enter Try.func25, Try.ntmps25
  go_upto_region 1 with (fail)
  generalize ((w.alloc (.cells #[.slice A n1 c, .slice B m1 d] 25)).alloc (.cells #[.slice none 0 0, .slice none 0 0] 25)) = w0 at X Y HV0 HB ⊢
  have k0 : w0.cell? ⟨w.heap.size, 0, none⟩ = some (.slice A n1 c) := X.out.cell 0
  have k1 : w0.cell? ⟨w.heap.size, 1, none⟩ = some (.slice B m1 d) := X.out.cell 1
  go_wp2_with fail
  clear k0 k1
  refine (walClone_any _ b ps n1 m1 _ HV0 HM HBL HPL).mono ?_
  rintro e w1 ⟨A1, c1, B1, d1, rfl, hown1, hb1⟩
  have hx1 := X.out.below hb1 X.out.lt
  have hbase : w.heap.size + 1 + 1 ≤ w0.heap.size := by have := Y.out.lt; omega
  obtain ⟨j1, j2, j3, j4⟩ := var_put HB.out Y.out X.out hb1 hown1 hbase
  have hstart : AppRel w b ps fs n1 m1 0 ((w1.setCell ⟨w.heap.size, 0, none⟩ (.slice A1 n1 c1)).setCell ⟨w.heap.size, 1, none⟩ (.slice B1 m1 d1)) := by
    have e0 : ps ++ pf (fs.take 0) = ps := by simp [pf]
    refine ⟨j1, j2, by rw [e0]; exact HM.out, A1, c1, B1, d1, j3, by rw [e0]; exact j4⟩
  have HS := Lib.hid hstart
  have k0 : w1.cell? ⟨w.heap.size, 0, none⟩ = some (.slice A n1 c) := hx1.cell 0
  have k1 : w1.cell? ⟨w.heap.size, 1, none⟩ = some (.slice B m1 d) := hx1.cell 1
  have f0 : w1.frozen? ⟨w.heap.size, 0, none⟩ = false := hx1.frozen 0
  have f1 : w1.frozen? ⟨w.heap.size, 1, none⟩ = false := hx1.frozen 1
  clear hstart j1 j2 j3 j4 hx1 hown1 hb1 X Y HB hbase HV0
  go_upto_region 2 with (fail)
  generalize (w1.setCell ⟨w.heap.size, 0, none⟩ (.slice A1 n1 c1)).setCell ⟨w.heap.size, 1, none⟩ (.slice B1 m1 d1) = w2 at HS ⊢
  clear k0 k1 f0 f1
  go_wp2_with fail
  go_loopw [13] (fun i wr => ∃ k : Nat, k ≤ nf ∧ i = .int .i64 k ∧ AppRel w b ps fs n1 m1 k wr) (fun i _ => nf - (intOf i).toNat)
  case atStart => exact ⟨0, by omega, rfl, HS.out⟩
  case round =>
    clear HS
    obtain ⟨k, hk, rfl, hB, hY, hmay, A2, c2, B2, d2, hX, hO⟩ := hrel
    have k0 : wr.cell? ⟨w.heap.size, 0, none⟩ = some (.slice A2 n1 c2) := hX.cell 0
    have k1 : wr.cell? ⟨w.heap.size, 1, none⟩ = some (.slice B2 (m1 + k) d2) := hX.cell 1
    have hlt2 := hY.lt
    have HB := Lib.hid hB
    have Y := Lib.hid hY
    have X := Lib.hid hX
    have HO := Lib.hid hO
    by_cases hlt : k < nf
    · obtain ⟨ad, Ai, ci, f, rfl, hf, hcell, g1, g2, g3⟩ := (HF.out.below hB).at_ hlt
      obtain ⟨y, hy⟩ : ∃ y, f.length = y := ⟨_, rfl⟩
      rw [hy] at hcell g1 g3
      have HQ := Lib.hid g3
      have HG2 := Lib.hid g2
      have HFk := Lib.hid hf
      have hpl : (ps ++ pf (fs.take k)).length = m1 + k := by
        obtain ⟨hkl, _⟩ := List.getElem?_eq_some_iff.1 hf
        rw [List.length_append, HPL.out, pf_length, List.length_take]; omega
      have HPk := Lib.hid hpl
      clear hB hY hX hO hf g2 g3 hy hpl
      by_cases hmay2 : DM.may b (ps ++ pf (fs.take (k + 1)))
      · have hL : LenIs b (ps ++ pf (fs.take k)) (false, f) b (ps ++ pf (fs.take (k + 1))) 0 := by
          rw [pf_take _ _ _ HFk.out, ← List.append_assoc] at hmay2 ⊢
          exact .inr (.inr ⟨hmay, hmay2, rfl, rfl, rfl⟩)
        have hl2 : (ps ++ pf (fs.take (k + 1))).length = m1 + (k + 1) := by
          rw [pf_take _ _ _ HFk.out, ← List.append_assoc, List.length_append, HPk.out]; rfl
        have HL := Lib.hid hL
        have HL2 := Lib.hid hl2
        have HM2 := Lib.hid hmay2
        clear hL hl2 hmay2 hmay
        go_wp2_with fail
        refine (append_s _ Ai y ci b f b _ _ 0 n1 (m1 + (k + 1)) _ (Lib.hid HO.out.is) HQ g1 HG2 HL HBL HL2).mono ?_
        rintro e w3 ⟨A3, c3, B3, d3, rfl, hown3, hb3⟩
        have hx3 := X.out.below hb3 X.out.lt
        obtain ⟨j1, j2, j3, j4⟩ := var_put HB.out Y.out X.out hb3 hown3 (by omega)
        have hnext : AppRel w b ps fs n1 m1 (k + 1) ((w3.setCell ⟨w.heap.size, 0, none⟩ (.slice A3 n1 c3)).setCell ⟨w.heap.size, 1, none⟩ (.slice B3 (m1 + (k + 1)) d3)) := ⟨j1, j2, HM2.out, A3, c3, B3, d3, j3, j4⟩
        have HN := Lib.hid hnext
        clear k0 k1 hnext j1 j2 j3 j4 hown3 hb3
        have k0 : w3.cell? ⟨w.heap.size, 0, none⟩ = some (.slice A2 n1 c2) := hx3.cell 0
        have k1 : w3.cell? ⟨w.heap.size, 1, none⟩ = some (.slice B2 (m1 + k) d2) := hx3.cell 1
        have f0 : w3.frozen? ⟨w.heap.size, 0, none⟩ = false := hx3.frozen 0
        have f1 : w3.frozen? ⟨w.heap.size, 1, none⟩ = false := hx3.frozen 1
        clear hx3
        go_wp2_with fail
        go_roundw
        case rel => exact ⟨k + 1, by omega, by go_num, HN.out⟩
        case measure => simp [intOf]; omega
      · have hL : LenIs b (ps ++ pf (fs.take k)) (false, f) [] [] 9 := by
          rw [pf_take _ _ _ HFk.out, ← List.append_assoc] at hmay2
          exact .inr (.inl ⟨hmay, hmay2, rfl, rfl, rfl⟩)
        have HL := Lib.hid hL
        have hno : ¬ DM.may b (ps ++ pf fs) := fun h => hmay2 (may_pf_take h (k + 1))
        obtain ⟨rfl, rfl, rfl⟩ : b' = [] ∧ ps' = [] ∧ x = 9 := by
          rcases HA.out with ⟨h, _⟩ | ⟨_, h⟩
          · exact absurd h hno
          · exact h
        obtain rfl : 0 = n := Hn.out
        obtain rfl : 0 = m := Hm.out
        clear hL hmay2 hmay hno
        go_wp2_with fail
        refine (append_s _ Ai y ci b f [] _ [] 9 0 0 _ (Lib.hid HO.out.is) HQ g1 HG2 HL (Lib.hid rfl) (Lib.hid rfl)).mono ?_
        rintro e w3 ⟨A3, c3, B3, d3, rfl, hown3, hb3⟩
        have hx3 := X.out.below hb3 X.out.lt
        obtain ⟨j1, j2, j3, j4⟩ := var_put HB.out Y.out X.out hb3 hown3 (by omega)
        have Y3 := Lib.hid j2
        have HB3 := Lib.hid j1
        clear k0 k1 j1 j2 j3 j4 hown3 hb3
        have k0 : w3.cell? ⟨w.heap.size, 0, none⟩ = some (.slice A2 n1 c2) := hx3.cell 0
        have k1 : w3.cell? ⟨w.heap.size, 1, none⟩ = some (.slice B2 (m1 + k) d2) := hx3.cell 1
        have f0 : w3.frozen? ⟨w.heap.size, 0, none⟩ = false := hx3.frozen 0
        have f1 : w3.frozen? ⟨w.heap.size, 1, none⟩ = false := hx3.frozen 1
        clear hx3
        go_upto_region 7 with (fail)
        generalize (w3.setCell ⟨w.heap.size, 0, none⟩ (.slice A3 0 c3)).setCell ⟨w.heap.size, 1, none⟩ (.slice B3 0 d3) = w4 at Y3 HB3 ⊢
        clear k0 k1 f0 f1
        have z0 : w4.cell? ⟨w.heap.size + 1, 0, none⟩ = some (.slice none 0 0) := Y3.out.cell 0
        have z1 : w4.cell? ⟨w.heap.size + 1, 1, none⟩ = some (.slice none 0 0) := Y3.out.cell 1
        have z2 : w4.frozen? ⟨w.heap.size + 1, 0, none⟩ = false := Y3.out.frozen 0
        have z3 : w4.frozen? ⟨w.heap.size + 1, 1, none⟩ = false := Y3.out.frozen 1
        go_wp2_with fail
        exact bodyPost_ret (v := .tuple #[.agg #[.slice none 0 0, .slice none 0 0], .int .i64 9]) (by simp [results, Try.results25, go_sem, z0, z1]) rfl ⟨_, _, _, _, rfl, DiskOwn.zero, below_put HB3.out (by omega) _ _⟩
    · obtain rfl : nf = k := by omega
      have e0 : fs.take nf = fs := List.take_of_length_le (by have := HF.out.1; omega)
      rw [e0] at hmay hO
      obtain ⟨rfl, rfl, rfl⟩ : b' = b ∧ ps' = ps ++ pf fs ∧ x = 0 := by
        rcases HA.out with ⟨_, h⟩ | ⟨h, _⟩
        · exact h
        · exact absurd hmay h
      obtain rfl : n1 = n := by rw [← Hn.out, HBL.out]
      obtain rfl : m1 + nf = m := by rw [← Hm.out, List.length_append, HPL.out, pf_length, HF.out.1]
      have HO2 := Lib.hid hO
      clear hB hY hX hO hmay e0 HO
      have z0 : wr.cell? ⟨w.heap.size + 1, 0, none⟩ = some (.slice none 0 0) := Y.out.cell 0
      have z1 : wr.cell? ⟨w.heap.size + 1, 1, none⟩ = some (.slice none 0 0) := Y.out.cell 1
      have z2 : wr.frozen? ⟨w.heap.size + 1, 0, none⟩ = false := Y.out.frozen 0
      have z3 : wr.frozen? ⟨w.heap.size + 1, 1, none⟩ = false := Y.out.frozen 1
      go_wp2_with fail
      exact bodyPost_ret (v := .tuple #[.agg #[.slice A2 n1 c2, .slice B2 (m1 + nf) d2], .int .i64 0]) (by simp [results, Try.results25, go_sem, z0, z1]) rfl ⟨_, _, _, _, rfl, (HO2.out.put (by omega) _ _).mono (by omega), below_put HB.out (by omega) _ _⟩

/-- what adding records comes to -/
def AddIs (b : List UInt8) (ps : List DM.Wr) (ls : List (List UInt8)) (b' : List UInt8) (ps' : List DM.Wr) (x : Int) : Prop :=
  (¬ DM.may b ps ∧ b' = [] ∧ ps' = [] ∧ x = 30) ∨ (DM.may b ps ∧ 1024 < ls.length ∧ b' = [] ∧ ps' = [] ∧ x = 4) ∨ (DM.may b ps ∧ ls.length ≤ 1024 ∧ ¬ short ls ∧ b' = [] ∧ ps' = [] ∧ x = 3) ∨
  (DM.may b ps ∧ ls.length ≤ 1024 ∧ short ls ∧ (NM.cut (DM.behind b ps)).2 ≠ (DM.behind b ps).length ∧ b' = [] ∧ ps' = [] ∧ x = 8) ∨
  (DM.may b ps ∧ ls.length ≤ 1024 ∧ short ls ∧ (NM.cut (DM.behind b ps)).2 = (DM.behind b ps).length ∧ AllIs b ps (ls.map NM.text) b' ps' x)
theorem addIs_ex (b : List UInt8) (ps : List DM.Wr) (ls : List (List UInt8)) : ∃ b' ps' x, AddIs b ps ls b' ps' x := by
  by_cases h1 : DM.may b ps
  · by_cases h2 : ls.length ≤ 1024
    · by_cases h3 : short ls
      · by_cases h4 : (NM.cut (DM.behind b ps)).2 = (DM.behind b ps).length
        · obtain ⟨b', ps', x, h⟩ := allIs_ex b ps (ls.map NM.text)
          exact ⟨b', ps', x, .inr (.inr (.inr (.inr ⟨h1, h2, h3, h4, h⟩)))⟩
        · exact ⟨_, _, _, .inr (.inr (.inr (.inl ⟨h1, h2, h3, h4, rfl, rfl, rfl⟩)))⟩
      · exact ⟨_, _, _, .inr (.inr (.inl ⟨h1, h2, h3, rfl, rfl, rfl⟩))⟩
    · exact ⟨_, _, _, .inr (.inl ⟨h1, by omega, rfl, rfl, rfl⟩)⟩
  · exact ⟨_, _, _, .inl ⟨h1, rfl, rfl, rfl⟩⟩

set_option maxRecDepth 100000 in
set_option maxHeartbeats 4000000 in
theorem add_any (v : Value) (L : Option Addr) (nl cl : Nat) (b b' : List UInt8) (ps ps' : List DM.Wr) (ls : List (List UInt8)) (x : Int) (n m : Nat) (w : World) (HV : Hid (DiskIs w v b ps)) (HR : Hid (Rd w L nl (sc ls))) (HSm : Hid (∀ t ∈ ls, t.length ≤ 9223372036854775807)) (hnl : nl ≤ 9223372036854775807) (HA : Hid (AddIs b ps ls b' ps' x)) (Hn : Hid (b'.length = n)) (Hm : Hid (ps'.length = m)) :
    Calls Try.prog 7 #[v, .slice L nl cl] w (DAns w b' ps' n m x) := by
  have hll : ls.length = nl := by have := HR.out.1; rwa [sc_length] at this
  obtain ⟨r, ts, k, x0, hRd⟩ := readIs_ex b ps
  obtain ⟨nr, hnr⟩ : ∃ nr, r.length = nr := ⟨_, rfl⟩
  obtain ⟨q, hq⟩ : ∃ q, ts.length = q := ⟨_, rfl⟩
  have HRd := Lib.hid hRd
  have HNR := Lib.hid hnr
  have HQ := Lib.hid hq
  have HLL := Lib.hid hll
  clear hRd hnr hq hll
  obtain ⟨A, n1, c, B, m1, d, rfl, h1, h2, h3, h4, h5, h6⟩ := HV.out
  have hB0 : Below w.heap.size w ((w.alloc (.cells #[.slice A n1 c, .slice B m1 d] 25)).alloc (.cells #[.slice none 0 0, .slice none 0 0] 25)) := ((Below.refl _ _).alloc (Nat.le_refl _) _).alloc (by simp) _
  have X := Lib.hid (show Box ((w.alloc (.cells #[.slice A n1 c, .slice B m1 d] 25)).alloc (.cells #[.slice none 0 0, .slice none 0 0] 25)) w.heap.size 25 #[.slice A n1 c, .slice B m1 d] from (Box.new _ _ _).alloc _)
  have Y := Lib.hid (show Box ((w.alloc (.cells #[.slice A n1 c, .slice B m1 d] 25)).alloc (.cells #[.slice none 0 0, .slice none 0 0] 25)) (w.heap.size + 1) 25 #[.slice none 0 0, .slice none 0 0] from Box.new_at _ (by simp))
  have HV0 := Lib.hid (HV.out.below hB0)
  have HR0 := Lib.hid (HR.out.below hB0)
  have HB := Lib.hid hB0
  clear h2 h4 h5 h6 hB0 HV
  go_enter Try.func7, Try.ntmps7
  go_upto_region 1 with (fail)
  generalize ((w.alloc (.cells #[.slice A n1 c, .slice B m1 d] 25)).alloc (.cells #[.slice none 0 0, .slice none 0 0] 25)) = w0 at X Y HV0 HB HR0 ⊢
  have k0 : w0.cell? ⟨w.heap.size, 0, none⟩ = some (.slice A n1 c) := X.out.cell 0
  have k1 : w0.cell? ⟨w.heap.size, 1, none⟩ = some (.slice B m1 d) := X.out.cell 1
  go_wp2_with fail
  clear k0 k1
  refine (read_any _ b r ps ts nr q k x0 _ HV0 HRd HNR HQ).mono ?_
  rintro e w1 ⟨A1, c1, C1, g1, rfl, hr1, l1, l2, hr2, hb1⟩
  have X1 := Lib.hid (X.out.below hb1 X.out.lt)
  have Y1 := Lib.hid (Y.out.below hb1 Y.out.lt)
  have HV1 := Lib.hid (HV0.out.below hb1)
  have HR1 := Lib.hid (HR0.out.below hb1)
  have HB1 := Lib.hid (bmore HB.out hb1 (Nat.le_refl _))
  clear hr1 l2 hr2 hb1 X Y HV0 HR0 HB HR
  have hYlt := Y1.out.lt
  rcases HA.out with ⟨h1, rfl, rfl, rfl⟩ | ⟨h1, h2, rfl, rfl, rfl⟩ | ⟨h1, h2, h3, rfl, rfl, rfl⟩ | ⟨h1, h2, h3, h4, rfl, rfl, rfl⟩ | ⟨h1, h2, h3, h4, h5⟩
  · obtain rfl : 0 = n := Hn.out
    obtain rfl : 0 = m := Hm.out
    obtain rfl : x0 = 30 := by
      rcases HRd.out with ⟨h, _⟩ | ⟨_, _, _, _, h⟩
      · exact absurd h h1
      · exact h
    clear h1
    have z0 : w1.cell? ⟨w.heap.size + 1, 0, none⟩ = some (.slice none 0 0) := Y1.out.cell 0
    have z1 : w1.cell? ⟨w.heap.size + 1, 1, none⟩ = some (.slice none 0 0) := Y1.out.cell 1
    have z2 : w1.frozen? ⟨w.heap.size + 1, 0, none⟩ = false := Y1.out.frozen 0
    have z3 : w1.frozen? ⟨w.heap.size + 1, 1, none⟩ = false := Y1.out.frozen 1
    go_wp2_with fail
    exact bodyPost_ret (v := .tuple #[.agg #[.slice none 0 0, .slice none 0 0], .int .i64 30]) (by simp [results, Try.results7, go_sem, z0, z1]) rfl ⟨_, _, _, _, rfl, DiskOwn.zero, below_put HB1.out (by omega) _ _⟩
  all_goals
    obtain ⟨hr, hcut, rfl⟩ : r = DM.behind b ps ∧ NM.cut r = (ts, k) ∧ x0 = 0 := by
      rcases HRd.out with ⟨_, h⟩ | ⟨h, _⟩
      · exact h
      · exact absurd h1 h
    have HM := Lib.hid h1
    rw [HLL.out] at h2
  · obtain rfl : 0 = n := Hn.out
    obtain rfl : 0 = m := Hm.out
    clear hr hcut h1
    have z0 : w1.cell? ⟨w.heap.size + 1, 0, none⟩ = some (.slice none 0 0) := Y1.out.cell 0
    have z1 : w1.cell? ⟨w.heap.size + 1, 1, none⟩ = some (.slice none 0 0) := Y1.out.cell 1
    have z2 : w1.frozen? ⟨w.heap.size + 1, 0, none⟩ = false := Y1.out.frozen 0
    have z3 : w1.frozen? ⟨w.heap.size + 1, 1, none⟩ = false := Y1.out.frozen 1
    go_wp2_with fail
    exact bodyPost_ret (v := .tuple #[.agg #[.slice none 0 0, .slice none 0 0], .int .i64 4]) (by simp [results, Try.results7, go_sem, z0, z1]) rfl ⟨_, _, _, _, rfl, DiskOwn.zero, below_put HB1.out (by omega) _ _⟩
  · obtain rfl : 0 = n := Hn.out
    obtain rfl : 0 = m := Hm.out
    have HFr := Lib.hid (show FramesIs ls [] 3 from .inr ⟨h3, rfl, rfl⟩)
    clear hr hcut h1 h3
    go_wp2_with fail
    refine (framesOf_any L nl cl ls [] 0 3 _ HR1 HSm h2 HFr (Lib.hid rfl)).mono ?_
    rintro e w2 ⟨A2, c2, rfl, hrows, l5, l6, hb2⟩
    have X2 := Lib.hid (X1.out.below hb2 X1.out.lt)
    have Y2 := Lib.hid (Y1.out.below hb2 Y1.out.lt)
    have HV2 := Lib.hid (HV1.out.below hb2)
    have HB2 := Lib.hid (bmore HB1.out hb2 (Nat.le_refl _))
    have HRows := Lib.hid hrows
    have hYlt2 := Y2.out.lt
    clear l6 hb2 X1 Y1 HV1 HR1 HB1 hrows
    have z0 : w2.cell? ⟨w.heap.size + 1, 0, none⟩ = some (.slice none 0 0) := Y2.out.cell 0
    have z1 : w2.cell? ⟨w.heap.size + 1, 1, none⟩ = some (.slice none 0 0) := Y2.out.cell 1
    have z2 : w2.frozen? ⟨w.heap.size + 1, 0, none⟩ = false := Y2.out.frozen 0
    have z3 : w2.frozen? ⟨w.heap.size + 1, 1, none⟩ = false := Y2.out.frozen 1
    go_wp2_with fail
    exact bodyPost_ret (v := .tuple #[.agg #[.slice none 0 0, .slice none 0 0], .int .i64 3]) (by simp [results, Try.results7, go_sem, z0, z1]) rfl ⟨_, _, _, _, rfl, DiskOwn.zero, below_put HB2.out (by omega) _ _⟩
  · obtain rfl : 0 = n := Hn.out
    obtain rfl : 0 = m := Hm.out
    have HFr := Lib.hid (show FramesIs ls (ls.map NM.text) 0 from .inl ⟨h3, rfl, rfl⟩)
    have hne : k ≠ nr := by
      intro h
      apply h4
      rw [← hr, hcut, HNR.out]; exact h
    have hne1 : decide ((k : Int) = (nr : Int)) = false := by simp; omega
    have hne2 : ((k : Int) != (nr : Int)) = true := by simp; omega
    clear hr hcut h1 h3 h4
    go_wp2_with fail
    refine (framesOf_any L nl cl ls (ls.map NM.text) nl 0 _ HR1 HSm h2 HFr (Lib.hid (by rw [List.length_map, HLL.out]))).mono ?_
    rintro e w2 ⟨A2, c2, rfl, hrows, l5, l6, hb2⟩
    have X2 := Lib.hid (X1.out.below hb2 X1.out.lt)
    have Y2 := Lib.hid (Y1.out.below hb2 Y1.out.lt)
    have HV2 := Lib.hid (HV1.out.below hb2)
    have HB2 := Lib.hid (bmore HB1.out hb2 (Nat.le_refl _))
    have HRows := Lib.hid hrows
    have hYlt2 := Y2.out.lt
    clear l6 hb2 X1 Y1 HV1 HR1 HB1 hrows
    have z0 : w2.cell? ⟨w.heap.size + 1, 0, none⟩ = some (.slice none 0 0) := Y2.out.cell 0
    have z1 : w2.cell? ⟨w.heap.size + 1, 1, none⟩ = some (.slice none 0 0) := Y2.out.cell 1
    have z2 : w2.frozen? ⟨w.heap.size + 1, 0, none⟩ = false := Y2.out.frozen 0
    have z3 : w2.frozen? ⟨w.heap.size + 1, 1, none⟩ = false := Y2.out.frozen 1
    go_wp2_with fail
    exact bodyPost_ret (v := .tuple #[.agg #[.slice none 0 0, .slice none 0 0], .int .i64 8]) (by simp [results, Try.results7, go_sem, z0, z1]) rfl ⟨_, _, _, _, rfl, DiskOwn.zero, below_put HB2.out (by omega) _ _⟩
  · have HFr := Lib.hid (show FramesIs ls (ls.map NM.text) 0 from .inl ⟨h3, rfl, rfl⟩)
    obtain rfl : k = nr := by rw [← hr, hcut, HNR.out] at h4; exact h4
    have HAll := Lib.hid h5
    have hne2 : ((k : Int) != (k : Int)) = false := by simp
    clear hr hcut h1 h3 h4 h5
    go_wp2_with fail
    refine (framesOf_any L nl cl ls (ls.map NM.text) nl 0 _ HR1 HSm h2 HFr (Lib.hid (by rw [List.length_map, HLL.out]))).mono ?_
    rintro e w2 ⟨A2, c2, rfl, hrows, l5, l6, hb2⟩
    have X2 := Lib.hid (X1.out.below hb2 X1.out.lt)
    have Y2 := Lib.hid (Y1.out.below hb2 Y1.out.lt)
    have HV2 := Lib.hid (HV1.out.below hb2)
    have HB2 := Lib.hid (bmore HB1.out hb2 (Nat.le_refl _))
    have HRows := Lib.hid hrows
    have hYlt2 := Y2.out.lt
    clear l6 hb2 X1 Y1 HV1 HR1 HB1 hrows
    have k0 : w2.cell? ⟨w.heap.size, 0, none⟩ = some (.slice A n1 c) := X2.out.cell 0
    have k1 : w2.cell? ⟨w.heap.size, 1, none⟩ = some (.slice B m1 d) := X2.out.cell 1
    go_wp2_with fail
    refine (appendAll_any _ A2 nl c2 b b' ps ps' (ls.map NM.text) x n m _ HV2 HM HRows h2 HAll Hn Hm).mono ?_
    rintro e w3 ⟨A3, c3, B3, d3, rfl, hown3, hb3⟩
    have Y3 := Lib.hid (Y2.out.below hb3 Y2.out.lt)
    have HB3 := Lib.hid (bmore HB2.out hb3 (Nat.le_refl _))
    have HO3 := Lib.hid hown3
    clear hown3 hb3 k0 k1
    have z0 : w3.cell? ⟨w.heap.size + 1, 0, none⟩ = some (.slice none 0 0) := Y3.out.cell 0
    have z1 : w3.cell? ⟨w.heap.size + 1, 1, none⟩ = some (.slice none 0 0) := Y3.out.cell 1
    have z2 : w3.frozen? ⟨w.heap.size + 1, 0, none⟩ = false := Y3.out.frozen 0
    have z3 : w3.frozen? ⟨w.heap.size + 1, 1, none⟩ = false := Y3.out.frozen 1
    go_wp2_with fail
    exact bodyPost_ret (v := .tuple #[.agg #[.slice A3 n c3, .slice B3 m d3], .int .i64 x]) (by simp [results, Try.results7, go_sem, z0, z1]) rfl ⟨_, _, _, _, rfl, (HO3.out.put (by omega) _ _).mono (by omega), below_put HB3.out (by omega) _ _⟩
end Go.Proofs.Ytkdnkaiknmcfmaa
