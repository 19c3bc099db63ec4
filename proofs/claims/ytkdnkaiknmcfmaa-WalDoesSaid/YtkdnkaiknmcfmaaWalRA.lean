/-
  What the document's own Add of layer 4 answers. Conditions: the disk's slices read as bytes and writes, the others as texts; the disk's bytes are together at most 2^47.
-/
import Derived.Test.YtkdnkaiknmcfmaaWalR
namespace Go.Proofs.Ytkdnkaiknmcfmaa
open Go.RowKit
set_option linter.unusedVariables false

def ShortTo (ls : List (List UInt8)) (k : Nat) : Prop := short (ls.take k)
theorem shortTo_zero (ls : List (List UInt8)) : ShortTo ls 0 := fun s hs => by simp at hs
theorem shortTo_next {ls : List (List UInt8)} {k : Nat} (hk : k < ls.length) (h : ShortTo ls k) (h4 : ls[k].length ≤ 4096) : ShortTo ls (k + 1) := by
  intro s hs
  rw [List.take_succ_eq_append_getElem hk] at hs
  rcases List.mem_append.1 hs with hs | hs
  · exact h s hs
  · simp at hs; subst hs; exact h4
theorem shortTo_all {ls : List (List UInt8)} {n : Nat} (hn : ls.length = n) (h : ShortTo ls n) : short ls := by
  unfold ShortTo at h
  rwa [List.take_of_length_le (by omega)] at h
/-- the second loop's word: of the frames the first k wait behind ps on the disk of the variable g -/
def RAddRel (w : World) (g : Nat) (b : List UInt8) (ps : List DM.Wr) (fs : List (List UInt8)) (n m k : Nat) (wr : World) : Prop :=
  Below w.heap.size w wr ∧ Box wr (w.heap.size + 1) 25 #[.slice none 0 0, .slice none 0 0] ∧ DM.may b (ps ++ pf (fs.take k)) ∧ ∃ A c B d, Box wr g 25 #[.slice A n c, .slice B (m + k) d] ∧
    DiskOwn wr (w.heap.size + 1 + 1) 5 37 (.agg #[.slice A n c, .slice B (m + k) d]) b (ps ++ pf (fs.take k))
/-- the variable g is given the answer of a write, that lies in the variable behind it -/
theorem radd_put {w wr w5 w6 : World} {g : Nat} {b : List UInt8} {ps : List DM.Wr} {fs : List (List UInt8)} {A B A6 B6 : Option Addr} {n m k c d c6 d6 m' : Nat} (h1 : Below w.heap.size w wr) (h2 : Box wr (w.heap.size + 1) 25 #[.slice none 0 0, .slice none 0 0])
    (h3 : Box wr g 25 #[.slice A n c, .slice B m' d]) (hg : w.heap.size + 1 < g) (hb5 : Below wr.heap.size wr w5) (hb6 : Below w5.heap.size w5 w6)
    (ho : DiskOwn w6 w5.heap.size 5 37 (.agg #[.slice A6 n c6, .slice B6 (m + k) d6]) b (ps ++ pf (fs.take k))) (hm : DM.may b (ps ++ pf (fs.take k))) :
    RAddRel w g b ps fs n m k (((w6.alloc (.cells #[.slice A6 n c6, .slice B6 (m + k) d6] 25)).setCell ⟨g, 0, none⟩ (.slice A6 n c6)).setCell ⟨g, 1, none⟩ (.slice B6 (m + k) d6)) := by
  have hb : Below wr.heap.size wr (w6.alloc (.cells #[.slice A6 n c6, .slice B6 (m + k) d6] 25)) := (bmore hb5 hb6 (Nat.le_refl _)).alloc (Nat.le_trans hb5.size hb6.size) _
  have hg5 : g < w5.heap.size := Nat.lt_of_lt_of_le h3.lt hb5.size
  have ho2 := ho.below ((Below.refl w6.heap.size w6).alloc (Nat.le_refl _) (.cells #[.slice A6 n c6, .slice B6 (m + k) d6] 25))
  have hw : w.heap.size + 1 < wr.heap.size := h2.lt
  refine ⟨below_put (bmore h1 hb (Nat.le_refl _)) (by omega) _ _, (h2.below hb h2.lt).putFar (by omega) _ _, hm, A6, c6, B6, d6, (h3.below hb h3.lt).put _ _, (ho2.put hg5 _ _).mono ?_⟩
  have := hb5.size
  omega

set_option maxRecDepth 100000 in
set_option maxHeartbeats 8000000 in
theorem refAdd_any (v : Value) (L : Option Addr) (nl cl : Nat) (b b' : List UInt8) (ps ps' : List DM.Wr) (ls : List (List UInt8)) (x : Int) (n m : Nat) (w : World) (HV : Hid (DiskIs w v b ps)) (HT : Hid (DM.total b ps ≤ 140737488355328)) (HR : Hid (Rd w L nl (sc ls))) (HSm : Hid (∀ t ∈ ls, t.length ≤ 9223372036854775807)) (hnl : nl ≤ 9223372036854775807) (HA : Hid (AddIs b ps ls b' ps' x)) (Hn : Hid (b'.length = n)) (Hm : Hid (ps'.length = m)) :
    Calls Try.prog 18 #[v, .slice L nl cl] w (DAns w b' ps' n m x) := by
  have hll : ls.length = nl := by have := HR.out.1; rwa [sc_length] at this
  obtain ⟨r, x0, hse⟩ := seeIs_ex b ps
  obtain ⟨⟨t0, kk⟩, hcut⟩ : ∃ p, NM.cut r = p := ⟨_, rfl⟩
  obtain ⟨nr, hnr⟩ : ∃ nr, r.length = nr := ⟨_, rfl⟩
  obtain ⟨q0, hq⟩ : ∃ q, t0.length = q := ⟨_, rfl⟩
  have HS := Lib.hid hse
  have HC := Lib.hid hcut
  have HNR := Lib.hid hnr
  have HQ := Lib.hid hq
  have HLL := Lib.hid hll
  clear hse hcut hnr hq hll
  obtain ⟨A, n1, c, B, m1, d, rfl, h1, h2, h3, h4, h5, h6⟩ := HV.out
  have hB0 : Below w.heap.size w ((w.alloc (.cells #[.slice A n1 c, .slice B m1 d] 25)).alloc (.cells #[.slice none 0 0, .slice none 0 0] 25)) := ((Below.refl _ _).alloc (Nat.le_refl _) _).alloc (by simp) _
  have X := Lib.hid (show Box ((w.alloc (.cells #[.slice A n1 c, .slice B m1 d] 25)).alloc (.cells #[.slice none 0 0, .slice none 0 0] 25)) w.heap.size 25 #[.slice A n1 c, .slice B m1 d] from (Box.new _ _ _).alloc _)
  have Y := Lib.hid (show Box ((w.alloc (.cells #[.slice A n1 c, .slice B m1 d] 25)).alloc (.cells #[.slice none 0 0, .slice none 0 0] 25)) (w.heap.size + 1) 25 #[.slice none 0 0, .slice none 0 0] from Box.new_at _ (by simp))
  have HV0 := Lib.hid (HV.out.below hB0)
  have HR0 := Lib.hid (HR.out.below hB0)
  have HBL := Lib.hid (show b.length = n1 by have := h5.1; rwa [bc_length] at this)
  have HPL := Lib.hid h6.1
  have HB := Lib.hid hB0
  clear h2 h4 h5 h6 hB0 HV
  go_enter Try.func18, Try.ntmps18
  go_upto_region 1 with (fail)
  generalize ((w.alloc (.cells #[.slice A n1 c, .slice B m1 d] 25)).alloc (.cells #[.slice none 0 0, .slice none 0 0] 25)) = w0 at X Y HV0 HB HR0 ⊢
  have k0 : w0.cell? ⟨w.heap.size, 0, none⟩ = some (.slice A n1 c) := X.out.cell 0
  have k1 : w0.cell? ⟨w.heap.size, 1, none⟩ = some (.slice B m1 d) := X.out.cell 1
  go_wp2_with fail
  clear k0 k1
  refine (refSee_any _ b r ps nr x0 _ HV0 HT HS HNR).mono ?_
  rintro e w1 ⟨A1, c1, rfl, hr1, hb1⟩
  have X1 := Lib.hid (X.out.below hb1 X.out.lt)
  have Y1 := Lib.hid (Y.out.below hb1 Y.out.lt)
  have HV1 := Lib.hid (HV0.out.below hb1)
  have HR1 := Lib.hid (HR0.out.below hb1)
  have HB1 := Lib.hid (bmore HB.out hb1 (Nat.le_refl _))
  obtain ⟨l1, l2⟩ := own_le hr1
  have HSeen := Lib.hid (Rd.of_own hr1)
  have HL2 := Lib.hid l2
  have hl2 : c1 ≤ 9223372036854775807 := by unfold maxLen at l2; omega
  clear hr1 l2 hb1 X Y HV0 HB HR0
  have hYlt := Y1.out.lt
  by_cases h1 : DM.may b ps
  rotate_left
  · obtain ⟨rfl, rfl, rfl⟩ : b' = [] ∧ ps' = [] ∧ x = 30 := by
      rcases HA.out with ⟨_, h⟩ | ⟨h, _⟩ | ⟨h, _⟩ | ⟨h, _⟩ | ⟨h, _⟩
      · exact h
      all_goals exact absurd h h1
    obtain rfl : 0 = n := Hn.out
    obtain rfl : 0 = m := Hm.out
    obtain rfl : x0 = 30 := by
      rcases HS.out with ⟨h, _⟩ | ⟨_, _, h⟩
      · exact absurd h h1
      · exact h
    clear h1
    have z0 : w1.cell? ⟨w.heap.size + 1, 0, none⟩ = some (.slice none 0 0) := Y1.out.cell 0
    have z1 : w1.cell? ⟨w.heap.size + 1, 1, none⟩ = some (.slice none 0 0) := Y1.out.cell 1
    have z2 : w1.frozen? ⟨w.heap.size + 1, 0, none⟩ = false := Y1.out.frozen 0
    have z3 : w1.frozen? ⟨w.heap.size + 1, 1, none⟩ = false := Y1.out.frozen 1
    go_wp2_with fail
    exact bodyPost_ret (v := .tuple #[.agg #[.slice none 0 0, .slice none 0 0], .int .i64 30]) (by simp [results, Try.results18, go_sem, z0, z1]) rfl ⟨_, _, _, _, rfl, DiskOwn.zero, below_put HB1.out (by omega) _ _⟩
  obtain ⟨hr, rfl⟩ : r = DM.behind b ps ∧ x0 = 0 := by
    rcases HS.out with ⟨_, h, h'⟩ | ⟨h, _⟩
    · exact ⟨h, h'⟩
    · exact absurd h1 h
  by_cases h2 : 1024 < nl
  · obtain ⟨rfl, rfl, rfl⟩ : b' = [] ∧ ps' = [] ∧ x = 4 := by
      rcases HA.out with ⟨h, _⟩ | ⟨_, _, h⟩ | ⟨_, h, _⟩ | ⟨_, h, _⟩ | ⟨_, h, _⟩
      · exact absurd h1 h
      · exact h
      all_goals (rw [HLL.out] at h; omega)
    obtain rfl : 0 = n := Hn.out
    obtain rfl : 0 = m := Hm.out
    clear hr h1
    have z0 : w1.cell? ⟨w.heap.size + 1, 0, none⟩ = some (.slice none 0 0) := Y1.out.cell 0
    have z1 : w1.cell? ⟨w.heap.size + 1, 1, none⟩ = some (.slice none 0 0) := Y1.out.cell 1
    have z2 : w1.frozen? ⟨w.heap.size + 1, 0, none⟩ = false := Y1.out.frozen 0
    have z3 : w1.frozen? ⟨w.heap.size + 1, 1, none⟩ = false := Y1.out.frozen 1
    go_wp2_with fail
    exact bodyPost_ret (v := .tuple #[.agg #[.slice none 0 0, .slice none 0 0], .int .i64 4]) (by simp [results, Try.results18, go_sem, z0, z1]) rfl ⟨_, _, _, _, rfl, DiskOwn.zero, below_put HB1.out (by omega) _ _⟩
  have HM := Lib.hid h1
  have hnr20 : nr ≤ 1048576 := by rw [← HNR.out, hr]; exact DM.fits_all h1.2
  have HRr := Lib.hid hr
  have hps0 := h1.1
  clear h1 hr
  go_wp2_with fail
  go_loop [8] (fun i => ∃ k : Nat, k ≤ nl ∧ i = .int .i64 k ∧ ShortTo ls k) (fun i => nl - (intOf i).toNat)
  case atStart => exact ⟨0, by omega, rfl, shortTo_zero ls⟩
  case round =>
    obtain ⟨k, hk, rfl, hsh⟩ := hrel
    have HSh := Lib.hid hsh; clear hsh
    by_cases hlt : k < nl
    · have hkl : k < ls.length := by have := HLL.out; omega
      obtain ⟨ad, u, rfl, _, hu, hcell⟩ := HR1.out.at_ hlt
      rw [sc_get ls k hkl] at hu
      injection hu with hu
      subst hu
      have hsm := HSm.out _ (List.getElem_mem hkl)
      have HNx := Lib.hid (shortTo_next hkl HSh.out)
      have HNo := Lib.hid (fun (h : short ls) => h _ (List.getElem_mem hkl))
      obtain ⟨s, hs⟩ : ∃ s, s = ls[k] := ⟨_, rfl⟩
      rw [← hs] at hcell hsm HNx HNo
      clear hs
      by_cases h4 : 4096 < s.length
      · obtain ⟨rfl, rfl, rfl⟩ : b' = [] ∧ ps' = [] ∧ x = 3 := by
          have hns : ¬ short ls := fun h => by have := HNo.out h; omega
          rcases HA.out with ⟨h, _⟩ | ⟨_, h, _⟩ | ⟨_, _, _, h⟩ | ⟨_, _, h, _⟩ | ⟨_, _, h, _⟩
          · exact absurd HM.out h
          · rw [HLL.out] at h; omega
          · exact h
          all_goals exact absurd h hns
        obtain rfl : 0 = n := Hn.out
        obtain rfl : 0 = m := Hm.out
        clear hsm
        have z0 : w1.cell? ⟨w.heap.size + 1, 0, none⟩ = some (.slice none 0 0) := Y1.out.cell 0
        have z1 : w1.cell? ⟨w.heap.size + 1, 1, none⟩ = some (.slice none 0 0) := Y1.out.cell 1
        have z2 : w1.frozen? ⟨w.heap.size + 1, 0, none⟩ = false := Y1.out.frozen 0
        have z3 : w1.frozen? ⟨w.heap.size + 1, 1, none⟩ = false := Y1.out.frozen 1
        go_wp2_with fail
        exact bodyPost_ret (v := .tuple #[.agg #[.slice none 0 0, .slice none 0 0], .int .i64 3]) (by simp [results, Try.results18, go_sem, z0, z1]) rfl ⟨_, _, _, _, rfl, DiskOwn.zero, below_put HB1.out (by omega) _ _⟩
      · have HN2 := Lib.hid (HNx.out (by omega))
        clear hsm HNx HNo
        go_wp2_with fail
        go_round
        case rel => exact ⟨k + 1, by omega, by go_num, HN2.out⟩
        case measure => simp [intOf]; omega
    · obtain rfl : nl = k := by omega
      have HShort := Lib.hid (shortTo_all HLL.out HSh.out)
      clear HSh
      go_wp2_with fail
      refine (refAll_s A1 nr c1 r t0 kk q0 _ HSeen l1 HL2 hnr20 HC HQ).mono ?_
      rintro e w2 ⟨C2, g2, rfl, ho2, hb2⟩
      have X2 := Lib.hid (X1.out.below hb2 X1.out.lt)
      have Y2 := Lib.hid (Y1.out.below hb2 Y1.out.lt)
      have HV2 := Lib.hid (HV1.out.below hb2)
      have HR2 := Lib.hid (HR1.out.below hb2)
      have HB2 := Lib.hid (bmore HB1.out hb2 (Nat.le_refl _))
      have hYlt2 := Y2.out.lt
      clear ho2 hb2 X1 Y1 HV1 HB1 HR1 hYlt HSeen
      by_cases hkn : kk = nr
      rotate_left
      · obtain ⟨rfl, rfl, rfl⟩ : b' = [] ∧ ps' = [] ∧ x = 8 := by
          rcases HA.out with ⟨h, _⟩ | ⟨_, h, _⟩ | ⟨_, _, h, _⟩ | ⟨_, _, _, _, h⟩ | ⟨_, _, _, h, _⟩
          · exact absurd HM.out h
          · rw [HLL.out] at h; omega
          · exact absurd HShort.out h
          · exact h
          · rw [← HRr.out, HC.out, HNR.out] at h; exact absurd h hkn
        obtain rfl : 0 = n := Hn.out
        obtain rfl : 0 = m := Hm.out
        have hne1 : ((kk : Int) != (nr : Int)) = true := by simp; omega
        have hne2 : decide ((kk : Int) = (nr : Int)) = false := by simp; omega
        have z0 : w2.cell? ⟨w.heap.size + 1, 0, none⟩ = some (.slice none 0 0) := Y2.out.cell 0
        have z1 : w2.cell? ⟨w.heap.size + 1, 1, none⟩ = some (.slice none 0 0) := Y2.out.cell 1
        have z2 : w2.frozen? ⟨w.heap.size + 1, 0, none⟩ = false := Y2.out.frozen 0
        have z3 : w2.frozen? ⟨w.heap.size + 1, 1, none⟩ = false := Y2.out.frozen 1
        go_wp2_with fail
        exact bodyPost_ret (v := .tuple #[.agg #[.slice none 0 0, .slice none 0 0], .int .i64 8]) (by simp [results, Try.results18, go_sem, z0, z1]) rfl ⟨_, _, _, _, rfl, DiskOwn.zero, below_put HB2.out (by omega) _ _⟩
      have hAll : AllIs b ps (ls.map NM.text) b' ps' x := by
        rcases HA.out with ⟨h, _⟩ | ⟨_, h, _⟩ | ⟨_, _, h, _⟩ | ⟨_, _, _, h, _⟩ | ⟨_, _, _, _, h⟩
        · exact absurd HM.out h
        · rw [HLL.out] at h; omega
        · exact absurd HShort.out h
        · rw [← HRr.out, HC.out, HNR.out] at h; exact absurd hkn h
        · exact h
      have HAll := Lib.hid hAll
      obtain ⟨fs, hfs⟩ : ∃ fs, ls.map NM.text = fs := ⟨_, rfl⟩
      rw [hfs] at HAll
      have hfl : fs.length = nl := by rw [← hfs, List.length_map]; exact HLL.out
      have hfg := fun (k : Nat) (hk : k < ls.length) => (show fs[k]? = some (NM.text ls[k]) by rw [← hfs]; simp [hk])
      have HFS := Lib.hid hfs
      have HFL := Lib.hid hfl
      have HFG := Lib.hid hfg
      subst hkn
      have hne1 : ((kk : Int) != (kk : Int)) = false := by simp
      have htw := twin_any _ b ps w2 HV2 HT (by omega)
      rw [HBL.out, HPL.out] at htw
      have HTw := Lib.hid htw
      have k0 : w2.cell? ⟨w.heap.size, 0, none⟩ = some (.slice A n1 c) := X2.out.cell 0
      have k1 : w2.cell? ⟨w.heap.size, 1, none⟩ = some (.slice B m1 d) := X2.out.cell 1
      clear hAll hfs hfl hfg htw
      go_wp2_with fail
      refine HTw.out.mono ?_
      rintro e w3 ⟨A3, c3, B3, d3, rfl, hown3, hb3⟩
      have hal : Below w3.heap.size w3 (w3.alloc (.cells #[.slice A3 n1 c3, .slice B3 m1 d3] 25)) := (Below.refl _ _).alloc (Nat.le_refl _) _
      have hb23 : Below w2.heap.size w2 (w3.alloc (.cells #[.slice A3 n1 c3, .slice B3 m1 d3] 25)) := hb3.alloc hb3.size _
      have hst : RAddRel w w3.heap.size b ps fs n1 m1 0 (w3.alloc (.cells #[.slice A3 n1 c3, .slice B3 m1 d3] 25)) := by
        have e0 : ps ++ pf (fs.take 0) = ps := by simp [pf]
        refine ⟨bmore HB2.out hb23 (Nat.le_refl _), Y2.out.below hb23 Y2.out.lt, by rw [e0]; exact HM.out, A3, c3, B3, d3, Box.new _ _ _, ?_⟩
        rw [e0]
        exact (hown3.below hal).mono (by omega)
      have hg : w.heap.size + 1 < w3.heap.size := by have := hb3.size; omega
      have HST := Lib.hid hst
      have HRw := Lib.hid (HR.out)
      clear hst hal hb23 hown3 hb3 k0 k1 HTw HR2 HV2 HB2 X2 Y2 hYlt2
      go_upto_region 15 with (fail)
      generalize w3.alloc (.cells #[.slice A3 n1 c3, .slice B3 m1 d3] 25) = w4 at HST ⊢
      generalize w3.heap.size = g at HST hg ⊢
      go_wp2_with fail
      go_loopw [12] (fun i wr => ∃ k : Nat, k ≤ nl ∧ i = .int .i64 k ∧ RAddRel w g b ps fs n1 m1 k wr) (fun i _ => nl - (intOf i).toNat)
      case atStart => exact ⟨0, by omega, rfl, HST.out⟩
      case round =>
        clear HST
        obtain ⟨k, hk, rfl, hB, hY, hmay, A2, c2, B2, d2, hX, hO⟩ := hrel
        have hlt2 := hY.lt
        have hgl := hX.lt
        have HB := Lib.hid hB
        have Y := Lib.hid hY
        have X := Lib.hid hX
        have HO := Lib.hid hO
        by_cases hlt : k < nl
        · have hkl : k < ls.length := by have := HLL.out; omega
          obtain ⟨ad, u, rfl, _, hu, hcell⟩ := (HRw.out.below hB).at_ hlt
          rw [sc_get ls k hkl] at hu
          injection hu with hu
          subst hu
          have hf := HFG.out k hkl
          have h4 := HShort.out _ (List.getElem_mem hkl)
          obtain ⟨s, hs⟩ : ∃ s, s = ls[k] := ⟨_, rfl⟩
          rw [← hs] at hcell hf h4
          clear hs hkl
          obtain ⟨f, hff⟩ : ∃ f, NM.text s = f := ⟨_, rfl⟩
          rw [hff] at hf
          obtain ⟨y, hy⟩ : ∃ y, f.length = y := ⟨_, rfl⟩
          have hTx : TextIs s f y 0 := ⟨hy, .inl ⟨h4, hff.symm, rfl⟩⟩
          have hy2 : y ≤ 2000000 := by
            have := NM.text_le s
            rw [hff, hy] at this
            omega
          have hpl : (ps ++ pf (fs.take k)).length = m1 + k := by
            rw [List.length_append, HPL.out, pf_length, List.length_take, HFL.out]; omega
          have HTx := Lib.hid hTx
          have HFk := Lib.hid hf
          have HPk := Lib.hid hpl
          have HMk := Lib.hid hmay
          clear hB hY hX hO hf hff hy hTx hpl hmay
          go_wp2_with fail
          refine (refFrame_ans s f y 0 _ HTx.out (by omega)).mono ?_
          rintro e w5 ⟨Af, cf, rfl, hrf, lf1, lf2, hb5⟩
          have HRf := Lib.hid hrf
          have hO5 := HO.out.is.below hb5
          have HO5 := Lib.hid hO5
          have HT5 := Lib.hid (show DM.total b (ps ++ pf (fs.take k)) ≤ 140737488355328 from Nat.le_trans (total_may HMk.out) (by omega))
          have k0 : w5.cell? ⟨g, 0, none⟩ = some (.slice A2 n1 c2) := (X.out.below hb5 X.out.lt).cell 0
          have k1 : w5.cell? ⟨g, 1, none⟩ = some (.slice B2 (m1 + k) d2) := (X.out.below hb5 X.out.lt).cell 1
          have HB5 := Lib.hid hb5
          clear hrf hO5 hb5 lf2
          by_cases hmay2 : DM.may b (ps ++ pf (fs.take (k + 1)))
          · have hL : LenIs b (ps ++ pf (fs.take k)) (false, f) b (ps ++ pf (fs.take (k + 1))) 0 := by
              rw [pf_take _ _ _ HFk.out, ← List.append_assoc] at hmay2 ⊢
              exact .inr (.inr ⟨HMk.out, hmay2, rfl, rfl, rfl⟩)
            have hl2' : (ps ++ pf (fs.take (k + 1))).length = m1 + (k + 1) := by
              rw [pf_take _ _ _ HFk.out, ← List.append_assoc, List.length_append, HPk.out]; rfl
            have HL := Lib.hid hL
            have HLn := Lib.hid hl2'
            have HM2 := Lib.hid hmay2
            clear hL hl2' hmay2
            go_wp2_with fail
            refine (refWrite_any _ false Af y cf b f b _ _ 0 n1 (m1 + (k + 1)) _ HO5 HT5 HRf hy2 HL HBL HLn).mono ?_
            rintro e w6 ⟨A6, c6, B6, d6, rfl, hown6, hb6⟩
            have HN := Lib.hid (radd_put HB.out Y.out X.out hg HB5.out hb6 hown6 HM2.out)
            have hbb : Below wr.heap.size wr (w6.alloc (.cells #[.slice A6 n1 c6, .slice B6 (m1 + (k + 1)) d6] 25)) := (bmore HB5.out hb6 (Nat.le_refl _)).alloc (Nat.le_trans HB5.out.size hb6.size) _
            have hx6 := X.out.below hbb X.out.lt
            have hv6 := Box.new w6 25 #[.slice A6 n1 c6, .slice B6 (m1 + (k + 1)) d6]
            have hg6 : g < w6.heap.size := Nat.lt_of_lt_of_le X.out.lt (Nat.le_trans HB5.out.size hb6.size)
            have X6 := Lib.hid hx6
            have V6 := Lib.hid hv6
            clear k0 k1 hown6 hb6 hbb hx6 hv6
            go_upto_region 20 with (fail)
            generalize w6.alloc (.cells #[.slice A6 n1 c6, .slice B6 (m1 + (k + 1)) d6] 25) = w7 at HN X6 V6 ⊢
            have j0 := V6.out.cell 0
            have j1 := V6.out.cell 1
            have k0 := X6.out.cell 0
            have k1 := X6.out.cell 1
            have f0 := X6.out.frozen 0
            have f1 := X6.out.frozen 1
            have hne : g ≠ w6.heap.size := by omega
            have hne2 : w6.heap.size ≠ g := by omega
            go_wp2_with fail
            go_roundw
            case rel => exact ⟨k + 1, by omega, by go_num, HN.out⟩
            case measure => simp [intOf]; omega
          · have hL : LenIs b (ps ++ pf (fs.take k)) (false, f) [] [] 9 := by
              rw [pf_take _ _ _ HFk.out, ← List.append_assoc] at hmay2
              exact .inr (.inl ⟨HMk.out, hmay2, rfl, rfl, rfl⟩)
            have HL := Lib.hid hL
            have hno : ¬ DM.may b (ps ++ pf fs) := fun h => hmay2 (may_pf_take h (k + 1))
            obtain ⟨rfl, rfl, rfl⟩ : b' = [] ∧ ps' = [] ∧ x = 9 := by
              rcases HAll.out with ⟨h, _⟩ | ⟨_, h⟩
              · exact absurd h hno
              · exact h
            obtain rfl : 0 = n := Hn.out
            obtain rfl : 0 = m := Hm.out
            clear hL hmay2 hno
            go_wp2_with fail
            refine (refWrite_any _ false Af y cf b f [] _ [] 9 0 0 _ HO5 HT5 HRf hy2 HL (Lib.hid rfl) (Lib.hid rfl)).mono ?_
            rintro e w6 ⟨A6, c6, B6, d6, rfl, hown6, hb6⟩
            have hbb : Below wr.heap.size wr (w6.alloc (.cells #[.slice A6 0 c6, .slice B6 0 d6] 25)) := (bmore HB5.out hb6 (Nat.le_refl _)).alloc (Nat.le_trans HB5.out.size hb6.size) _
            have Y6 := Lib.hid (Y.out.below hbb Y.out.lt)
            have HB6 := Lib.hid (bmore HB.out hbb (Nat.le_refl _))
            clear k0 k1 hown6 hb6 hbb
            go_upto_region 20 with (fail)
            generalize w6.alloc (.cells #[.slice A6 0 c6, .slice B6 0 d6] 25) = w7 at Y6 HB6 ⊢
            have z0 : w7.cell? ⟨w.heap.size + 1, 0, none⟩ = some (.slice none 0 0) := Y6.out.cell 0
            have z1 : w7.cell? ⟨w.heap.size + 1, 1, none⟩ = some (.slice none 0 0) := Y6.out.cell 1
            have z2 : w7.frozen? ⟨w.heap.size + 1, 0, none⟩ = false := Y6.out.frozen 0
            have z3 : w7.frozen? ⟨w.heap.size + 1, 1, none⟩ = false := Y6.out.frozen 1
            go_wp2_with fail
            exact bodyPost_ret (v := .tuple #[.agg #[.slice none 0 0, .slice none 0 0], .int .i64 9]) (by simp [results, Try.results18, go_sem, z0, z1]) rfl ⟨_, _, _, _, rfl, DiskOwn.zero, below_put HB6.out (by omega) _ _⟩
        · obtain rfl : nl = k := by omega
          have e0 : fs.take nl = fs := List.take_of_length_le (by have := HFL.out; omega)
          rw [e0] at hmay hO
          obtain ⟨rfl, rfl, rfl⟩ : b' = b ∧ ps' = ps ++ pf fs ∧ x = 0 := by
            rcases HAll.out with ⟨_, h⟩ | ⟨h, _⟩
            · exact h
            · exact absurd hmay h
          obtain rfl : n1 = n := by rw [← Hn.out, HBL.out]
          obtain rfl : m1 + nl = m := by rw [← Hm.out, List.length_append, HPL.out, pf_length, HFL.out]
          have HO2 := Lib.hid hO
          have k0 := X.out.cell 0
          have k1 := X.out.cell 1
          have hne : g ≠ w.heap.size + 1 := by omega
          have hne2 : w.heap.size + 1 ≠ g := by omega
          clear hB hY hX hO hmay e0 HO
          have z0 : wr.cell? ⟨w.heap.size + 1, 0, none⟩ = some (.slice none 0 0) := Y.out.cell 0
          have z1 : wr.cell? ⟨w.heap.size + 1, 1, none⟩ = some (.slice none 0 0) := Y.out.cell 1
          have z2 : wr.frozen? ⟨w.heap.size + 1, 0, none⟩ = false := Y.out.frozen 0
          have z3 : wr.frozen? ⟨w.heap.size + 1, 1, none⟩ = false := Y.out.frozen 1
          go_wp2_with fail
          exact bodyPost_ret (v := .tuple #[.agg #[.slice A2 n1 c2, .slice B2 (m1 + nl) d2], .int .i64 0]) (by simp [results, Try.results18, go_sem, z0, z1]) rfl ⟨_, _, _, _, rfl, (HO2.out.put (by omega) _ _).mono (by omega), below_put HB.out (by omega) _ _⟩
end Go.Proofs.Ytkdnkaiknmcfmaa
