/-
  What wal.Open and wal.Reset answer. Conditions: the disk's slices read as bytes and writes, the others as texts.
-/
import Derived.Test.YtkdnkaiknmcfmaaWalC
import Derived.Test.YtkdnkaiknmcfmaaDiskV
namespace Go.Proofs.Ytkdnkaiknmcfmaa
open Go.RowKit
set_option linter.unusedVariables false

/-- what opening a disk comes to -/
def OpenIs (b : List UInt8) (ps : List DM.Wr) (b' : List UInt8) (ps' : List DM.Wr) (ts : List (List UInt8)) (x : Int) : Prop :=
  (¬ DM.may b ps ∧ b' = [] ∧ ps' = [] ∧ ts = [] ∧ x = 30) ∨
  (DM.may b ps ∧ (NM.cut (DM.behind b ps)).2 = (DM.behind b ps).length ∧ b' = b ∧ ps' = ps ∧ ts = (NM.cut (DM.behind b ps)).1 ∧ x = 0) ∨
  (DM.may b ps ∧ (NM.cut (DM.behind b ps)).2 ≠ (DM.behind b ps).length ∧ LenIs b ps (true, (DM.behind b ps).take (NM.cut (DM.behind b ps)).2) b' ps' x ∧ ((x = 0 ∧ ts = (NM.cut (DM.behind b ps)).1) ∨ (x = 9 ∧ ts = [])))
theorem openIs_ex (b : List UInt8) (ps : List DM.Wr) : ∃ b' ps' ts x, OpenIs b ps b' ps' ts x := by
  by_cases h1 : DM.may b ps
  · by_cases h2 : (NM.cut (DM.behind b ps)).2 = (DM.behind b ps).length
    · exact ⟨_, _, _, _, .inr (.inl ⟨h1, h2, rfl, rfl, rfl, rfl⟩)⟩
    · obtain ⟨b', ps', x, h⟩ := lenIs_ex b ps (true, (DM.behind b ps).take (NM.cut (DM.behind b ps)).2)
      rcases h with ⟨hn, _⟩ | ⟨_, h3, rfl, rfl, rfl⟩ | ⟨_, h3, rfl, rfl, rfl⟩
      · exact absurd h1 hn
      · exact ⟨_, _, _, _, .inr (.inr ⟨h1, h2, .inr (.inl ⟨h1, h3, rfl, rfl, rfl⟩), .inr ⟨rfl, rfl⟩⟩)⟩
      · exact ⟨_, _, _, _, .inr (.inr ⟨h1, h2, .inr (.inr ⟨h1, h3, rfl, rfl, rfl⟩), .inl ⟨rfl, rfl⟩⟩)⟩
  · exact ⟨_, _, _, _, .inl ⟨h1, rfl, rfl, rfl, rfl⟩⟩
/-- an answer of a disk in memory of its own, texts, and an error -/
def OAns (w : World) (b : List UInt8) (ps : List DM.Wr) (ts : List (List UInt8)) (n m q : Nat) (x : Int) (e : Ending) (w' : World) : Prop :=
  ∃ A c B d C g, e = .returned (.tuple #[.agg #[.slice A n c, .slice B m d], .slice C q g, .int .i64 x]) ∧ DiskOwn w' w.heap.size 5 37 (.agg #[.slice A n c, .slice B m d]) b ps ∧ Rd w' C q (sc ts) ∧ q ≤ g ∧ g ≤ maxLen ∧ Below w.heap.size w w'
theorem oAns_of {w w' : World} {b : List UInt8} {ps : List DM.Wr} {ts : List (List UInt8)} {n m q g c d base : Nat} {A B C : Option Addr} {x : Int} (h1 : DiskOwn w' (w.heap.size + 1 + 1) 5 37 (.agg #[.slice A n c, .slice B m d]) b ps)
    (h2 : w'.ownsRow base 9 1 (.slice C q g) q (sc ts)) (hbase : w.heap.size + 1 + 1 ≤ base) (hB : Below w.heap.size w w') :
    OAns w b ps ts n m q x (.returned (.tuple #[.agg #[.slice A n c, .slice B m d], .slice C q g, .int .i64 x])) ((w'.setCell ⟨w.heap.size + 1, 0, none⟩ (.slice A n c)).setCell ⟨w.heap.size + 1, 1, none⟩ (.slice B m d)) := by
  have h3 := ownsRow_setCell_below (ownsRow_setCell_below (own_mono h2 hbase) (a := ⟨w.heap.size + 1, 0, none⟩) (by show w.heap.size + 1 < _; omega) (.slice A n c)) (a := ⟨w.heap.size + 1, 1, none⟩) (by show w.heap.size + 1 < _; omega) (.slice B m d)
  obtain ⟨l1, l2⟩ := own_le h3
  exact ⟨A, c, B, d, C, g, rfl, (h1.put (by omega) _ _).mono (by omega), Rd.of_own h3, l1, l2, below_put hB (by omega) _ _⟩

/-- behind the swap: the variable d holds the answer -/
def OMid (w : World) (b : List UInt8) (ps : List DM.Wr) (ts : List (List UInt8)) (n m q g : Nat) (C : Option Addr) (x : Int) (u : Value) (wx : World) : Prop :=
  u = .int .i64 x ∧ Below w.heap.size w wx ∧ Box wx (w.heap.size + 1) 25 #[.slice none 0 0, .slice none 0 0] ∧ wx.ownsRow (w.heap.size + 1 + 1) 9 1 (.slice C q g) q (sc ts) ∧
  ∃ A c B d, Box wx w.heap.size 25 #[.slice A n c, .slice B m d] ∧ DiskOwn wx (w.heap.size + 1 + 1) 5 37 (.agg #[.slice A n c, .slice B m d]) b ps
theorem oMid_of {w wr w1 : World} {b : List UInt8} {ps : List DM.Wr} {ts : List (List UInt8)} {A B A1 B1 C : Option Addr} {n c m d n1 c1 m1 d1 q g : Nat} {x : Int} (h1 : Below w.heap.size w wr) (h2 : Box wr (w.heap.size + 1) 25 #[.slice none 0 0, .slice none 0 0]) (h3 : Box wr w.heap.size 25 #[.slice A n c, .slice B m d])
    (h4 : wr.ownsRow (w.heap.size + 1 + 1) 9 1 (.slice C q g) q (sc ts)) (hb : Below wr.drew.heap.size wr.drew w1) (ho : DiskOwn w1 wr.drew.heap.size 5 37 (.agg #[.slice A1 n1 c1, .slice B1 m1 d1]) b ps) :
    OMid w b ps ts n1 m1 q g C x (.int .i64 x) ((w1.setCell ⟨w.heap.size, 0, none⟩ (.slice A1 n1 c1)).setCell ⟨w.heap.size, 1, none⟩ (.slice B1 m1 d1)) := by
  have hb' : Below wr.heap.size wr w1 := ((Below.refl _ _).drew).trans hb
  have hlt := h2.lt
  obtain ⟨j1, j2, j3, j4⟩ := var_put h1 h2 h3 hb' ho (by show _ ≤ wr.heap.size; omega)
  exact ⟨rfl, j1, j2, ownsRow_setCell_below (ownsRow_setCell_below (own_below2 h4 hb') (a := ⟨w.heap.size, 0, none⟩) (by show w.heap.size < _; omega) _) (a := ⟨w.heap.size, 1, none⟩) (by show w.heap.size < _; omega) _, A1, c1, B1, d1, j3, j4⟩

set_option maxRecDepth 100000 in
set_option maxHeartbeats 4000000 in
theorem open_any (v : Value) (b b' : List UInt8) (ps ps' : List DM.Wr) (ts : List (List UInt8)) (x : Int) (n m q : Nat) (w : World) (HV : Hid (DiskIs w v b ps)) (HO : Hid (OpenIs b ps b' ps' ts x)) (Hn : Hid (b'.length = n)) (Hm : Hid (ps'.length = m)) (Hq : Hid (ts.length = q)) :
    Calls Try.prog 10 #[v] w (OAns w b' ps' ts n m q x) := by
  obtain ⟨r, t0, k, x0, hRd⟩ := readIs_ex b ps
  obtain ⟨nr, hnr⟩ : ∃ nr, r.length = nr := ⟨_, rfl⟩
  obtain ⟨q0, hq⟩ : ∃ q, t0.length = q := ⟨_, rfl⟩
  have HRd := Lib.hid hRd
  have HNR := Lib.hid hnr
  have HQ := Lib.hid hq
  clear hRd hnr hq
  obtain ⟨A, n1, c, B, m1, d, rfl, h1, h2, h3, h4, h5, h6⟩ := HV.out
  have hB0 : Below w.heap.size w ((w.alloc (.cells #[.slice A n1 c, .slice B m1 d] 25)).alloc (.cells #[.slice none 0 0, .slice none 0 0] 25)) := ((Below.refl _ _).alloc (Nat.le_refl _) _).alloc (by simp) _
  have X := Lib.hid (show Box ((w.alloc (.cells #[.slice A n1 c, .slice B m1 d] 25)).alloc (.cells #[.slice none 0 0, .slice none 0 0] 25)) w.heap.size 25 #[.slice A n1 c, .slice B m1 d] from (Box.new _ _ _).alloc _)
  have Y := Lib.hid (show Box ((w.alloc (.cells #[.slice A n1 c, .slice B m1 d] 25)).alloc (.cells #[.slice none 0 0, .slice none 0 0] 25)) (w.heap.size + 1) 25 #[.slice none 0 0, .slice none 0 0] from Box.new_at _ (by simp))
  have HV0 := Lib.hid (HV.out.below hB0)
  have HB := Lib.hid hB0
  clear h2 h4 h5 h6 hB0 HV
  go_enter Try.func10, Try.ntmps10
  go_upto_region 1 with (fail)
  generalize ((w.alloc (.cells #[.slice A n1 c, .slice B m1 d] 25)).alloc (.cells #[.slice none 0 0, .slice none 0 0] 25)) = w0 at X Y HV0 HB ⊢
  have k0 : w0.cell? ⟨w.heap.size, 0, none⟩ = some (.slice A n1 c) := X.out.cell 0
  have k1 : w0.cell? ⟨w.heap.size, 1, none⟩ = some (.slice B m1 d) := X.out.cell 1
  go_wp2_with fail
  clear k0 k1
  refine (read_any _ b r ps t0 nr q0 k x0 _ HV0 HRd HNR HQ).mono ?_
  rintro e w1 ⟨A1, c1, C1, g1, rfl, hr1, l1, l2, hr2, hb1⟩
  have X1 := Lib.hid (X.out.below hb1 X.out.lt)
  have Y1 := Lib.hid (Y.out.below hb1 Y.out.lt)
  have HV1 := Lib.hid (HV0.out.below hb1)
  have HB1 := Lib.hid (bmore HB.out hb1 (Nat.le_refl _))
  have hYlt0 := Y.out.lt
  have HTs := Lib.hid (own_mono hr2 (base' := w.heap.size + 1 + 1) (by omega))
  have HSeen := Lib.hid hr1
  have hl2 : c1 ≤ 9223372036854775807 := by unfold maxLen at l2; omega
  have HL2 := Lib.hid l2
  clear hr1 l2 hr2 hb1 X Y HV0 HB
  have hYlt := Y1.out.lt
  rcases HO.out with ⟨h1, rfl, rfl, rfl, rfl⟩ | ⟨h1, h4, hbb, hpp, hts, rfl⟩ | ⟨h1, h4, h5, h6⟩
  · obtain rfl : 0 = n := Hn.out
    obtain rfl : 0 = m := Hm.out
    obtain rfl : 0 = q := Hq.out
    obtain rfl : x0 = 30 := by
      rcases HRd.out with ⟨h, _⟩ | ⟨_, _, _, _, h⟩
      · exact absurd h h1
      · exact h
    clear h1
    have z0 : w1.cell? ⟨w.heap.size + 1, 0, none⟩ = some (.slice none 0 0) := Y1.out.cell 0
    have z1 : w1.cell? ⟨w.heap.size + 1, 1, none⟩ = some (.slice none 0 0) := Y1.out.cell 1
    have z2 : w1.frozen? ⟨w.heap.size + 1, 0, none⟩ = false := Y1.out.frozen 0
    have z3 : w1.frozen? ⟨w.heap.size + 1, 1, none⟩ = false := Y1.out.frozen 1
    go_wp2_with fail
    exact bodyPost_ret (v := .tuple #[.agg #[.slice none 0 0, .slice none 0 0], .slice none 0 0, .int .i64 30]) (by simp [results, Try.results10, go_sem, z0, z1]) rfl ⟨_, _, _, _, _, _, rfl, DiskOwn.zero, Rd.nil, Nat.le_refl _, Nat.zero_le _, below_put HB1.out (by omega) _ _⟩
  all_goals
    obtain ⟨hr, hcut, rfl⟩ : r = DM.behind b ps ∧ NM.cut r = (t0, k) ∧ x0 = 0 := by
      rcases HRd.out with ⟨_, h⟩ | ⟨h, _⟩
      · exact h
      · exact absurd h1 h
    have HM := Lib.hid h1
  · obtain rfl : b = b' := hbb.symm
    obtain rfl : ps = ps' := hpp.symm
    obtain rfl : k = nr := by rw [← hr, hcut, HNR.out] at h4; exact h4
    obtain rfl : t0 = ts := by rw [hts, ← hr, hcut]
    obtain rfl : q0 = q := by rw [← HQ.out, Hq.out]
    have k0 : w1.cell? ⟨w.heap.size, 0, none⟩ = some (.slice A n1 c) := X1.out.cell 0
    have k1 : w1.cell? ⟨w.heap.size, 1, none⟩ = some (.slice B m1 d) := X1.out.cell 1
    clear hr hcut h1 h4 hts hbb hpp
    go_wp2_with fail
    refine (walClone_any _ b ps n m _ HV1 HM Hn Hm).mono ?_
    rintro e w3 ⟨A3, c3, B3, d3, rfl, hown3, hb3⟩
    have Y3 := Lib.hid (Y1.out.below hb3 Y1.out.lt)
    have HB3 := Lib.hid (bmore HB1.out hb3 (Nat.le_refl _))
    have HO3 := Lib.hid (hown3.mono (base' := w.heap.size + 1 + 1) (by omega))
    have HT3 := Lib.hid (own_below2 HTs.out hb3)
    clear hown3 hb3 k0 k1
    have z0 : w3.cell? ⟨w.heap.size + 1, 0, none⟩ = some (.slice none 0 0) := Y3.out.cell 0
    have z1 : w3.cell? ⟨w.heap.size + 1, 1, none⟩ = some (.slice none 0 0) := Y3.out.cell 1
    have z2 : w3.frozen? ⟨w.heap.size + 1, 0, none⟩ = false := Y3.out.frozen 0
    have z3 : w3.frozen? ⟨w.heap.size + 1, 1, none⟩ = false := Y3.out.frozen 1
    go_wp2_with fail
    exact bodyPost_ret (v := .tuple #[.agg #[.slice A3 n c3, .slice B3 m d3], .slice C1 q0 g1, .int .i64 0]) (by simp [results, Try.results10, go_sem, z0, z1]) rfl (oAns_of HO3.out HT3.out (Nat.le_refl _) HB3.out)
  · have hne : k ≠ nr := by
      intro h
      apply h4
      rw [← hr, hcut, HNR.out]; exact h
    have hne1 : ((k : Int) == (nr : Int)) = false := by simp; omega
    have hne2 : decide ((k : Int) = (nr : Int)) = false := by simp; omega
    have ht : (NM.cut (DM.behind b ps)).1 = t0 := by rw [← hr, hcut]
    have hk2 : (NM.cut (DM.behind b ps)).2 = k := by rw [← hr, hcut]
    rw [hk2, ← hr] at h5
    rw [ht] at h6
    have hkr : k ≤ nr := by
      have := (NM.join_cut (r.length + 1) r).2.1
      have e : (NM.cutF (r.length + 1) r).2 = k := by show (NM.cut r).2 = k; rw [hcut]
      rw [e, HNR.out] at this; exact this
    have HL := Lib.hid h5
    have H6 := Lib.hid h6
    have HSk := Lib.hid (show Rd w1 A1 k (bc (r.take k)) by rw [← bc_take]; exact HSeen.out.front hkr)
    have k0 : w1.cell? ⟨w.heap.size, 0, none⟩ = some (.slice A n1 c) := X1.out.cell 0
    have k1 : w1.cell? ⟨w.heap.size, 1, none⟩ = some (.slice B m1 d) := X1.out.cell 1
    have i0 : (0 : Int) ≤ (k : Int) := by omega
    have i1 : (k : Int) ≤ (c1 : Int) := by omega
    have i2 : k ≤ c1 := by omega
    have hmid : ∀ A3 c3 B3 d3 w3, Below w1.drew.heap.size w1.drew w3 → DiskOwn w3 w1.drew.heap.size 5 37 (.agg #[.slice A3 n c3, .slice B3 m d3]) b' ps' →
        OMid w b' ps' t0 n m q0 g1 C1 x (.int .i64 x) ((w3.setCell ⟨w.heap.size, 0, none⟩ (.slice A3 n c3)).setCell ⟨w.heap.size, 1, none⟩ (.slice B3 m d3)) := fun A3 c3 B3 d3 w3 q1 q2 => oMid_of HB1.out Y1.out X1.out HTs.out q1 q2
    have HMid := Lib.hid hmid
    clear hr hcut h1 h4 h5 h6 ht hk2 hmid
    go_upto_region 6 with (fail)
    go_cut [8] (fun u wx => OMid w b' ps' t0 n m q0 g1 C1 x u wx)
    case first =>
      go_region_with (go_at_call 30; refine (swap_s _ A1 k c1 b (r.take k) b' ps ps' x n m _ (Lib.hid (HV1.out.below ((Below.refl _ _).drew))) (Lib.hid HSk.out.drew) i2 HL2 HL Hn Hm).mono ?_; rintro e w3 ⟨A3, c3, B3, d3, rfl, hown3, hb3⟩; have j0 : w3.cell? ⟨w.heap.size, 0, none⟩ = some (.slice A n1 c) := ((X1.out.drew).below hb3 X1.out.lt).cell 0; have j1 : w3.cell? ⟨w.heap.size, 1, none⟩ = some (.slice B m1 d) := ((X1.out.drew).below hb3 X1.out.lt).cell 1; have j2 : w3.frozen? ⟨w.heap.size, 0, none⟩ = false := ((X1.out.drew).below hb3 X1.out.lt).frozen 0; have j3 : w3.frozen? ⟨w.heap.size, 1, none⟩ = false := ((X1.out.drew).below hb3 X1.out.lt).frozen 1)
      all_goals (go_wp2_with fail; go_meet; case rel => exact HMid.out _ _ _ _ _ hb3 hown3)
    case rest =>
      obtain ⟨rfl, hB, hY, hTs, A4, c4, B4, d4, hX, hO⟩ := hcut
      have HB4 := Lib.hid hB
      have Y4 := Lib.hid hY
      have HT4 := Lib.hid hTs
      have HO4 := Lib.hid hO
      have j0 : wc.cell? ⟨w.heap.size, 0, none⟩ = some (.slice A4 n c4) := hX.cell 0
      have j1 : wc.cell? ⟨w.heap.size, 1, none⟩ = some (.slice B4 m d4) := hX.cell 1
      clear k0 k1 hB hY hTs hX hO HMid HV1 HB1 Y1 X1 HTs
      rcases H6.out with ⟨rfl, rfl⟩ | ⟨rfl, rfl⟩
      · obtain rfl : q0 = q := by rw [← HQ.out, Hq.out]
        have z0 : wc.cell? ⟨w.heap.size + 1, 0, none⟩ = some (.slice none 0 0) := Y4.out.cell 0
        have z1 : wc.cell? ⟨w.heap.size + 1, 1, none⟩ = some (.slice none 0 0) := Y4.out.cell 1
        have z2 : wc.frozen? ⟨w.heap.size + 1, 0, none⟩ = false := Y4.out.frozen 0
        have z3 : wc.frozen? ⟨w.heap.size + 1, 1, none⟩ = false := Y4.out.frozen 1
        go_wp2_with fail
        exact bodyPost_ret (v := .tuple #[.agg #[.slice A4 n c4, .slice B4 m d4], .slice C1 q0 g1, .int .i64 0]) (by simp [results, Try.results10, go_sem, z0, z1]) rfl (oAns_of HO4.out HT4.out (Nat.le_refl _) HB4.out)
      · obtain rfl : 0 = q := Hq.out
        obtain ⟨rfl, rfl⟩ : b' = [] ∧ ps' = [] := by
          rcases HL.out with ⟨_, h, h', _⟩ | ⟨_, _, h, h', _⟩ | ⟨_, _, _, _, h⟩
          · exact ⟨h, h'⟩
          · exact ⟨h, h'⟩
          · cases h
        obtain rfl : 0 = n := Hn.out
        obtain rfl : 0 = m := Hm.out
        have z0 : wc.cell? ⟨w.heap.size + 1, 0, none⟩ = some (.slice none 0 0) := Y4.out.cell 0
        have z1 : wc.cell? ⟨w.heap.size + 1, 1, none⟩ = some (.slice none 0 0) := Y4.out.cell 1
        have z2 : wc.frozen? ⟨w.heap.size + 1, 0, none⟩ = false := Y4.out.frozen 0
        have z3 : wc.frozen? ⟨w.heap.size + 1, 1, none⟩ = false := Y4.out.frozen 1
        go_wp2_with fail
        exact bodyPost_ret (v := .tuple #[.agg #[.slice none 0 0, .slice none 0 0], .slice none 0 0, .int .i64 9]) (by simp [results, Try.results10, go_sem, z0, z1]) rfl ⟨_, _, _, _, _, _, rfl, DiskOwn.zero, Rd.nil, Nat.le_refl _, Nat.zero_le _, below_put HB4.out (by omega) _ _⟩

/-- what writing a disk's records anew comes to -/
def ResetIs (b : List UInt8) (ps : List DM.Wr) (ls : List (List UInt8)) (b' : List UInt8) (ps' : List DM.Wr) (x : Int) : Prop :=
  (¬ DM.may b ps ∧ b' = [] ∧ ps' = [] ∧ x = 30) ∨ (DM.may b ps ∧ 65536 < ls.length ∧ b' = [] ∧ ps' = [] ∧ x = 4) ∨ (DM.may b ps ∧ ls.length ≤ 65536 ∧ ¬ joinOk ls ∧ b' = [] ∧ ps' = [] ∧ x = 3) ∨
  (DM.may b ps ∧ ls.length ≤ 65536 ∧ joinOk ls ∧ LenIs b ps (true, NM.join ls) b' ps' x)
theorem resetIs_ex (b : List UInt8) (ps : List DM.Wr) (ls : List (List UInt8)) : ∃ b' ps' x, ResetIs b ps ls b' ps' x := by
  by_cases h1 : DM.may b ps
  · by_cases h2 : ls.length ≤ 65536
    · by_cases h3 : joinOk ls
      · obtain ⟨b', ps', x, h⟩ := lenIs_ex b ps (true, NM.join ls)
        exact ⟨b', ps', x, .inr (.inr (.inr ⟨h1, h2, h3, h⟩))⟩
      · exact ⟨_, _, _, .inr (.inr (.inl ⟨h1, h2, h3, rfl, rfl, rfl⟩))⟩
    · exact ⟨_, _, _, .inr (.inl ⟨h1, by omega, rfl, rfl, rfl⟩)⟩
  · exact ⟨_, _, _, .inl ⟨h1, rfl, rfl, rfl⟩⟩

set_option maxRecDepth 100000 in
set_option maxHeartbeats 4000000 in
theorem reset_any (v : Value) (L : Option Addr) (nl cl : Nat) (b b' : List UInt8) (ps ps' : List DM.Wr) (ls : List (List UInt8)) (x : Int) (n m : Nat) (w : World) (HV : Hid (DiskIs w v b ps)) (HR : Hid (Rd w L nl (sc ls))) (HSm : Hid (∀ t ∈ ls, t.length ≤ 9223372036854775807)) (HNl : Hid (nl ≤ maxLen)) (HA : Hid (ResetIs b ps ls b' ps' x)) (Hn : Hid (b'.length = n)) (Hm : Hid (ps'.length = m)) :
    Calls Try.prog 11 #[v, .slice L nl cl] w (DAns w b' ps' n m x) := by
  obtain ⟨A, n1, c, B, m1, d, rfl, h1, h2, h3, h4, h5, h6⟩ := HV.out
  have hB0 : Below w.heap.size w ((w.alloc (.cells #[.slice A n1 c, .slice B m1 d] 25)).alloc (.cells #[.slice none 0 0, .slice none 0 0] 25)) := ((Below.refl _ _).alloc (Nat.le_refl _) _).alloc (by simp) _
  have X := Lib.hid (show Box ((w.alloc (.cells #[.slice A n1 c, .slice B m1 d] 25)).alloc (.cells #[.slice none 0 0, .slice none 0 0] 25)) w.heap.size 25 #[.slice A n1 c, .slice B m1 d] from (Box.new _ _ _).alloc _)
  have Y := Lib.hid (show Box ((w.alloc (.cells #[.slice A n1 c, .slice B m1 d] 25)).alloc (.cells #[.slice none 0 0, .slice none 0 0] 25)) (w.heap.size + 1) 25 #[.slice none 0 0, .slice none 0 0] from Box.new_at _ (by simp))
  have HV0 := Lib.hid (HV.out.below hB0)
  have HR0 := Lib.hid (HR.out.below hB0)
  have HB := Lib.hid hB0
  clear h2 h4 h5 h6 hB0 HV
  go_enter Try.func11, Try.ntmps11
  go_upto_region 1 with (fail)
  generalize ((w.alloc (.cells #[.slice A n1 c, .slice B m1 d] 25)).alloc (.cells #[.slice none 0 0, .slice none 0 0] 25)) = w0 at X Y HV0 HB HR0 ⊢
  have k0 : w0.cell? ⟨w.heap.size, 0, none⟩ = some (.slice A n1 c) := X.out.cell 0
  have k1 : w0.cell? ⟨w.heap.size, 1, none⟩ = some (.slice B m1 d) := X.out.cell 1
  go_wp2_with fail
  clear k0 k1
  rcases HA.out with ⟨h1, rfl, rfl, rfl⟩ | ⟨h1, h2, rfl, rfl, rfl⟩ | ⟨h1, h2, h3, rfl, rfl, rfl⟩ | ⟨h1, h2, h3, h4⟩
  · obtain rfl : 0 = n := Hn.out
    obtain rfl : 0 = m := Hm.out
    have HX := Lib.hid (show MayIs b ps 30 from .inr ⟨h1, rfl⟩)
    refine (check_v A B n1 c m1 d b ps 30 _ HV0 HX).mono ?_
    rintro e w1 ⟨rfl, hb1⟩
    have X1 := Lib.hid (X.out.below hb1 X.out.lt)
    have Y1 := Lib.hid (Y.out.below hb1 Y.out.lt)
    have HV1 := Lib.hid (HV0.out.below hb1)
    have HR1 := Lib.hid (HR0.out.below hb1)
    have HB1 := Lib.hid (bmore HB.out hb1 (Nat.le_refl _))
    have hYlt := Y1.out.lt
    clear h1 hb1 X Y HV0 HR0 HB HR
    have z0 : w1.cell? ⟨w.heap.size + 1, 0, none⟩ = some (.slice none 0 0) := Y1.out.cell 0
    have z1 : w1.cell? ⟨w.heap.size + 1, 1, none⟩ = some (.slice none 0 0) := Y1.out.cell 1
    have z2 : w1.frozen? ⟨w.heap.size + 1, 0, none⟩ = false := Y1.out.frozen 0
    have z3 : w1.frozen? ⟨w.heap.size + 1, 1, none⟩ = false := Y1.out.frozen 1
    go_wp2_with fail
    exact bodyPost_ret (v := .tuple #[.agg #[.slice none 0 0, .slice none 0 0], .int .i64 30]) (by simp [results, Try.results11, go_sem, z0, z1]) rfl ⟨_, _, _, _, rfl, DiskOwn.zero, below_put HB1.out (by omega) _ _⟩
  · obtain rfl : 0 = n := Hn.out
    obtain rfl : 0 = m := Hm.out
    have HX := Lib.hid (show MayIs b ps 0 from .inl ⟨h1, rfl⟩)
    refine (check_v A B n1 c m1 d b ps 0 _ HV0 HX).mono ?_
    rintro e w1 ⟨rfl, hb1⟩
    have X1 := Lib.hid (X.out.below hb1 X.out.lt)
    have Y1 := Lib.hid (Y.out.below hb1 Y.out.lt)
    have HV1 := Lib.hid (HV0.out.below hb1)
    have HR1 := Lib.hid (HR0.out.below hb1)
    have HB1 := Lib.hid (bmore HB.out hb1 (Nat.le_refl _))
    have hYlt := Y1.out.lt
    clear h1 hb1 X Y HV0 HR0 HB HR
    have HJ := Lib.hid (show JoinIs ls [] 0 4 from ⟨rfl, .inr (.inr ⟨h2, rfl, rfl⟩)⟩)
    go_wp2_with fail
    refine (join_ans L nl cl ls [] 0 4 _ HJ.out HR1.out HSm.out HNl.out).mono ?_
    rintro e w2 ⟨A2, c2, rfl, hr2, l1, l2, hb2⟩
    have X2 := Lib.hid (X1.out.below hb2 X1.out.lt)
    have Y2 := Lib.hid (Y1.out.below hb2 Y1.out.lt)
    have HV2 := Lib.hid (HV1.out.below hb2)
    have HB2 := Lib.hid (bmore HB1.out hb2 (Nat.le_refl _))
    have HJr := Lib.hid hr2
    have HL2 := Lib.hid l2
    have hYlt2 := Y2.out.lt
    clear hr2 l2 hb2 X1 Y1 HV1 HR1 HB1
    have z0 : w2.cell? ⟨w.heap.size + 1, 0, none⟩ = some (.slice none 0 0) := Y2.out.cell 0
    have z1 : w2.cell? ⟨w.heap.size + 1, 1, none⟩ = some (.slice none 0 0) := Y2.out.cell 1
    have z2 : w2.frozen? ⟨w.heap.size + 1, 0, none⟩ = false := Y2.out.frozen 0
    have z3 : w2.frozen? ⟨w.heap.size + 1, 1, none⟩ = false := Y2.out.frozen 1
    go_wp2_with fail
    exact bodyPost_ret (v := .tuple #[.agg #[.slice none 0 0, .slice none 0 0], .int .i64 4]) (by simp [results, Try.results11, go_sem, z0, z1]) rfl ⟨_, _, _, _, rfl, DiskOwn.zero, below_put HB2.out (by omega) _ _⟩
  · obtain rfl : 0 = n := Hn.out
    obtain rfl : 0 = m := Hm.out
    have HX := Lib.hid (show MayIs b ps 0 from .inl ⟨h1, rfl⟩)
    refine (check_v A B n1 c m1 d b ps 0 _ HV0 HX).mono ?_
    rintro e w1 ⟨rfl, hb1⟩
    have X1 := Lib.hid (X.out.below hb1 X.out.lt)
    have Y1 := Lib.hid (Y.out.below hb1 Y.out.lt)
    have HV1 := Lib.hid (HV0.out.below hb1)
    have HR1 := Lib.hid (HR0.out.below hb1)
    have HB1 := Lib.hid (bmore HB.out hb1 (Nat.le_refl _))
    have hYlt := Y1.out.lt
    clear h1 hb1 X Y HV0 HR0 HB HR
    have HJ := Lib.hid (show JoinIs ls [] 0 3 from ⟨rfl, .inr (.inl ⟨h2, h3, rfl, rfl⟩)⟩)
    go_wp2_with fail
    refine (join_ans L nl cl ls [] 0 3 _ HJ.out HR1.out HSm.out HNl.out).mono ?_
    rintro e w2 ⟨A2, c2, rfl, hr2, l1, l2, hb2⟩
    have X2 := Lib.hid (X1.out.below hb2 X1.out.lt)
    have Y2 := Lib.hid (Y1.out.below hb2 Y1.out.lt)
    have HV2 := Lib.hid (HV1.out.below hb2)
    have HB2 := Lib.hid (bmore HB1.out hb2 (Nat.le_refl _))
    have HJr := Lib.hid hr2
    have HL2 := Lib.hid l2
    have hYlt2 := Y2.out.lt
    clear hr2 l2 hb2 X1 Y1 HV1 HR1 HB1
    have z0 : w2.cell? ⟨w.heap.size + 1, 0, none⟩ = some (.slice none 0 0) := Y2.out.cell 0
    have z1 : w2.cell? ⟨w.heap.size + 1, 1, none⟩ = some (.slice none 0 0) := Y2.out.cell 1
    have z2 : w2.frozen? ⟨w.heap.size + 1, 0, none⟩ = false := Y2.out.frozen 0
    have z3 : w2.frozen? ⟨w.heap.size + 1, 1, none⟩ = false := Y2.out.frozen 1
    go_wp2_with fail
    exact bodyPost_ret (v := .tuple #[.agg #[.slice none 0 0, .slice none 0 0], .int .i64 3]) (by simp [results, Try.results11, go_sem, z0, z1]) rfl ⟨_, _, _, _, rfl, DiskOwn.zero, below_put HB2.out (by omega) _ _⟩
  · obtain ⟨nj, hnj⟩ : ∃ nj, (NM.join ls).length = nj := ⟨_, rfl⟩
    have HLen := Lib.hid h4
    have HX := Lib.hid (show MayIs b ps 0 from .inl ⟨h1, rfl⟩)
    refine (check_v A B n1 c m1 d b ps 0 _ HV0 HX).mono ?_
    rintro e w1 ⟨rfl, hb1⟩
    have X1 := Lib.hid (X.out.below hb1 X.out.lt)
    have Y1 := Lib.hid (Y.out.below hb1 Y.out.lt)
    have HV1 := Lib.hid (HV0.out.below hb1)
    have HR1 := Lib.hid (HR0.out.below hb1)
    have HB1 := Lib.hid (bmore HB.out hb1 (Nat.le_refl _))
    have hYlt := Y1.out.lt
    clear h1 hb1 X Y HV0 HR0 HB HR
    have HJ := Lib.hid (show JoinIs ls (NM.join ls) nj 0 from ⟨hnj, .inl ⟨h2, h3, rfl, rfl⟩⟩)
    go_wp2_with fail
    refine (join_ans L nl cl ls (NM.join ls) nj 0 _ HJ.out HR1.out HSm.out HNl.out).mono ?_
    rintro e w2 ⟨A2, c2, rfl, hr2, l1, l2, hb2⟩
    have X2 := Lib.hid (X1.out.below hb2 X1.out.lt)
    have Y2 := Lib.hid (Y1.out.below hb2 Y1.out.lt)
    have HV2 := Lib.hid (HV1.out.below hb2)
    have HB2 := Lib.hid (bmore HB1.out hb2 (Nat.le_refl _))
    have HJr := Lib.hid hr2
    have HL2 := Lib.hid l2
    have hYlt2 := Y2.out.lt
    clear hr2 l2 hb2 X1 Y1 HV1 HR1 HB1
    have k0 : w2.cell? ⟨w.heap.size, 0, none⟩ = some (.slice A n1 c) := X2.out.cell 0
    have k1 : w2.cell? ⟨w.heap.size, 1, none⟩ = some (.slice B m1 d) := X2.out.cell 1
    clear h4 h3 hnj
    go_wp2_with fail
    refine (swap_s _ A2 nj c2 b (NM.join ls) b' ps ps' x n m _ HV2 HJr l1 HL2 HLen Hn Hm).mono ?_
    rintro e w3 ⟨A3, c3, B3, d3, rfl, hown3, hb3⟩
    have Y3 := Lib.hid (Y2.out.below hb3 Y2.out.lt)
    have HB3 := Lib.hid (bmore HB2.out hb3 (Nat.le_refl _))
    have HO3 := Lib.hid hown3
    clear hown3 hb3 k0 k1
    have z0 : w3.cell? ⟨w.heap.size + 1, 0, none⟩ = some (.slice none 0 0) := Y3.out.cell 0
    have z1 : w3.cell? ⟨w.heap.size + 1, 1, none⟩ = some (.slice none 0 0) := Y3.out.cell 1
    have z2 : w3.frozen? ⟨w.heap.size + 1, 0, none⟩ = false := Y3.out.frozen 0
    have z3 : w3.frozen? ⟨w.heap.size + 1, 1, none⟩ = false := Y3.out.frozen 1
    go_wp2_with fail
    exact bodyPost_ret (v := .tuple #[.agg #[.slice A3 n c3, .slice B3 m d3], .int .i64 x]) (by simp [results, Try.results11, go_sem, z0, z1]) rfl ⟨_, _, _, _, rfl, (HO3.out.put (by omega) _ _).mono (by omega), below_put HB3.out (by omega) _ _⟩
end Go.Proofs.Ytkdnkaiknmcfmaa
