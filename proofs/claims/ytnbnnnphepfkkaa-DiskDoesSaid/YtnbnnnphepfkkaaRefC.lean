/-
  What Crash of the document's disks answers. Conditions: the disk's slices read as bytes and writes; all its bytes together are no more than one slice may have.
-/
import Derived.Test.YtnbnnnphepfkkaaRefB
import Derived.Lib.MinMax
import Derived.Deep.RegionHeld3
namespace Go.Proofs.Ytnbnnnphepfkkaa
open Go.RowKit
set_option linter.unusedVariables false

theorem step_append_rd {P : Program} (w : World) {ops : Array Oper} {o : Oper} {a : Act} {K : Act → World → Prop} {Q : Exit → Act → World → Prop} {E : Prop} (hgd : o.guard = none) (so xo : Operand) (t : TypeId)
    (ho : o.op = .call { callee := .builtin .append, args := #[so, xo], argTypes := #[t, t] })
    (base : Nat) (e : TypeId) (i : TypeInfo) (z : Value) (bytes : Nat) (ht : P.underlying t = some (.slice e)) (hi : P.info? e = some i) (hz : i.zero = some z) (hsize : i.size = 1) (hby : i.bytes = bytes) (hzs : z.cells.size = 1)
    (A0 : Option Addr) (n c0 : Nat) (xs : List Value) (hs : a.eval so = .slice A0 n c0) (hown : w.ownsRow base e 1 (.slice A0 n c0) n xs) (A : Option Addr) (m c : Nat) (news : List Value) (hx : a.eval xo = .slice A m c) (hr : Rd w A m news) (h1 : ∀ u ∈ news, u.oneCell' = true)
    (h63 : n + m ≤ maxLen) (hbytes : (n + m) * bytes ≤ 140737488355328) (hbase : base ≤ w.heap.size) (L : Nat) (hL : n + m = L)
    (h : ∀ A' c' w', w'.ownsRow base e 1 (.slice A' L c') L (xs ++ news) → w.grownBy w' (Value.ownBlock (.slice A0 n c0)) → K (a.put o.dst (.slice A' L c')) w') :
    if Region.wanted o (yielded ops a.tmps) = true then Oper.wp P o a w K Q else E := by
  have hw : Region.wanted o (yielded ops a.tmps) = true := by simp [Region.wanted, hgd]
  rw [if_pos hw]
  obtain ⟨v', w', hrun, h2, h3, h4⟩ := run_append_rd (P := P) w base t o.type e i z bytes ht hi hz hsize hby hzs (.slice A0 n c0) n xs hown A m c news hr h1 h63 hbytes hbase
  rw [hL] at h2
  obtain ⟨A', c', rfl, _, _⟩ := own_slice h2
  unfold Oper.wp execOp
  simp only [ho, resolve, invoke, builtin, Sem.run_bind, Sem.run_pure, Result.andThen_ok, List.map_toArray, List.map_cons, List.map_nil, hs, hx, hrun]
  exact h A' c' w' h2 h3

set_option maxRecDepth 100000 in
set_option maxHeartbeats 4000000 in
theorem refCrash_any (v : Value) (b r : List UInt8) (ps : List DM.Wr) (keep most x : Int) (nr : Nat) (w : World) (HV : Hid (DiskIs w v b ps)) (HT : Hid (DM.total b ps ≤ 140737488355328)) (HS : Hid (CrashIs b ps keep most r x))
    (hk1 : -9223372036854775808 ≤ keep) (hk2 : keep ≤ 9223372036854775807) (hm1 : -9223372036854775808 ≤ most) (hm2 : most ≤ 9223372036854775807) (HNr : Hid (r.length = nr)) :
    Calls Try.prog 19 #[v, .int .i64 keep, .int .i64 most] w (DAns w r [] nr 0 x) := by
  obtain ⟨i0, hi, hz0, hz1, hz2⟩ := info_parts info_u8
  obtain ⟨A, n, c, B, m, d, rfl, h1, h2, h3, h4, h5, h6⟩ := HV.out
  have hd : d ≤ 9223372036854775807 := by unfold maxLen at h4; omega
  have HPL := Lib.hid h6.1
  have hB0 : Below w.heap.size w ((w.alloc (.cells #[.slice A n c, .slice B m d] 25)).alloc (.cells #[.slice none 0 0, .slice none 0 0] 25)) := ((Below.refl _ _).alloc (Nat.le_refl _) _).alloc (by simp) _
  have V : Hid (Var ((w.alloc (.cells #[.slice A n c, .slice B m d] 25)).alloc (.cells #[.slice none 0 0, .slice none 0 0] 25)) w.heap.size A n c B m d b ps) := Lib.hid ⟨(Box.new _ _ _).alloc _, HV.out.below hB0⟩
  have X : Hid (Box ((w.alloc (.cells #[.slice A n c, .slice B m d] 25)).alloc (.cells #[.slice none 0 0, .slice none 0 0] 25)) (w.heap.size + 1) 25 #[.slice none 0 0, .slice none 0 0]) := Lib.hid (Box.new_at _ (by simp))
  have HB := Lib.hid hB0
  clear h2 h4 h5 h6 hB0 HV
  obtain ⟨gm, hgm⟩ : ∃ gm, GIs gm b ps := ⟨decide (DM.may b ps), by simp [GIs]⟩
  have HGM := Lib.hid hgm
  clear hgm
  go_enter Try.func19, Try.ntmps19
  go_wp2_with fail
  generalize (w.alloc (.cells #[.slice A n c, .slice B m d] 25)).alloc (.cells #[.slice none 0 0, .slice none 0 0] 25) = w0 at V X HB ⊢
  refine (may_any _ b ps gm _ (Lib.hid V.out.2) HT HGM).mono ?_
  rintro e w1 ⟨rfl, hb1⟩
  have V1 := Lib.hid (V.out.below hb1)
  have X1 := Lib.hid (X.out.below hb1 X.out.lt)
  have HB1 := Lib.hid (bmore HB.out hb1 (Nat.le_refl _))
  have z0 : w1.cell? ⟨w.heap.size + 1, 0, none⟩ = some (.slice none 0 0) := X1.out.cell 0
  have z1 : w1.cell? ⟨w.heap.size + 1, 1, none⟩ = some (.slice none 0 0) := X1.out.cell 1
  have z2 : w1.frozen? ⟨w.heap.size + 1, 0, none⟩ = false := X1.out.frozen 0
  have z3 : w1.frozen? ⟨w.heap.size + 1, 1, none⟩ = false := X1.out.frozen 1
  have k0 := V1.out.c0
  have k1 := V1.out.c1
  clear hb1 V X HB
  have hmayg : gm = true ↔ DM.may b ps := HGM.out
  rcases HS.out with ⟨hno, hr, rfl⟩ | ⟨hmay, hbad, hr, rfl⟩ | ⟨hmay, ha1, ha2, ha3, hr, rfl⟩
  · have hgf : gm = false := by cases gm with | true => exact absurd (hmayg.1 rfl) hno | false => rfl
    subst hgf
    have hnr : 0 = nr := by rw [← HNr.out, hr]; rfl
    subst hnr
    have HR := Lib.hid hr
    clear hmayg hno hr HS
    go_wp2
    exact bodyPost_ret (v := .tuple #[.agg #[.slice none 0 0, .slice none 0 0], .int .i64 30]) (by simp [results, Try.results19, go_sem, z0, z1]) rfl ⟨_, _, _, _, rfl, by rw [HR.out]; exact DiskOwn.zero, below_put HB1.out (by omega) _ _⟩
  · have hgt : gm = true := hmayg.2 hmay
    subst hgt
    have hnr : 0 = nr := by rw [← HNr.out, hr]; rfl
    subst hnr
    rw [HPL.out] at hbad
    have hend : ∀ W, W = (w1.setCell ⟨w.heap.size + 1, 0, none⟩ (.slice none 0 0)).setCell ⟨w.heap.size + 1, 1, none⟩ (.slice none 0 0) → DiskOwn W w.heap.size 5 40 (.agg #[.slice none 0 0, .slice none 0 0]) r [] ∧ Below w.heap.size w W := by
      rintro W rfl
      rw [hr]
      exact ⟨DiskOwn.zero, below_put HB1.out (by omega) _ _⟩
    have HE := Lib.hid hend
    clear hmayg hmay hr HS hend
    by_cases q1 : keep < 0
    · have q1' : decide (keep < 0) = true := by simpa using q1
      clear hbad
      go_wp2
      exact bodyPost_ret (v := .tuple #[.agg #[.slice none 0 0, .slice none 0 0], .int .i64 2]) (by simp [results, Try.results19, go_sem, z0, z1]) rfl ⟨_, _, _, _, rfl, HE.out _ rfl⟩
    by_cases q2 : (m : Int) < keep
    · clear hbad
      go_wp2
      exact bodyPost_ret (v := .tuple #[.agg #[.slice none 0 0, .slice none 0 0], .int .i64 2]) (by simp [results, Try.results19, go_sem, z0, z1]) rfl ⟨_, _, _, _, rfl, HE.out _ rfl⟩
    · have q3 : most < 0 := by omega
      clear hbad
      go_wp2
      exact bodyPost_ret (v := .tuple #[.agg #[.slice none 0 0, .slice none 0 0], .int .i64 2]) (by simp [results, Try.results19, go_sem, z0, z1]) rfl ⟨_, _, _, _, rfl, HE.out _ rfl⟩
  have hgt : gm = true := hmayg.2 hmay
  subst hgt
  rw [HPL.out] at ha2
  obtain ⟨kn, rfl⟩ := Int.eq_ofNat_of_zero_le ha1
  obtain ⟨mn, rfl⟩ := Int.eq_ofNat_of_zero_le ha3
  have hr' : r = DM.behind b (DM.left ps kn mn) := hr
  have hkm : kn ≤ m := by omega
  have hm1024 : m ≤ 1024 := by have := hmay.1; rw [HPL.out] at this; exact this
  have hfit := hmay.2 kn (by rw [HPL.out]; exact hkm)
  have hkl : kn ≤ ps.length := by rw [HPL.out]; exact hkm
  obtain ⟨n9, hn9⟩ : ∃ k, (DM.behind b (ps.take kn)).length = k := ⟨_, rfl⟩
  rw [hn9] at hfit
  have HN9 := Lib.hid hn9
  have HR := Lib.hid hr'
  have hmm : mn ≤ 9223372036854775807 := by omega
  have HMay := Lib.hid hmay
  have q1 : ¬ ((kn : Int) < 0) := by omega
  have q2 : ¬ ((m : Int) < (kn : Int)) := by omega
  have q3 : ¬ ((mn : Int) < 0) := by omega
  clear hmayg hmay hr hr' HS ha1 ha2 ha3 hk1 hk2 hm1 hm2 hn9
  go_wp2_with fail
  refine (done_any _ b ps kn n9 _ (Lib.hid V1.out.2) HT hkl HN9).mono ?_
  rintro e w2 ⟨A2, c2, g2, rfl, hown, _, hb2⟩
  have V2 := Lib.hid (V1.out.below hb2)
  have X2 := Lib.hid (X1.out.below hb2 X1.out.lt)
  have HB2 := Lib.hid (bmore HB1.out hb2 (Nat.le_refl _))
  have HO := Lib.hid hown
  have hlt1 : w.heap.size + 1 < w1.heap.size := X1.out.lt
  have hs2 := hb2.size
  have HB12 := Lib.hid hb2
  have hvi := V1.out.2
  obtain ⟨A', n', c', B', m', d', e', _, _, _, _, _, hw6⟩ := hvi
  simp at e'
  obtain ⟨⟨rfl, rfl, rfl⟩, rfl, rfl, rfl⟩ := e'
  have HW6 := Lib.hid hw6
  clear z0 z1 z2 z3 k0 k1 hown hb2 V1 X1 HB1 hw6
  have k1 := V2.out.c1
  by_cases hkm2 : kn = m
  · have hres : r = DM.behind b (ps.take kn) := by rw [HR.out, DM.left_end (by rw [HPL.out]; omega)]
    have hnn : n9 = nr := by rw [← HN9.out, ← HNr.out, hres]
    subst hnn
    have ho : w2.ownsRow w1.heap.size 5 1 (.slice A2 n9 c2) r.length (bc r) := by rw [HNr.out, hres]; exact HO.out
    have HO2 := Lib.hid ho
    clear hres ho HO
    subst hkm2
    have z0 : w2.cell? ⟨w.heap.size + 1, 0, none⟩ = some (.slice none 0 0) := X2.out.cell 0
    have z1 : w2.cell? ⟨w.heap.size + 1, 1, none⟩ = some (.slice none 0 0) := X2.out.cell 1
    have z2 : w2.frozen? ⟨w.heap.size + 1, 0, none⟩ = false := X2.out.frozen 0
    have z3 : w2.frozen? ⟨w.heap.size + 1, 1, none⟩ = false := X2.out.frozen 1
    have q4 : ¬ (kn < kn) := by omega
    go_wp2
    exact bodyPost_ret (v := .tuple #[.agg #[.slice A2 n9 c2, .slice none 0 0], .int .i64 0]) (by simp [results, Try.results19, go_sem, z0, z1]) rfl ⟨_, _, _, _, rfl, ((DiskOwn.data HO2.out).put (by omega) _ _).mono (by omega), below_put HB2.out (by omega) _ _⟩
  have hlt : kn < m := by omega
  obtain ⟨bl, o, Ai, ci, s, dd, rfl, hadb, hps, hc0', hc1', g1, g2', hrd'⟩ := HW6.out.at_ hlt
  have hc0 := (HB12.out.cell (p := ⟨bl, o + kn * 2, none⟩) hadb).trans hc0'
  have hc1 := (HB12.out.cell (p := ⟨bl, o + kn * 2 + 1, none⟩) hadb).trans hc1'
  have hrd := hrd'.below HB12.out
  clear hc0' hc1' hrd'
  obtain ⟨hltp, he⟩ := List.getElem?_eq_some_iff.1 hps
  have i0' : (0 : Int) ≤ (kn : Int) := by omega
  have i1 : (kn : Int) < (m : Int) := by omega
  cases s with
  | true =>
    have hres : r = DM.behind b (ps.take kn) := by rw [HR.out, DM.left_swap hltp (by rw [he])]
    have hnn : n9 = nr := by rw [← HN9.out, ← HNr.out, hres]
    subst hnn
    have ho : w2.ownsRow w1.heap.size 5 1 (.slice A2 n9 c2) r.length (bc r) := by rw [HNr.out, hres]; exact HO.out
    have HO2 := Lib.hid ho
    clear hres ho HO hps he g1 g2' hrd
    have z0 : w2.cell? ⟨w.heap.size + 1, 0, none⟩ = some (.slice none 0 0) := X2.out.cell 0
    have z1 : w2.cell? ⟨w.heap.size + 1, 1, none⟩ = some (.slice none 0 0) := X2.out.cell 1
    have z2 : w2.frozen? ⟨w.heap.size + 1, 0, none⟩ = false := X2.out.frozen 0
    have z3 : w2.frozen? ⟨w.heap.size + 1, 1, none⟩ = false := X2.out.frozen 1
    go_wp2
    exact bodyPost_ret (v := .tuple #[.agg #[.slice A2 n9 c2, .slice none 0 0], .int .i64 0]) (by simp [results, Try.results19, go_sem, z0, z1]) rfl ⟨_, _, _, _, rfl, ((DiskOwn.data HO2.out).put (by omega) _ _).mono (by omega), below_put HB2.out (by omega) _ _⟩
  | false =>
    obtain ⟨y, hy⟩ : ∃ y, y = min mn dd.length := ⟨_, rfl⟩
    obtain ⟨x, hx⟩ : ∃ x, x = dd.length := ⟨_, rfl⟩
    have hres : r = DM.behind b (ps.take kn) ++ dd.take mn := by rw [HR.out, DM.left_torn hltp (by rw [he]), DM.behind_snoc, he]; simp [DM.step]
    have hrd2 : Rd w2 Ai y (bc (dd.take mn)) := by
      have := hrd.front (k := y) (by omega)
      rw [bc_take] at this
      rw [show dd.take mn = dd.take y by rw [hy]; simp [List.take_eq_take_iff]]
      exact this
    have hyl : (dd.take mn).length = y := by rw [List.length_take, hy]
    have hnr : n9 + y = nr := by rw [← HNr.out, hres, List.length_append, HN9.out, hyl]
    rw [← hx] at hc1 g1 hy
    have hfin : ∀ (A3 : Option Addr) (c3 : Nat) (w3 : World), w3.ownsRow w1.heap.size 5 1 (.slice A3 nr c3) nr (bc (DM.behind b (ps.take kn)) ++ bc (dd.take mn)) → w3.ownsRow w1.heap.size 5 1 (.slice A3 nr c3) r.length (bc r) := by
      intro A3 c3 w3 h
      rw [HNr.out, hres, bc_append]; exact h
    have HFin := Lib.hid hfin
    have HR2 := Lib.hid hrd2
    have hyx : y ≤ x := by omega
    have hmin : min (mn : Int) (x : Int) = (y : Int) := by omega
    have hci : ci ≤ 9223372036854775807 := by unfold maxLen at g2'; omega
    have hr20 : nr ≤ 1048576 := by
      have := DM.fits_all (DM.fits_left HMay.out.2 kn mn)
      rw [← HR.out, HNr.out] at this
      exact this
    have hy20 : n9 + y ≤ 1048576 := by rw [hnr]; exact hr20
    have HNN := Lib.hid hnr
    have hown_lt := own_block_ge HO.out
    have HOB := Lib.hid hown_lt
    have hne1 : Value.ownBlock (.slice A2 n9 c2) ≠ some w.heap.size := fun e => by have := HOB.out _ e; omega
    have hne2 : Value.ownBlock (.slice A2 n9 c2) ≠ some bl := fun e => by have := HOB.out _ e; omega
    have hne3 : Value.ownBlock (.slice A2 n9 c2) ≠ some (w.heap.size + 1) := fun e => by have := HOB.out _ e; omega
    clear hx hrd2 hyl hrd hres he hps g2' hfin hnr hown_lt
    have HY := Lib.hid hy; clear hy
    have hy0 : (0 : Int) ≤ (y : Int) := by omega
    have hy1 : (y : Int) ≤ (ci : Int) := by omega
    have hgl := V2.out.lt
    go_upto_region 7 with (fail)
    go_region_held3 (fun w' => w'.cell? ⟨w.heap.size, 1, none⟩ = some (.slice (some ⟨bl, o, none⟩) m d) ∧ w'.cell? ⟨bl, o + kn * 2 + 1, none⟩ = some (.slice Ai x ci))
      (first | exact ⟨a1, a2⟩ | go_keep)
      ((refine step_append_rd _ (by rfl) _ _ 22 (by rfl) w1.heap.size 5 i0 _ 1 Try.underlying22 hi hz0 hz1 hz2 rfl A2 n9 c2 (bc (DM.behind b (ps.take kn))) (by rfl) HO.out.drew Ai y ci (bc (dd.take mn)) (by rfl) HR2.out.drew (bc_one _) (by unfold maxLen; omega) (by omega) hs2 nr HNN.out ?_; intro A3 c3 w3 hown3 hg3; have a1 : w3.cell? ⟨w.heap.size, 1, none⟩ = some (.slice (some ⟨bl, o, none⟩) m d) := hg3.cell k1 (Ne.symm hne1); have a2 : w3.cell? ⟨bl, o + kn * 2 + 1, none⟩ = some (.slice Ai x ci) := hg3.cell hc1 (Ne.symm hne2)))
    have ho := HFin.out _ _ _ hown3
    have x3 := box_grown X2.out.drew hg3 hne3
    have hB3 : Below w.heap.size w w3 := (HB2.out.drew).grown hg3 (by have := HB2.out.size; exact this) (fun g e => by have := HOB.out g e; omega)
    have HO2 := Lib.hid ho
    have HB3 := Lib.hid hB3
    have z0 : w3.cell? ⟨w.heap.size + 1, 0, none⟩ = some (.slice none 0 0) := x3.cell 0
    have z1 : w3.cell? ⟨w.heap.size + 1, 1, none⟩ = some (.slice none 0 0) := x3.cell 1
    have z2 : w3.frozen? ⟨w.heap.size + 1, 0, none⟩ = false := x3.frozen 0
    have z3 : w3.frozen? ⟨w.heap.size + 1, 1, none⟩ = false := x3.frozen 1
    clear hown3 hg3 x3 hB3 ho
    go_wp2
    exact bodyPost_ret (v := .tuple #[.agg #[.slice A3 nr c3, .slice none 0 0], .int .i64 0]) (by simp [results, Try.results19, go_sem, z0, z1]) rfl ⟨_, _, _, _, rfl, ((DiskOwn.data HO2.out).put (by omega) _ _).mono (by omega), below_put HB3.out (by omega) _ _⟩
end Go.Proofs.Ytnbnnnphepfkkaa
