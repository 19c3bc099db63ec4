/-
  The walk of DiskKeeps: behind a sync a crash loses nothing; of appends that wait a beginning is left.
-/
import Derived.Test.YtnbnnnphepfkkaaDiskSwapsW
namespace Go.Proofs.Ytnbnnnphepfkkaa
open Go.RowKit
set_option linter.unusedVariables false

theorem RowsArg.at_ {w : World} {Ar : Option Addr} {N cap k : Nat} {ls : List (List UInt8)} (h : RowsArg w Ar N cap ls) (hk : k < N) :
    ∃ bl o Ak nk ck lk, Ar = some ⟨bl, o, none⟩ ∧ bl < w.heap.size ∧ w.cell? ⟨bl, o + k, none⟩ = some (.slice Ak nk ck) ∧ nk ≤ ck ∧ ck ≤ maxLen ∧ Rd w Ak nk (bc lk) := by
  obtain ⟨h1, h2, h3, vs, h4, h5⟩ := h
  obtain ⟨ad, e, hb, hc⟩ := h4.2 (by omega)
  have hkv : k < vs.length := by have := h4.1; omega
  have hkl : k < ls.length := by omega
  obtain ⟨A, c, e1, g1, g2, g3⟩ := h5 k _ _ (List.getElem?_eq_getElem hkv) (List.getElem?_eq_getElem hkl)
  have c0 := hc 0 _ (List.getElem?_eq_getElem (by omega))
  have ck := hc k _ (List.getElem?_eq_getElem hkv)
  obtain ⟨bl, o, sp⟩ := ad
  have hsp : sp = none := by
    have := World.cell?_spot c0
    simpa [Addr.add] using this
  subst hsp
  rw [e1] at ck
  refine ⟨bl, o, A, _, c, ls[k], e, hb, ?_, g1, g2, g3⟩
  rw [← ck]; unfold Addr.add; split <;> simp_all

theorem block_ne {w : World} {ad : Addr} {gx : Nat} {t : TypeId} {cs : Array Value} {v : Value} (hb : Box w gx t cs) (h : w.cell? ad = some v) (hv : ∀ (j : Nat) (u : Value), cs[j]? = some u → u ≠ v) : ad.block ≠ gx := by
  intro e
  obtain ⟨bl, o, sp⟩ := ad
  simp only at e
  subst e
  have hsp : sp = none := by have := World.cell?_spot h; simpa using this
  subst hsp
  rw [hb.cell o] at h
  exact hv o v h rfl
theorem rd_far {w : World} {A : Option Addr} {n gx i : Nat} {b : List UInt8} {t : TypeId} {x y u : Value} (h : Rd w A n (bc b)) (hb : Box w gx t #[x, y]) (hx : ∀ z, x ≠ .int .u8 z) (hy : ∀ z, y ≠ .int .u8 z) : Rd (w.setCell ⟨gx, i, none⟩ u) A n (bc b) := by
  refine ⟨h.1, fun hn => ?_⟩
  obtain ⟨ad, e, hB, hc⟩ := h.2 hn
  have hbl : 0 < b.length := by have := h.1; rw [bc_length] at this; omega
  have h0 := hc 0 _ (bc_get b 0 hbl)
  have hne : ad.block ≠ gx := by
    have := block_ne hb h0 (fun j u hu => by
      match j, hu with
      | 0, hu => simp at hu; subst hu; exact hx _
      | 1, hu => simp at hu; subst hu; exact hy _
      | j + 2, hu => simp at hu)
    rwa [block_of_add] at this
  refine ⟨ad, e, by simpa using hB, fun j u' hu => ?_⟩
  rw [World.cell?_setCell_other w ⟨gx, i, none⟩ (ad.add j) u (fun e => hne (by have := congrArg Addr.block e; rw [block_of_add] at this; simpa using this.symm))]
  exact hc j u' hu
theorem disk_far {w : World} {v : Value} {b : List UInt8} {ps : List DM.Wr} {gx i : Nat} {t : TypeId} {A1 B1 : Option Addr} {n1 c1 m1 d1 : Nat} {u : Value} (h : DiskIs w v b ps) (hb : Box w gx t #[.slice A1 n1 c1, .slice B1 m1 d1]) : DiskIs (w.setCell ⟨gx, i, none⟩ u) v b ps := by
  obtain ⟨A, n, c, B, m, d, h1, h2, h3, h4, h5, h6, h7, l, h8, h9⟩ := h
  refine ⟨A, n, c, B, m, d, h1, h2, h3, h4, h5, rd_far h6 hb (by simp) (by simp), h7, l, ⟨h8.1, fun hn => ?_⟩, h9.1, fun j p q hp hq => ?_⟩
  · obtain ⟨ad, e, hB, hc⟩ := h8.2 hn
    have hl0 : 0 < l.length := by have := h8.1; rw [pc_length] at this; omega
    have h0 := hc 0 _ (pc_even l 0 _ (List.getElem?_eq_getElem hl0))
    have hne : ad.block ≠ gx := by
      have := block_ne hb h0 (fun j u hu => by
        match j, hu with
        | 0, hu => simp at hu; subst hu; simp
        | 1, hu => simp at hu; subst hu; simp
        | j + 2, hu => simp at hu)
      rwa [block_of_add] at this
    refine ⟨ad, e, by simpa using hB, fun j u' hu => ?_⟩
    rw [World.cell?_setCell_other w ⟨gx, i, none⟩ (ad.add j) u (fun e => hne (by have := congrArg Addr.block e; rw [block_of_add] at this; simpa using this.symm))]
    exact hc j u' hu
  · obtain ⟨g1, A', c', g2, g3, g4, g5⟩ := h9.2 j p q hp hq
    exact ⟨g1, A', c', g2, g3, g4, rd_far g5 hb (by simp) (by simp)⟩
theorem disk_put {w : World} {v : Value} {b : List UInt8} {ps : List DM.Wr} {gx : Nat} {t : TypeId} {A1 B1 A2 B2 : Option Addr} {n1 c1 m1 d1 n2 c2 m2 d2 : Nat} (h : DiskIs w v b ps) (hb : Box w gx t #[.slice A1 n1 c1, .slice B1 m1 d1]) :
    DiskIs ((w.setCell ⟨gx, 0, none⟩ (.slice A2 n2 c2)).setCell ⟨gx, 1, none⟩ (.slice B2 m2 d2)) v b ps := by
  have hb2 : Box (w.setCell ⟨gx, 0, none⟩ (.slice A2 n2 c2)) gx t #[.slice A2 n2 c2, .slice B1 m1 d1] := by
    have := hb.stored 0 (.slice A2 n2 c2)
    simpa using this
  exact disk_far (disk_far h hb) hb2

/-- the loop's word: x is a disk of rs and of appends that wait; s is as it was -/
def KRel (w : World) (gx gs : Nat) (As : Option Addr) (ns cs : Nat) (Bs : Option Addr) (ds : Nat) (rs : List UInt8) (wr : World) : Prop :=
  Below w.heap.size w wr ∧ w.heap.size ≤ gx ∧ Var wr gs As ns cs Bs 0 ds rs [] ∧ gs ≠ gx ∧ ∃ A n c B m d psx, Var wr gx A n c B m d rs psx ∧ DM.quiet psx ∧ DM.may rs psx
/-- behind the call in a round: the answer lies in a variable of its own -/
def KMid (wr : World) (nb2 np2 : Nat) (b2 : List UInt8) (ps2 : List DM.Wr) (x2 : Int) (u14 u15 : Value) (wx : World) : Prop :=
  ∃ g4 A4 c4 B4 d4, u14 = .pointer (some ⟨g4, 0, none⟩) ∧ u15 = .int .i64 x2 ∧ wr.heap.size ≤ g4 ∧ Below wr.heap.size wr wx ∧ Var wx g4 A4 nb2 c4 B4 np2 d4 b2 ps2
theorem keeps_below {wr w4 : World} {o : Obj} (hb4 : Below (wr.alloc o).drew.heap.size (wr.alloc o).drew w4) : Below wr.heap.size wr w4 :=
  (((Below.refl _ _).alloc (Nat.le_refl _) o).drew).trans (hb4.mono (by show wr.heap.size ≤ (wr.alloc o).heap.size; simp))
theorem keeps_box {wr w4 : World} {t : TypeId} {cs : Array Value} (hb4 : Below (wr.alloc (.cells cs t)).drew.heap.size (wr.alloc (.cells cs t)).drew w4) : Box w4 wr.heap.size t cs :=
  ((Box.new wr t cs).drew).below hb4 (by show wr.heap.size < (wr.alloc (.cells cs t)).heap.size; simp)
theorem kmid1 {wr w4 : World} {nb2 np2 c4 d4 : Nat} {A4 B4 : Option Addr} {b2 : List UInt8} {ps2 : List DM.Wr} {x2 : Int} (hb4 : Below (wr.alloc (.cells #[.slice none 0 0, .slice none 0 0] 25)).drew.heap.size (wr.alloc (.cells #[.slice none 0 0, .slice none 0 0] 25)).drew w4)
    (hown : DiskOwn w4 (wr.alloc (.cells #[.slice none 0 0, .slice none 0 0] 25)).drew.heap.size 5 40 (.agg #[.slice A4 nb2 c4, .slice B4 np2 d4]) b2 ps2) :
    KMid wr nb2 np2 b2 ps2 x2 (.pointer (some ⟨wr.heap.size, 0, none⟩)) (.int .i64 x2) ((w4.setCell ⟨wr.heap.size, 0, none⟩ (.slice A4 nb2 c4)).setCell ⟨wr.heap.size, 1, none⟩ (.slice B4 np2 d4)) :=
  ⟨wr.heap.size, A4, c4, B4, d4, rfl, rfl, Nat.le_refl _, below_put (keeps_below hb4) (Nat.le_refl _) _ _, (keeps_box hb4).put _ _, (hown.put (by show wr.heap.size < (wr.alloc _).heap.size; simp) _ _).is⟩
theorem kmid2 {wr w4 : World} {nb2 np2 c4 d4 : Nat} {A4 B4 : Option Addr} {b2 : List UInt8} {ps2 : List DM.Wr} {x2 : Int} (hb4 : Below wr.drew.heap.size wr.drew w4)
    (hown : DiskOwn w4 wr.drew.heap.size 5 40 (.agg #[.slice A4 nb2 c4, .slice B4 np2 d4]) b2 ps2) :
    KMid wr nb2 np2 b2 ps2 x2 (.pointer (some ⟨w4.heap.size, 0, none⟩)) (.int .i64 x2) (w4.alloc (.cells #[.slice A4 nb2 c4, .slice B4 np2 d4] 25)) := by
  have hb : Below wr.heap.size wr w4 := ((Below.refl _ _).drew).trans hb4
  obtain ⟨h1, h2⟩ := var_step hb hown
  exact ⟨w4.heap.size, A4, c4, B4, d4, rfl, rfl, hb.size, h1, h2⟩
theorem kRel_same {w wr wx : World} {gx gs : Nat} {As : Option Addr} {ns cs : Nat} {Bs : Option Addr} {ds : Nat} {rs : List UInt8} (h : KRel w gx gs As ns cs Bs ds rs wr) (hb : Below wr.heap.size wr wx) : KRel w gx gs As ns cs Bs ds rs wx := by
  obtain ⟨h1, h2, h3, h4, A, n, c, B, m, d, psx, h5, h6, h7⟩ := h
  exact ⟨bmore h1 hb (Nat.le_refl _), h2, h3.below hb, h4, A, n, c, B, m, d, psx, h5.below hb, h6, h7⟩
theorem kRel_next {w wr wx : World} {gx gs g4 : Nat} {As : Option Addr} {ns cs : Nat} {Bs : Option Addr} {ds : Nat} {rs lk : List UInt8} {A4 B4 : Option Addr} {n4 c4 m4 d4 : Nat} {psx : List DM.Wr} (h : KRel w gx gs As ns cs Bs ds rs wr) (hb : Below wr.heap.size wr wx)
    (hv : Var wx g4 A4 n4 c4 B4 m4 d4 rs (psx ++ [(false, lk)])) (hq : DM.quiet psx) (hm : DM.may rs (psx ++ [(false, lk)])) (hg : gx ≠ g4) : KRel w gx gs As ns cs Bs ds rs ((wx.setCell ⟨gx, 0, none⟩ (.slice A4 n4 c4)).setCell ⟨gx, 1, none⟩ (.slice B4 m4 d4)) := by
  obtain ⟨h1, h2, h3, h4, A, n, c, B, m, d, psx', h5, h6, h7⟩ := h
  have h5' := h5.below hb
  have h3' := h3.below hb
  refine ⟨below_put (bmore h1 hb (Nat.le_refl _)) h2 _ _, h2, ⟨h3'.1.putFar h4 _ _, disk_put h3'.2 h5'.1⟩, h4, A4, n4, c4, B4, m4, d4, psx ++ [(false, lk)], ⟨h5'.1.put _ _, disk_put hv.2 h5'.1⟩, ?_, hm⟩
  intro p hp
  rcases List.mem_append.1 hp with hp | hp
  · exact hq p hp
  · simp at hp; subst hp; rfl
theorem keeps_math {rs seen rz : List UInt8} {psx : List DM.Wr} {keep many x4 : Int} (h : CrashIs rs psx keep many rz x4) (hs : seen = DM.behind rs psx) (hm : DM.may rs psx) (hq : DM.quiet psx) :
    (x4 = 2 ∧ (keep < 0 ∨ (psx.length : Int) < keep ∨ many < 0)) ∨ (x4 = 0 ∧ rs.length ≤ rz.length ∧ rz.length ≤ seen.length ∧ rz = seen.take rz.length) := by
  rcases h with ⟨hno, _⟩ | ⟨_, hbad, _, rfl⟩ | ⟨_, _, _, _, hr, rfl⟩
  · exact absurd hm hno
  · exact .inl ⟨rfl, hbad⟩
  · obtain ⟨n, g1, g2, g3⟩ := DM.crash_quiet rs psx hq keep.toNat many.toNat
    rw [← hr, ← hs] at g3
    rw [← hs] at g2
    have hl : rz.length = n := DM.take_len g3 g2
    exact .inr ⟨rfl, by omega, by omega, by rw [hl]; exact g3⟩
theorem keeps_start {w w2 : World} {gs : Nat} {As : Option Addr} {ns cs : Nat} {Bs : Option Addr} {ds : Nat} {rs : List UInt8} (hB : Below w.heap.size w w2) (hV : Var w2 gs As ns cs Bs 0 ds rs []) (hm : DM.may rs []) :
    KRel w w2.heap.size gs As ns cs Bs ds rs (w2.alloc (.cells #[.slice As ns cs, .slice Bs 0 ds] 25)) := by
  have hst : Below w2.heap.size w2 (w2.alloc (.cells #[.slice As ns cs, .slice Bs 0 ds] 25)) := (Below.refl _ _).alloc (Nat.le_refl _) _
  refine ⟨bmore hB hst (Nat.le_refl _), hB.size, hV.below hst, by have := hV.lt; omega, As, ns, cs, Bs, 0, ds, [], ⟨Box.new _ _ _, hV.2.below hst⟩, by simp [DM.quiet], hm⟩

set_option maxRecDepth 100000 in
set_option maxHeartbeats 8000000 in
theorem diskKeeps_core (v : Value) (b : List UInt8) (ps : List DM.Wr) (Ar : Option Addr) (N cap : Nat) (ls : List (List UInt8)) (keep many : Int) (w : World) (HV : Hid (DiskArg w v b ps)) (HRows : Hid (RowsArg w Ar N cap ls))
    (hk1 : -9223372036854775808 ≤ keep) (hk2 : keep ≤ 9223372036854775807) (hm1 : -9223372036854775808 ≤ many) (hm2 : many ≤ 9223372036854775807) :
    Calls Try.prog 6 #[v, .slice Ar N cap, .int .i64 keep, .int .i64 many] w fun e w' => e = .returned (.bool true) ∧ Below w.heap.size w w' := by
  obtain ⟨hv0, hb0, hp0⟩ := HV.out
  obtain ⟨A, n, c, B, m, d, rfl, h1, h2, h3, h4, h5, h6⟩ := hv0
  have hst : Below w.heap.size w (w.alloc (.cells #[.slice A n c, .slice B m d] 25)) := (Below.refl _ _).alloc (Nat.le_refl _) _
  have HW := Lib.hid hst
  have Vd : Hid (Var (w.alloc (.cells #[.slice A n c, .slice B m d] 25)) w.heap.size A n c B m d b ps) := Lib.hid ⟨Box.new _ _ _, HV.out.1.below hst⟩
  have hN9 : N ≤ 9223372036854775807 := by have := HRows.out.1; have := HRows.out.2.1; unfold maxLen at *; omega
  have HB0 := Lib.hid hb0
  have HP0 := Lib.hid hp0
  clear hst h1 h2 h3 h4 h5 h6 HV hb0 hp0
  obtain ⟨rs, x0, hse⟩ := seeIs_ex b ps
  obtain ⟨n_rs, hn_rs⟩ : ∃ k, rs.length = k := ⟨_, rfl⟩
  have HNrs := Lib.hid hn_rs; clear hn_rs
  have HSE := Lib.hid hse; clear hse
  go_enter Try.func6, Try.ntmps6
  go_wp2_with fail
  generalize w.alloc (.cells #[.slice A n c, .slice B m d] 25) = u0 at Vd HW ⊢
  generalize hgd : w.heap.size = gd at Vd ⊢
  have HGD := Lib.hid hgd; clear hgd
  refine (alive_any _).mono ?_
  rintro e w1 ⟨rfl, hb⟩
  have Vd_ := Lib.hid (Vd.out.below hb)
  have HW_ := Lib.hid (bmore HW.out hb (Nat.le_refl _))
  clear HW Vd
  have Vd := Vd_; clear Vd_
  have HW := HW_; clear HW_
  clear hb
  have k0d := Vd.out.c0
  have k1d := Vd.out.c1
  go_wp2_with fail
  clear k0d k1d
  refine (sync_s _ b rs ps n_rs x0 _ (Lib.hid Vd.out.2) HSE HNrs).mono ?_
  rintro e ws ⟨As, cs, Bs, ds, rfl, hown, hb⟩
  obtain ⟨hst, vs⟩ := var_step hb hown
  have Vd_ := Lib.hid (Vd.out.below hst)
  have HW_ := Lib.hid (bmore HW.out hst (Nat.le_refl _))
  clear HW Vd
  have Vd := Vd_; clear Vd_
  have HW := HW_; clear HW_
  have Vs := Lib.hid vs
  clear hown hb hst vs
  have k0d := Vd.out.c0
  have k1d := Vd.out.c1
  go_wp2_with fail
  clear k0d k1d
  generalize ws.alloc (.cells #[.slice As n_rs cs, .slice Bs 0 ds] 25) = us at Vd Vs HW ⊢
  generalize ws.heap.size = gs at Vs ⊢
  refine (great_any _ b ps _ (Lib.hid Vd.out.2) HB0.out HP0).mono ?_
  rintro e w2 ⟨gr, rfl, _, hb⟩
  have Vd_ := Lib.hid (Vd.out.below hb)
  have Vs_ := Lib.hid (Vs.out.below hb)
  have HW_ := Lib.hid (bmore HW.out hb (Nat.le_refl _))
  clear HW Vd Vs
  have Vd := Vd_; clear Vd_
  have Vs := Vs_; clear Vs_
  have HW := HW_; clear HW_
  clear hb
  cases gr with
  | true =>
    go_wp2
    go_ret
    exact ⟨rfl, HW.out⟩
  | false =>
  by_cases hbig : 300 < N
  · go_wp2
    go_ret
    exact ⟨rfl, HW.out⟩
  rcases HSE.out with ⟨hmay, hrs, rfl⟩ | ⟨_, _, rfl⟩
  rotate_left
  · go_wp2
    go_ret
    exact ⟨rfl, HW.out⟩
  have hmay0 : DM.may rs [] := DM.may_nil.2 (by rw [hrs]; exact DM.fits_all hmay.2)
  have hrs20 : n_rs ≤ 1048576 := by rw [← HNrs.out]; exact DM.may_nil.1 hmay0
  have ks0 := Vs.out.c0
  have ks1 := Vs.out.c1
  have hst := keeps_start HW.out Vs.out hmay0
  have HST := Lib.hid hst
  clear hst hmay hrs hmay0 HSE Vd
  go_wp2_with fail
  generalize w2.alloc (.cells #[.slice As n_rs cs, .slice Bs 0 ds] 25) = w3 at HST ⊢
  generalize w2.heap.size = gx at HST ⊢
  clear ks0 ks1 Vs HW
  go_loopw [13] (fun i wr => ∃ k : Nat, k ≤ N ∧ i = .int .i64 k ∧ KRel w gx gs As n_rs cs Bs ds rs wr) (fun i _ => N - (intOf i).toNat)
  case atStart => exact ⟨0, by omega, rfl, HST.out⟩
  case round =>
    clear HST
    obtain ⟨k, hk, rfl, hrel⟩ := hrel
    obtain ⟨hB, hgx, vs, hne, A1, n1, c1, B1, m1, d1, psx, vx, hqu, hmay⟩ := hrel
    have HB := Lib.hid hB
    have Vs := Lib.hid vs
    have Vx := Lib.hid vx
    have HQu := Lib.hid hqu
    have HMay := Lib.hid hmay
    have hx20 : DM.fits rs psx := hmay.2
    have HFit := Lib.hid hx20
    clear hB vs vx hqu hmay hx20
    have kx0 := Vx.out.c0
    have kx1 := Vx.out.c1
    have fx0 := Vx.out.1.frozen 0
    have fx1 := Vx.out.1.frozen 1
    by_cases hlt : k < N
    · obtain ⟨bl, o, Ak, nk, ck, lk, rfl, hbl, hcell, hnk, hck, hrk⟩ := RowsArg.at_ HRows.out hlt
      have hcr : wr.cell? ⟨bl, o + k, none⟩ = some (.slice Ak nk ck) := (HB.out.cell (p := ⟨bl, o + k, none⟩) hbl).trans hcell
      have HRk := Lib.hid (hrk.below HB.out)
      have HCk := Lib.hid hck
      have hck9 : ck ≤ 9223372036854775807 := by unfold maxLen at hck; omega
      have i0 : (0 : Int) ≤ (k : Int) := by omega
      have i1 : (k : Int) < (N : Int) := by omega
      clear hcell hrk hck
      by_cases h5 : 5000 < nk
      · go_wp2
        go_ret
        exact ⟨rfl, HB.out⟩
      obtain ⟨b2, ps2, x2, hl2⟩ := lenIs_ex rs psx (false, lk)
      have HL2 := Lib.hid hl2
      obtain ⟨nb2, hnb2⟩ : ∃ k, b2.length = k := ⟨_, rfl⟩
      obtain ⟨np2, hnp2⟩ : ∃ k, ps2.length = k := ⟨_, rfl⟩
      have HNB2 := Lib.hid hnb2
      have HNP2 := Lib.hid hnp2
      clear hl2 hnb2 hnp2
      have hgxl := Vx.out.1.lt
      have happ : ∀ W, Below wr.heap.size wr W → Calls Try.prog 11 #[.agg #[.slice A1 n1 c1, .slice B1 m1 d1], .slice Ak nk ck] W (DAns W b2 ps2 nb2 np2 x2) := fun W hW => append_s (.agg #[.slice A1 n1 c1, .slice B1 m1 d1]) Ak nk ck rs lk b2 psx ps2 x2 nb2 np2 W (Lib.hid (Vx.out.2.below hW)) (Lib.hid (HRk.out.below hW)) hnk HCk HL2 HNB2 HNP2
      have HApp := Lib.hid happ
      clear happ
      have hbl2 : bl < wr.heap.size := Nat.lt_of_lt_of_le hbl HB.out.size
      have ne1 : gx ≠ wr.heap.size := by omega
      have ne2 : bl ≠ wr.heap.size := by omega
      have ne3 : wr.heap.size ≠ gx := by omega
      have ne4 : wr.heap.size ≠ bl := by omega
      go_upto_region 13 with (fail)
      go_cut [14, 15] (fun u14 u15 wx => KMid wr nb2 np2 b2 ps2 x2 u14 u15 wx)
      case first =>
        go_region_held3 (fun w' => w'.cell? ⟨gx, 0, none⟩ = some (.slice A1 n1 c1) ∧ w'.cell? ⟨gx, 1, none⟩ = some (.slice B1 m1 d1) ∧ w'.cell? ⟨bl, o + k, none⟩ = some (.slice Ak nk ck))
          (first | exact ⟨a1, a2, a3⟩ | exact ⟨e1, e2, e3⟩ | go_keep)
          (first
            | (go_at_call 11; refine (HApp.out _ (Below.refl _ _).drew).mono ?_; rintro e w4 ⟨A4, c4, B4, d4, rfl, hown4, hb4⟩; have a1 : w4.cell? ⟨gx, 0, none⟩ = some (.slice A1 n1 c1) := (hb4.cell (p := ⟨gx, 0, none⟩) hgxl).trans kx0; have a2 : w4.cell? ⟨gx, 1, none⟩ = some (.slice B1 m1 d1) := (hb4.cell (p := ⟨gx, 1, none⟩) hgxl).trans kx1; have a3 : w4.cell? ⟨bl, o + k, none⟩ = some (.slice Ak nk ck) := (hb4.cell (p := ⟨bl, o + k, none⟩) hbl2).trans hcr; have hw4 : wr.heap.size ≤ w4.heap.size := hb4.size; have ne5 : gx ≠ w4.heap.size := (by omega); have ne6 : bl ≠ w4.heap.size := (by omega); have ne7 : w4.heap.size ≠ gx := (by omega); have ne8 : w4.heap.size ≠ bl := (by omega); have mid := kmid2 (x2 := x2) hb4 hown4)
            | (go_at_call 11; refine (HApp.out _ ((Below.refl _ _).alloc (Nat.le_refl _) _).drew).mono ?_; rintro e w4 ⟨A4, c4, B4, d4, rfl, hown4, hb4⟩; have bx := keeps_box hb4; have bb := keeps_below hb4; have e1 : w4.cell? ⟨gx, 0, none⟩ = some (.slice A1 n1 c1) := (bb.cell (p := ⟨gx, 0, none⟩) hgxl).trans kx0; have e2 : w4.cell? ⟨gx, 1, none⟩ = some (.slice B1 m1 d1) := (bb.cell (p := ⟨gx, 1, none⟩) hgxl).trans kx1; have e3 : w4.cell? ⟨bl, o + k, none⟩ = some (.slice Ak nk ck) := (bb.cell (p := ⟨bl, o + k, none⟩) hbl2).trans hcr; have z0 : w4.cell? ⟨wr.heap.size, 0, none⟩ = some (.slice none 0 0) := bx.cell 0; have z1 : w4.cell? ⟨wr.heap.size, 1, none⟩ = some (.slice none 0 0) := bx.cell 1; have z2 : w4.frozen? ⟨wr.heap.size, 0, none⟩ = false := bx.frozen 0; have z3 : w4.frozen? ⟨wr.heap.size, 1, none⟩ = false := bx.frozen 1; have mid := kmid1 (x2 := x2) hb4 hown4))
        all_goals (go_wp2_with fail; go_meet; case rel => exact mid)
      case rest =>
        clear HApp
        obtain ⟨g4, A4, c4, B4, d4, rfl, rfl, hg4, hb4, hv4⟩ := hcut
        have V4 := Lib.hid hv4
        have HB4 := Lib.hid hb4
        have hrel : KRel w gx gs As n_rs cs Bs ds rs wr := ⟨HB.out, hgx, Vs.out, hne, A1, n1, c1, B1, m1, d1, psx, Vx.out, HQu.out, HMay.out⟩
        have HRel := Lib.hid hrel
        clear hrel hb4 hv4
        rcases HL2.out with ⟨hno, _⟩ | ⟨_, _, _, _, rfl⟩ | ⟨_, hm2', rfl, rfl, rfl⟩
        · exact absurd HMay.out hno
        · have hnext := kRel_same HRel.out HB4.out
          go_wp2_with fail
          go_roundw
          case rel => exact ⟨k + 1, by omega, by go_num, hnext⟩
          case measure => simp [intOf]; omega
        · have hnext := kRel_next HRel.out HB4.out V4.out HQu.out hm2' (by omega)
          have HNx := Lib.hid hnext
          have x40 := V4.out.c0
          have x41 := V4.out.c1
          have x30 : wc.cell? ⟨gx, 0, none⟩ = some (.slice A1 n1 c1) := (Vx.out.below HB4.out).c0
          have x31 : wc.cell? ⟨gx, 1, none⟩ = some (.slice B1 m1 d1) := (Vx.out.below HB4.out).c1
          have y30 : wc.frozen? ⟨gx, 0, none⟩ = false := (Vx.out.below HB4.out).1.frozen 0
          have y31 : wc.frozen? ⟨gx, 1, none⟩ = false := (Vx.out.below HB4.out).1.frozen 1
          clear hnext hm2' kx0 kx1 fx0 fx1 hcr
          go_wp2_with fail
          go_roundw
          case rel => exact ⟨k + 1, by omega, by go_num, HNx.out⟩
          case measure => simp [intOf]; omega
    · obtain rfl : N = k := by omega
      clear fx0 fx1
      obtain ⟨rz, x4, hcr⟩ := crashIs_ex rs psx keep many
      obtain ⟨seen, hseen⟩ : ∃ s, s = DM.behind rs psx := ⟨_, rfl⟩
      have hse : SeeIs rs psx seen 0 := .inl ⟨HMay.out, hseen, rfl⟩
      obtain ⟨mx, hmx⟩ : ∃ mx, max many 0 = mx := ⟨_, rfl⟩
      have hst : CrashIs rs [] 0 mx rs 0 := .inr (.inr ⟨DM.may_nil.2 (by rw [HNrs.out]; exact hrs20), by omega, by simp, by omega, rfl, rfl⟩)
      obtain ⟨nz, hnz⟩ : ∃ k, rz.length = k := ⟨_, rfl⟩
      obtain ⟨ne, hne'⟩ : ∃ k, seen.length = k := ⟨_, rfl⟩
      have hmx1 : -9223372036854775808 ≤ mx := by omega
      have hmx2 : mx ≤ 9223372036854775807 := by omega
      have hm1' := Vx.out.wlen
      have hfin := keeps_math hcr hseen HMay.out HQu.out
      rw [hnz, HNrs.out, hne', hm1'] at hfin
      have HFin := Lib.hid hfin
      have HSeen := Lib.hid hse
      have HCr := Lib.hid hcr
      have HStl := Lib.hid hst
      have HNz := Lib.hid hnz
      have HNe := Lib.hid hne'
      have HW := HB
      have hn20 : ne ≤ 1048576 := by rw [← hne', hseen]; exact DM.fits_all HFit.out
      have hm1024 : m1 ≤ 1024 := by rw [← hm1']; exact HMay.out.1
      clear hfin hse hcr hst hnz hne' hseen HQu HFit HMay HB HRows hm1'
      go_wp2_with fail
      clear kx0 kx1
      refine (see_s _ rs seen psx ne 0 _ (Lib.hid Vx.out.2) HSeen HNe).mono ?_
      rintro e we ⟨Ae, ce, rfl, hown, hb⟩
      have Vs_ := Lib.hid (Vs.out.below hb)
      have Vx_ := Lib.hid (Vx.out.below hb)
      have HW_ := Lib.hid (bmore HW.out hb (Nat.le_refl _))
      clear HW Vs Vx
      have Vs := Vs_; clear Vs_
      have Vx := Vx_; clear Vx_
      have HW := HW_; clear HW_
      have HCe : Hid (∃ (_ : True), ne ≤ ce) := by
        obtain ⟨A', c', e', g1, g2⟩ := own_slice hown
        injection e' with _ _ e'
        subst e'
        exact ⟨trivial, g1⟩
      have Re := Lib.hid (Rd.of_own hown)
      clear hown hb
      have k0x := Vx.out.c0
      have k1x := Vx.out.c1
      go_wp2_with fail
      clear k0x k1x
      refine (crash_s _ rs rz psx keep many x4 nz _ (Lib.hid Vx.out.2) HCr hk1 hk2 hm1 hm2 HNz).mono ?_
      rintro e wz ⟨Az, cz, Bz, dz, rfl, hown, hb⟩
      obtain ⟨hst, vz⟩ := var_step hb hown
      have Vs_ := Lib.hid (Vs.out.below hst)
      have Vx_ := Lib.hid (Vx.out.below hst)
      have Re_ := Lib.hid (Re.out.below hst)
      have HW_ := Lib.hid (bmore HW.out hst (Nat.le_refl _))
      clear HW Vs Vx Re
      have Vs := Vs_; clear Vs_
      have Vx := Vx_; clear Vx_
      have Re := Re_; clear Re_
      have HW := HW_; clear HW_
      have Vz := Lib.hid vz
      clear hown hb hst vz
      have k0s := Vs.out.c0
      have k1s := Vs.out.c1
      go_wp2_with fail
      clear k0s k1s
      generalize wz.alloc (.cells #[.slice Az nz cz, .slice Bz 0 dz] 25) = uz at Vs Vx Vz Re HW ⊢
      generalize wz.heap.size = gz at Vz ⊢
      refine (crash_s _ rs rs [] 0 mx 0 n_rs _ (Lib.hid Vs.out.2) HStl (by omega) (by omega) hmx1 hmx2 HNrs).mono ?_
      rintro e wt ⟨At, ct, Bt, dt, rfl, hown, hb⟩
      obtain ⟨hst, vt⟩ := var_step hb hown
      have Vs_ := Lib.hid (Vs.out.below hst)
      have Vx_ := Lib.hid (Vx.out.below hst)
      have Vz_ := Lib.hid (Vz.out.below hst)
      have Re_ := Lib.hid (Re.out.below hst)
      have HW_ := Lib.hid (bmore HW.out hst (Nat.le_refl _))
      clear HW Vs Vx Vz Re
      have Vs := Vs_; clear Vs_
      have Vx := Vx_; clear Vx_
      have Vz := Vz_; clear Vz_
      have Re := Re_; clear Re_
      have HW := HW_; clear HW_
      have Vt := Lib.hid vt
      clear hown hb hst vt
      have k0t := Vt.out.c0
      have k1t := Vt.out.c1
      have k0s := Vs.out.c0
      have k1s := Vs.out.c1
      go_upto_region 19 with (fail)
      clear k0t k1t k0s k1s
      generalize wt.alloc (.cells #[.slice At n_rs ct, .slice Bt 0 dt] 25) = ut at Vs Vx Vz Vt Re HW ⊢
      generalize wt.heap.size = gt at Vt ⊢
      have ks := Vs.out.c0
      have kt := Vt.out.c0
      have kz0 := Vz.out.c0
      have kz1 := Vz.out.c1
      have kx1 := Vx.out.c1
      have ss := Vs.out.str
      have st := Vt.out.str
      rcases HFin.out with ⟨rfl, hbad⟩ | ⟨rfl, f1, f2, f3⟩
      · by_cases q1 : keep < 0
        · have q1' : decide (keep < 0) = true := by simpa using q1
          clear hbad
          go_wp2
          go_ret
          exact ⟨rfl, HW.out⟩
        have q1' : decide (keep < 0) = false := by simpa using q1
        by_cases q2 : (m1 : Int) < keep
        · have q2' : decide ((m1 : Int) < keep) = true := by simpa using q2
          clear hbad
          go_wp2
          go_ret
          exact ⟨rfl, HW.out⟩
        have q2' : decide ((m1 : Int) < keep) = false := by simpa using q2
        have q3 : many < 0 := by omega
        have q3' : decide (many < 0) = true := by simpa using q3
        clear hbad
        go_wp2
        go_ret
        exact ⟨rfl, HW.out⟩
      · have t1 : decide (n_rs ≤ nz) = true := by simp; omega
        have t1' : decide ((n_rs : Int) ≤ (nz : Int)) = true := by simp; omega
        have t2 : decide (nz ≤ ne) = true := by simp; omega
        have t2' : decide ((nz : Int) ≤ (ne : Int)) = true := by simp; omega
        have hce : ne ≤ ce := by obtain ⟨_, h⟩ := HCe.out; exact h
        have t3 : (0 : Int) ≤ (nz : Int) := by omega
        have t4 : (nz : Int) ≤ (ce : Int) := by omega
        have hfr : Rd ut Ae nz (bc rz) := by
          have := Re.out.front (k := nz) f2
          rw [bc_take, ← f3] at this
          exact this
        have sz : ∀ nq, (convert 22 9 (.slice Az nz cz)).run Try.prog (ut.drewN nq) = .ok (.string ⟨rz.toArray⟩) (ut.drewN nq) := fun nq => rd_str (Vz.out.rd.drewN nq)
        have se : ∀ nq, (convert 22 9 (.slice Ae nz ce)).run Try.prog (ut.drewN nq) = .ok (.string ⟨rz.toArray⟩) (ut.drewN nq) := fun nq => rd_str (hfr.drewN nq)
        clear hfr f3 HFin
        go_wp2_with fail
        go_quiet (fail)
        go_wp2
        go_ret
        exact ⟨rfl, below_drewN HW.out nq⟩

theorem diskKeeps_walk (v : Value) (b : List UInt8) (ps : List DM.Wr) (a1 : Option Addr) (len1 cap1 : Nat) (z1 : List (List UInt8)) (a2 a3 : Int) (w : World) (w0 : DiskArg w v b ps) (w1 : RowsArg w a1 len1 cap1 z1) (w2 : (Lit.int .i64 a2).wf = true) (w3 : (Lit.int .i64 a3).wf = true) :
    Calls Try.prog 6 #[v, .slice a1 len1 cap1, .int .i64 a2, .int .i64 a3] w fun e w' => e = .returned (.bool true) ∧ Below w.heap.size w w' := by
  have h4 : -9223372036854775808 ≤ a2 ∧ a2 ≤ 9223372036854775807 := by simpa [Lit.wf, IntKind.min, IntKind.max, IntKind.signed, IntKind.bits] using w2
  have h5 : -9223372036854775808 ≤ a3 ∧ a3 ≤ 9223372036854775807 := by simpa [Lit.wf, IntKind.min, IntKind.max, IntKind.signed, IntKind.bits] using w3
  exact diskKeeps_core v b ps a1 len1 cap1 z1 a2 a3 w (Lib.hid w0) (Lib.hid w1) h4.1 h4.2 h5.1 h5.2
end Go.Proofs.Ytnbnnnphepfkkaa
