/-
  Package skeen: Same. Conditions: clocks that read as such.
-/
import Derived.Test.YteebeiaokfenmaaGreatK01
import Derived.Test.YteebeiaokfenmaaGreatK11
namespace Go.Proofs.YteebeiaokfenmaaGreat.KP
open Go.RowKit CP TP
open CM (Mg Cm)
open TM (Sp)
open KM (Wt Sk)
set_option linter.unusedVariables false
set_option linter.unusedSimpArgs false
set_option maxRecDepth 100000
set_option maxHeartbeats 4000000 in
theorem psameWait_any (A B : Option Addr) (c d : Nat) (x y : Wt) (w : World) (hx : RowIs w A c x.m.gs) (hy : RowIs w B d y.m.gs) : Calls Tryz.prog 111 #[vwt A c x, vwt B d y] w (IsB (decide (x = y)) w) := by
  have CS := Lib.hid (fun W (hb : Below w.heap.size w W) => psameMg_any x.m y.m (.agg (mcells A c x.m)) (.agg (mcells B d y.m)) W ⟨A, c, rfl, hx.below hb⟩ ⟨B, d, rfl, hy.below hb⟩)
  obtain ⟨r, hr⟩ : ∃ r, r = decide (x = y) := ⟨_, rfl⟩
  obtain ⟨s, hs⟩ : ∃ s, s = decide (x.m = y.m) := ⟨_, rfl⟩
  rw [← hr]
  rw [← hs] at CS
  have HR := Lib.hid (show r = (s && decide (x.t = y.t) && decide (x.f = y.f)) from by
    obtain ⟨xm, xt, xf⟩ := x
    obtain ⟨ym, yt, yf⟩ := y
    rw [hr, hs, Bool.eq_iff_iff]
    simp [and_assoc])
  clear hr hs hx hy
  obtain ⟨⟨xi, xg, xt, xk, xb⟩, xm, xf⟩ := x
  obtain ⟨⟨yi, yg, yt, yk, yb⟩, ym, yf⟩ := y
  unfold mcells at CS
  unfold vwt
  simp only at CS HR ⊢
  have HB := Lib.hid (show Below w.heap.size w ((w.alloc (.cells #[.int .i64 xi, .slice A xg.length c, .int .i64 xt, .string xk, .string xb, .int .i64 xm, .bool xf] 78)).alloc (.cells #[.int .i64 yi, .slice B yg.length d, .int .i64 yt, .string yk, .string yb, .int .i64 ym, .bool yf] 78)) from ((Below.refl _ _).alloc (Nat.le_refl _) _).alloc (by simp) _)
  have X := Lib.hid ((Box.new w 78 #[.int .i64 xi, .slice A xg.length c, .int .i64 xt, .string xk, .string xb, .int .i64 xm, .bool xf]).alloc (.cells #[.int .i64 yi, .slice B yg.length d, .int .i64 yt, .string yk, .string yb, .int .i64 ym, .bool yf] 78))
  have Y := Lib.hid (Box.new_at (w := w.alloc (.cells #[.int .i64 xi, .slice A xg.length c, .int .i64 xt, .string xk, .string xb, .int .i64 xm, .bool xf] 78)) (t := 78) (cs := #[.int .i64 yi, .slice B yg.length d, .int .i64 yt, .string yk, .string yb, .int .i64 ym, .bool yf]) (w.heap.size + 1) (by simp))
  go_enter Tryz.func111, Tryz.ntmps111
  go_upto_region 1 with (fail)
  generalize (w.alloc (.cells #[.int .i64 xi, .slice A xg.length c, .int .i64 xt, .string xk, .string xb, .int .i64 xm, .bool xf] 78)).alloc (.cells #[.int .i64 yi, .slice B yg.length d, .int .i64 yt, .string yk, .string yb, .int .i64 ym, .bool yf] 78) = w1 at HB X Y ⊢
  generalize w.heap.size + 1 = p3 at Y ⊢
  obtain ⟨p2, hp2⟩ : ∃ p2, w.heap.size = p2 := ⟨_, rfl⟩
  rw [hp2] at X
  simp only [hp2]
  clear hp2
  obtain ⟨a0, a1, a2, a3, a4, a5, a6⟩ := box_wt X.out
  obtain ⟨b0, b1, b2, b3, b4, b5, b6⟩ := box_wt Y.out
  go_wp2_with fail
  refine (CS.out _ HB.out).mono ?_
  rintro e w2 ⟨rfl, hb⟩
  have HB2 := Lib.hid (bmore HB.out hb (Nat.le_refl _))
  have X2 := Lib.hid (X.out.below hb X.out.lt)
  have Y2 := Lib.hid (Y.out.below hb Y.out.lt)
  clear hb a0 a1 a2 a3 a4 a5 a6 b0 b1 b2 b3 b4 b5 b6 CS X Y
  obtain ⟨a0, a1, a2, a3, a4, a5, a6⟩ := box_wt X2.out
  obtain ⟨b0, b1, b2, b3, b4, b5, b6⟩ := box_wt Y2.out
  rcases s with _ | _
  · have e : r = false := by rw [HR.out]; rfl
    subst e
    go_wp2_with fail
    go_ret
    exact ⟨rfl, HB2.out⟩
  by_cases h1 : xm = ym
  rotate_left
  · have e : r = false := by rw [HR.out]; simp [h1]
    subst e
    have h2 : (xm == ym) = false := by simpa using h1
    go_wp2_with fail
    go_ret
    exact ⟨rfl, HB2.out⟩
  subst h1
  by_cases h1 : xf = yf
  · have e : r = true := by rw [HR.out]; simp [h1]
    subst e
    subst h1
    go_wp2_with fail
    go_ret
    exact ⟨by simp, HB2.out⟩
  · have e : r = false := by rw [HR.out]; simp [h1]
    subst e
    have h2 : (xf == yf) = false := by simpa using h1
    go_wp2_with fail
    go_ret
    exact ⟨by simp [h2], HB2.out⟩
set_option maxHeartbeats 8000000 in
theorem equalW_any (A B : Option Addr) (n m ca cb : Nat) (l r : List Wt) (w : World) (h1 : KR KW w A n ca l) (h2 : KR KW w B m cb r) :
    Calls Tryz.prog 110 #[.slice A n ca, .slice B m cb, .func (.func 111) #[] #[]] w (IsB (decide (l = r)) w) := by
  obtain ⟨x, hx⟩ : ∃ x, x = decide (l = r) := ⟨_, rfl⟩
  rw [← hx]
  have HX := Lib.hid hx
  have HL := Lib.hid h1.len
  have HR := Lib.hid h2.len
  have hn63 := h1.small
  have hm63 := h2.small
  have H1 := Lib.hid (fun W (hb : Below w.heap.size w W) => h1.below hb)
  have H2 := Lib.hid (fun W (hb : Below w.heap.size w W) => h2.below hb)
  clear hx h1 h2
  by_cases hnm : n = m
  rotate_left
  · have e : x = false := by
      rw [HX.out, decide_eq_false_iff_not]
      intro h
      have := HL.out
      have := HR.out
      rw [h] at *
      omega
    subst e
    have h3 : ¬ ((n : Int) = (m : Int)) := by omega
    have h4 : ((n : Int) == (m : Int)) = false := by simpa using h3
    go_enter Tryz.func110, Tryz.ntmps110
    go_wp2_with fail
    go_ret
    exact ⟨rfl, Below.refl _ _⟩
  subst hnm
  go_enter Tryz.func110, Tryz.ntmps110
  go_wp2_with fail
  go_loopw [17] (fun i wr => ∃ k : Nat, k ≤ n ∧ i = .int .i64 k ∧ Hid (Below w.heap.size w wr) ∧ Hid (l.take k = r.take k)) (fun i _ => n - (intOf i).toNat)
  case atStart => exact ⟨0, Nat.zero_le _, rfl, Lib.hid (Below.refl _ _), Lib.hid (by simp)⟩
  case round =>
    obtain ⟨k, hk, rfl, HB, HK⟩ := hrel
    by_cases hlt : k < n
    · obtain ⟨x1, hx1⟩ : ∃ y, l[k]? = some y := ⟨_, List.getElem?_eq_getElem (by have := HL.out; omega)⟩
      obtain ⟨y1, hy1⟩ : ∃ y, r[k]? = some y := ⟨_, List.getElem?_eq_getElem (by have := HR.out; omega)⟩
      have HU := Lib.hid hx1
      have HV := Lib.hid hy1
      obtain ⟨bl, o, Q1, q1, rfl, _, _, hat1, hr1⟩ := wts_at (H1.out _ HB.out) hx1
      obtain ⟨bl2, o2, Q2, q2, rfl, _, _, hat2, hr2⟩ := wts_at (H2.out _ HB.out) hy1
      have CW := Lib.hid (fun W (hb : Below wr.heap.size wr W) => psameWait_any Q1 Q2 q1 q2 x1 y1 W (hr1.below hb) (hr2.below hb))
      obtain ⟨s, hs⟩ : ∃ s, s = decide (x1 = y1) := ⟨_, rfl⟩
      rw [← hs] at CW
      have HS := Lib.hid hs
      clear hx1 hy1 hr1 hr2 hs
      have hk0 : (0 : Int) ≤ (k : Int) := by omega
      have hkn : (k : Int) < (n : Int) := by omega
      obtain ⟨⟨xi, xg, xt, xk, xb⟩, xm, xf⟩ := x1
      obtain ⟨⟨yi, yg, yt, yk, yb⟩, ym, yf⟩ := y1
      unfold vwt at CW
      obtain ⟨a0, a1, a2, a3, a4, a5, a6⟩ := hat1
      obtain ⟨b0, b1, b2, b3, b4, b5, b6⟩ := hat2
      simp only at a0 a1 a2 a3 a4 a5 a6 b0 b1 b2 b3 b4 b5 b6 CW
      go_upto_region 7 with (fail)
      have hal : Below wr.heap.size wr ((wr.alloc (.cells #[.int .i64 xi, .slice Q1 xg.length q1, .int .i64 xt, .string xk, .string xb, .int .i64 xm, .bool xf] 78)).alloc (.cells #[.int .i64 yi, .slice Q2 yg.length q2, .int .i64 yt, .string yk, .string yb, .int .i64 ym, .bool yf] 78)) := ((Below.refl _ _).alloc (Nat.le_refl _) _).alloc (by simp) _
      have HB2 := Lib.hid (bmore HB.out hal (Nat.le_refl _))
      have X := Lib.hid ((Box.new wr 78 #[.int .i64 xi, .slice Q1 xg.length q1, .int .i64 xt, .string xk, .string xb, .int .i64 xm, .bool xf]).alloc (.cells #[.int .i64 yi, .slice Q2 yg.length q2, .int .i64 yt, .string yk, .string yb, .int .i64 ym, .bool yf] 78))
      have Y := Lib.hid (Box.new_at (w := wr.alloc (.cells #[.int .i64 xi, .slice Q1 xg.length q1, .int .i64 xt, .string xk, .string xb, .int .i64 xm, .bool xf] 78)) (t := 78) (cs := #[.int .i64 yi, .slice Q2 yg.length q2, .int .i64 yt, .string yk, .string yb, .int .i64 ym, .bool yf]) (wr.heap.size + 1) (by simp))
      have CW2 := Lib.hid (CW.out _ hal)
      clear hal CW a0 a1 a2 a3 a4 a5 a6 b0 b1 b2 b3 b4 b5 b6
      generalize (wr.alloc (.cells #[.int .i64 xi, .slice Q1 xg.length q1, .int .i64 xt, .string xk, .string xb, .int .i64 xm, .bool xf] 78)).alloc (.cells #[.int .i64 yi, .slice Q2 yg.length q2, .int .i64 yt, .string yk, .string yb, .int .i64 ym, .bool yf] 78) = w1 at HB2 X Y CW2 ⊢
      generalize wr.heap.size + 1 = p9 at Y ⊢
      obtain ⟨p8, hp8⟩ : ∃ p8, wr.heap.size = p8 := ⟨_, rfl⟩
      rw [hp8] at X
      simp only [hp8]
      clear hp8
      obtain ⟨a0, a1, a2, a3, a4, a5, a6⟩ := box_wt X.out
      obtain ⟨b0, b1, b2, b3, b4, b5, b6⟩ := box_wt Y.out
      go_wp2_with fail
      refine (CW2.out).mono ?_
      rintro e w2 ⟨rfl, hb⟩
      have HB3 := Lib.hid (bmore HB2.out hb (Nat.le_refl _))
      clear hb CW2 a0 a1 a2 a3 a4 a5 a6 b0 b1 b2 b3 b4 b5 b6
      rcases s with _ | _
      · have e : x = false := by
          rw [HX.out, decide_eq_false_iff_not]
          exact ne_at HU.out HV.out (of_decide_eq_false HS.out.symm)
        subst e
        go_wp2_with fail
        go_ret
        exact ⟨rfl, HB3.out⟩
      · have e := of_decide_eq_true HS.out.symm
        have NX := Lib.hid (take_more HK.out HU.out (by rw [e]; exact HV.out))
        clear e
        go_wp2_with fail
        go_roundw
        case rel => exact ⟨k + 1, by omega, by go_num, HB3, NX⟩
        case measure => simp [intOf]; omega
    · have e : x = true := by
        rw [HX.out, decide_eq_true_eq]
        have hk2 : k = n := by omega
        subst hk2
        exact take_all HK.out HL.out HR.out
      subst e
      go_wp2_with fail
      go_ret
      exact ⟨rfl, HB.out⟩
set_option maxHeartbeats 4000000 in
theorem equalD_any (A B : Option Addr) (n m ca cb : Nat) (l r : List Sp) (w : World) (h1 : SpsIs w A n ca l) (h2 : SpsIs w B m cb r) :
    Calls Tryz.prog 44 #[.slice A n ca, .slice B m cb] w (IsB (decide (l = r)) w) := by
  obtain ⟨x, hx⟩ : ∃ x, x = decide (l = r) := ⟨_, rfl⟩
  rw [← hx]
  have HX := Lib.hid hx
  have HL := Lib.hid h1.2.1
  have HR := Lib.hid h2.2.1
  have hn63 := h1.small
  have hm63 := h2.small
  have H1 := Lib.hid (fun W (hb : Below w.heap.size w W) => h1.below hb)
  have H2 := Lib.hid (fun W (hb : Below w.heap.size w W) => h2.below hb)
  clear hx h1 h2
  by_cases hnm : n = m
  rotate_left
  · have e : x = false := by
      rw [HX.out, decide_eq_false_iff_not]
      intro h
      have := HL.out
      have := HR.out
      rw [h] at *
      omega
    subst e
    have h3 : ¬ ((n : Int) = (m : Int)) := by omega
    have h4 : ((n : Int) == (m : Int)) = false := by simpa using h3
    go_enter Tryz.func44, Tryz.ntmps44
    go_wp2_with fail
    go_ret
    exact ⟨rfl, Below.refl _ _⟩
  subst hnm
  go_enter Tryz.func44, Tryz.ntmps44
  go_wp2_with fail
  go_loopw [13] (fun i wr => ∃ k : Nat, k ≤ n ∧ i = .int .i64 k ∧ Hid (Below w.heap.size w wr) ∧ Hid (l.take k = r.take k)) (fun i _ => n - (intOf i).toNat)
  case atStart => exact ⟨0, Nat.zero_le _, rfl, Lib.hid (Below.refl _ _), Lib.hid (by simp)⟩
  case round =>
    obtain ⟨k, hk, rfl, HB, HK⟩ := hrel
    by_cases hlt : k < n
    · obtain ⟨x1, hx1⟩ : ∃ y, l[k]? = some y := ⟨_, List.getElem?_eq_getElem (by have := HL.out; omega)⟩
      obtain ⟨y1, hy1⟩ : ∃ y, r[k]? = some y := ⟨_, List.getElem?_eq_getElem (by have := HR.out; omega)⟩
      have HU := Lib.hid hx1
      have HV := Lib.hid hy1
      obtain ⟨bl, o, rfl, _, _, a0, a1⟩ := (H1.out _ HB.out).at_ hx1
      obtain ⟨bl2, o2, rfl, _, _, b0, b1⟩ := (H2.out _ HB.out).at_ hy1
      clear hx1 hy1
      have hk0 : (0 : Int) ≤ (k : Int) := by omega
      have hkn : (k : Int) < (n : Int) := by omega
      by_cases hxy : x1 = y1
      · have NX := Lib.hid (take_more HK.out HU.out (by rw [hxy]; exact HV.out))
        subst hxy
        clear HU HV
        obtain ⟨xt, xi⟩ := x1
        simp only at a0 a1 b0 b1
        go_wp2_with fail
        go_quiet (fail)
        have HB2 := Lib.hid (below_drewN HB.out nq)
        go_wp2_with fail
        go_roundw
        case rel => exact ⟨k + 1, by omega, by go_num, HB2, NX⟩
        case measure => simp [intOf]; omega
      · have e : x = false := by
          rw [HX.out, decide_eq_false_iff_not]
          exact ne_at HU.out HV.out hxy
        subst e
        clear HU HV
        obtain ⟨xt, xi⟩ := x1
        obtain ⟨yt, yi⟩ := y1
        simp only at a0 a1 b0 b1
        by_cases ht : xt = yt
        · subst ht
          have hi : (xi == yi) = false := by simp; rintro rfl; exact hxy rfl
          clear hxy
          go_wp2_with fail
          go_quiet (fail)
          have HB2 := Lib.hid (below_drewN HB.out nq)
          go_wp2_with fail
          go_ret
          exact ⟨rfl, HB2.out⟩
        · have hi : (xt == yt) = false := by simpa using ht
          clear hxy ht
          go_wp2_with fail
          go_quiet (fail)
          have HB2 := Lib.hid (below_drewN HB.out nq)
          go_wp2_with fail
          go_ret
          exact ⟨rfl, HB2.out⟩
    · have e : x = true := by
        rw [HX.out, decide_eq_true_eq]
        have hk2 : k = n := by omega
        subst hk2
        exact take_all HK.out HL.out HR.out
      subst e
      go_wp2_with fail
      go_ret
      exact ⟨rfl, HB.out⟩
set_option maxHeartbeats 4000000 in
theorem psame15_any (va vb : Value) (a b : Sk) (w : World) (h1 : SkIs w va a) (h2 : SkIs w vb b) : Calls Tryz.prog 88 #[va, vb] w (IsB (decide (a = b)) w) := by
  obtain ⟨A, ca, B, cb, rfl, r1, d1⟩ := h1
  obtain ⟨C, cc, D, cd, rfl, r2, d2⟩ := h2
  have C1 := Lib.hid (fun W (hb : Below w.heap.size w W) => equalW_any A C _ _ ca cc a.ws b.ws W (r1.below hb) (r2.below hb))
  have C2 := Lib.hid (fun W (hb : Below w.heap.size w W) => equalD_any B D _ _ cb cd a.ds b.ds W (d1.below hb) (d2.below hb))
  obtain ⟨r, hr⟩ : ∃ r, r = decide (a = b) := ⟨_, rfl⟩
  obtain ⟨s1, hs1⟩ : ∃ s, s = decide (a.ws = b.ws) := ⟨_, rfl⟩
  obtain ⟨s2, hs2⟩ : ∃ s, s = decide (a.ds = b.ds) := ⟨_, rfl⟩
  rw [← hr]
  rw [← hs1] at C1
  rw [← hs2] at C2
  have HR := Lib.hid (show r = (decide (a.c = b.c) && s1 && s2) from by
    obtain ⟨c1, w1, d1⟩ := a
    obtain ⟨c2, w2, d2⟩ := b
    rw [hr, hs1, hs2, Bool.eq_iff_iff]
    simp [and_assoc])
  clear hr hs1 hs2 r1 d1 r2 d2
  obtain ⟨ac, aw, ad⟩ := a
  obtain ⟨bc, bw, bd⟩ := b
  unfold vsk
  simp only at C1 C2 HR ⊢
  generalize aw.length = n at C1 ⊢
  generalize ad.length = m at C2 ⊢
  generalize bw.length = p at C1 ⊢
  generalize bd.length = q at C2 ⊢
  have HB := Lib.hid (show Below w.heap.size w ((w.alloc (.cells #[.int .i64 ac, .slice A n ca, .slice B m cb] 39)).alloc (.cells #[.int .i64 bc, .slice C p cc, .slice D q cd] 39)) from ((Below.refl _ _).alloc (Nat.le_refl _) _).alloc (by simp) _)
  have X := Lib.hid ((Box.new w 39 #[.int .i64 ac, .slice A n ca, .slice B m cb]).alloc (.cells #[.int .i64 bc, .slice C p cc, .slice D q cd] 39))
  have Y := Lib.hid (Box.new_at (w := w.alloc (.cells #[.int .i64 ac, .slice A n ca, .slice B m cb] 39)) (t := 39) (cs := #[.int .i64 bc, .slice C p cc, .slice D q cd]) (w.heap.size + 1) (by simp))
  go_enter Tryz.func88, Tryz.ntmps88
  go_upto_region 1 with (fail)
  generalize (w.alloc (.cells #[.int .i64 ac, .slice A n ca, .slice B m cb] 39)).alloc (.cells #[.int .i64 bc, .slice C p cc, .slice D q cd] 39) = w1 at HB X Y ⊢
  generalize w.heap.size + 1 = p3 at Y ⊢
  obtain ⟨p2, hp2⟩ : ∃ p2, w.heap.size = p2 := ⟨_, rfl⟩
  rw [hp2] at X
  simp only [hp2]
  clear hp2
  obtain ⟨x0, x1, x2⟩ := box_sk X.out
  obtain ⟨y0, y1, y2⟩ := box_sk Y.out
  by_cases h1 : ac = bc
  rotate_left
  · have e : r = false := by rw [HR.out]; simp [h1]
    subst e
    have h2 : (ac == bc) = false := by simpa using h1
    go_wp2_with fail
    go_ret
    exact ⟨rfl, HB.out⟩
  subst h1
  go_wp2_with fail
  refine (C1.out _ HB.out).mono ?_
  rintro e w2 ⟨rfl, hb⟩
  have HB2 := Lib.hid (bmore HB.out hb (Nat.le_refl _))
  have X2 := Lib.hid (X.out.below hb X.out.lt)
  have Y2 := Lib.hid (Y.out.below hb Y.out.lt)
  clear hb x0 x1 x2 y0 y1 y2 C1
  obtain ⟨x0, x1, x2⟩ := box_sk X2.out
  obtain ⟨y0, y1, y2⟩ := box_sk Y2.out
  rcases s1 with _ | _
  · have e : r = false := by rw [HR.out]; simp
    subst e
    go_wp2_with fail
    go_ret
    exact ⟨rfl, HB2.out⟩
  go_wp2_with fail
  refine (C2.out _ HB2.out).mono ?_
  rintro e w3 ⟨rfl, hb⟩
  have HB3 := Lib.hid (bmore HB2.out hb (Nat.le_refl _))
  clear hb x0 x1 x2 y0 y1 y2 C2
  go_wp2_with fail
  go_ret
  exact ⟨by rw [HR.out]; simp, HB3.out⟩
end Go.Proofs.YteebeiaokfenmaaGreat.KP
