/- Contracts of functions, L15: each as its theorem says. -/
import Derived.Test.YteebeiaokfenmaaGreatL13
import Derived.Test.YteebeiaokfenmaaGreatL14
set_option linter.unusedVariables false
set_option linter.unusedSimpArgs false
set_option maxRecDepth 100000
set_option maxHeartbeats 16000000
namespace Go.Proofs.YteebeiaokfenmaaGreat
namespace KP
open Go.RowKit CP TP
open CM (Mg Cm)
open TM (Sp)
open KM (Wt Sk)
theorem psameWait_any (A B : Option Addr) (c d : Nat) (x y : Wt) (w : World) (hx : RowIs w A c x.m.gs) (hy : RowIs w B d y.m.gs) : Calls Tryz.prog 111 #[vwt A c x, vwt B d y] w (IsB (decide (x = y)) w) := by
 have CS := h! (fun W (hb : Below w.heap.size w W) => psameMg_any x.m y.m (.agg (mcells A c x.m)) (.agg (mcells B d y.m)) W ⟨A, c, rfl, hx.below hb⟩ ⟨B, d, rfl, hy.below hb⟩)
 obtain ⟨r, hr⟩ : ∃ r, r = decide (x = y) := ⟨_, rfl⟩
 obtain ⟨s, hs⟩ : ∃ s, s = decide (x.m = y.m) := ⟨_, rfl⟩
 rw [← hr]
 rw [← hs] at CS
 have HR := h! (show r = (s && decide (x.t = y.t) && decide (x.f = y.f)) from by
  obtain ⟨xm, xt, xf⟩ := x
  obtain ⟨ym, yt, yf⟩ := y
  rw [hr, hs, Bool.eq_iff_iff]
  simp [and_assoc])
 clear hr hs hx hy
 obtain ⟨⟨xi, xg, xt, xk, xb⟩, xm, xf⟩ := x
 obtain ⟨⟨yi, yg, yt, yk, yb⟩, ym, yf⟩ := y
 unfold mcells at CS
 unfold vwt
 simp only at CS HR ⊢
 have HB := h! (show Below w.heap.size w ((w.alloc (.cells #[.int .i64 xi, .slice A xg.length c, .int .i64 xt, .string xk, .string xb, .int .i64 xm, .bool xf] 78)).alloc (.cells #[.int .i64 yi, .slice B yg.length d, .int .i64 yt, .string yk, .string yb, .int .i64 ym, .bool yf] 78)) from ((Below.refl _ _).alloc n! _).alloc (by simp) _)
 have X := h! ((Box.new w 78 #[.int .i64 xi, .slice A xg.length c, .int .i64 xt, .string xk, .string xb, .int .i64 xm, .bool xf]).alloc (.cells #[.int .i64 yi, .slice B yg.length d, .int .i64 yt, .string yk, .string yb, .int .i64 ym, .bool yf] 78))
 have Y := h! (Box.new_at (w := w.alloc (.cells #[.int .i64 xi, .slice A xg.length c, .int .i64 xt, .string xk, .string xb, .int .i64 xm, .bool xf] 78)) (t := 78) (cs := #[.int .i64 yi, .slice B yg.length d, .int .i64 yt, .string yk, .string yb, .int .i64 ym, .bool yf]) (w.heap.size + 1) (by simp))
 go_enter Tryz.func111, Tryz.ntmps111
 go_upto_region 1 with (fail)
 generalize (w.alloc (.cells #[.int .i64 xi, .slice A xg.length c, .int .i64 xt, .string xk, .string xb, .int .i64 xm, .bool xf] 78)).alloc (.cells #[.int .i64 yi, .slice B yg.length d, .int .i64 yt, .string yk, .string yb, .int .i64 ym, .bool yf] 78) = w1 at HB X Y ⊢
 generalize w.heap.size + 1 = p3 at Y ⊢
 obtain ⟨p2, hp2⟩ : ∃ p2, w.heap.size = p2 := ⟨_, rfl⟩
 rw [hp2] at X
 simp only [hp2]
 clear hp2
 obtain ⟨a0, a1, a2, a3, a4, a5, a6⟩ := box_wt X.out
 obtain ⟨b0, b1, b2, b3, b4, b5, b6⟩ := box_wt Y.out
 go_wp2_with fail
 refine (CS.out _ HB.out).mono ?_
 rintro e w2 ⟨rfl, hb⟩
 have HB2 := h! (bmore HB.out hb n!)
 have X2 := h! (X.out.below hb X.out.lt)
 have Y2 := h! (Y.out.below hb Y.out.lt)
 clear hb a0 a1 a2 a3 a4 a5 a6 b0 b1 b2 b3 b4 b5 b6 CS X Y
 obtain ⟨a0, a1, a2, a3, a4, a5, a6⟩ := box_wt X2.out
 obtain ⟨b0, b1, b2, b3, b4, b5, b6⟩ := box_wt Y2.out
 rcases s with _ | _
 ·have e : r = false := by rw [HR.out]; rfl
  subst e
  go_wp2_with fail
  go_ret
  exact ⟨rfl, HB2.out⟩
 by_cases h1 : xm = ym
 rotate_left
 ·have e : r = false := by rw [HR.out]; simp [h1]
  subst e
  have h2 : (xm == ym) = false := by simpa using h1
  go_wp2_with fail
  go_ret
  exact ⟨rfl, HB2.out⟩
 subst h1
 by_cases h1 : xf = yf
 ·have e : r = true := by rw [HR.out]; simp [h1]
  subst e
  subst h1
  go_wp2_with fail
  go_ret
  exact ⟨by simp, HB2.out⟩
 ·have e : r = false := by rw [HR.out]; simp [h1]
  subst e
  have h2 : (xf == yf) = false := by simpa using h1
  go_wp2_with fail
  go_ret
  exact ⟨by simp [h2], HB2.out⟩
theorem equalW_any (A B : Option Addr) (n m ca cb : Nat) (l r : List Wt) (w : World) (h1 : KR KW w A n ca l) (h2 : KR KW w B m cb r) :
  Calls Tryz.prog 110 #[.slice A n ca, .slice B m cb, .func (.func 111) #[] #[]] w (IsB (decide (l = r)) w) := by
 obtain ⟨x, hx⟩ : ∃ x, x = decide (l = r) := ⟨_, rfl⟩
 rw [← hx]
 have HX := h! hx
 have HL := h! h1.len
 have HR := h! h2.len
 have hn63 := h1.small
 have hm63 := h2.small
 have H1 := h! (fun W (hb : Below w.heap.size w W) => h1.below hb)
 have H2 := h! (fun W (hb : Below w.heap.size w W) => h2.below hb)
 clear hx h1 h2
 by_cases hnm : n = m
 rotate_left
 ·have e : x = false := by
   rw [HX.out, decide_eq_false_iff_not]
   intro h
   have := HL.out
   have := HR.out
   rw [h] at *
   omega
  subst e
  have h3 : ¬ ((n : Int) = (m : Int)) := by omega
  have h4 : ((n : Int) == (m : Int)) = false := by simpa using h3
  go_enter Tryz.func110, Tryz.ntmps110
  go_wp2_with fail
  go_ret
  exact ⟨rfl, Below.refl _ _⟩
 subst hnm
 go_enter Tryz.func110, Tryz.ntmps110
 go_wp2_with fail
 go_loopw [17] (fun i wr => ∃ k : Nat, k ≤ n ∧ i = .int .i64 k ∧ Hid (Below w.heap.size w wr) ∧ Hid (l.take k = r.take k)) (fun i _ => n - (intOf i).toNat)
 case atStart => exact ⟨0, Nat.zero_le _, rfl, h! (Below.refl _ _), h! (by simp)⟩
 case round =>
  obtain ⟨k, hk, rfl, HB, HK⟩ := hrel
  by_cases hlt : k < n
  ·obtain ⟨x1, hx1⟩ : ∃ y, l[k]? = some y := ⟨_, List.getElem?_eq_getElem (by have := HL.out; omega)⟩
   obtain ⟨y1, hy1⟩ : ∃ y, r[k]? = some y := ⟨_, List.getElem?_eq_getElem (by have := HR.out; omega)⟩
   have HU := h! hx1
   have HV := h! hy1
   obtain ⟨bl, o, Q1, q1, rfl, _, _, hat1, hr1⟩ := wts_at (H1.out _ HB.out) hx1
   obtain ⟨bl2, o2, Q2, q2, rfl, _, _, hat2, hr2⟩ := wts_at (H2.out _ HB.out) hy1
   have CW := h! (fun W (hb : Below wr.heap.size wr W) => psameWait_any Q1 Q2 q1 q2 x1 y1 W (hr1.below hb) (hr2.below hb))
   obtain ⟨s, hs⟩ : ∃ s, s = decide (x1 = y1) := ⟨_, rfl⟩
   rw [← hs] at CW
   have HS := h! hs
   clear hx1 hy1 hr1 hr2 hs
   have hk0 : (0 : Int) ≤ (k : Int) := by omega
   have hkn : (k : Int) < (n : Int) := by omega
   obtain ⟨⟨xi, xg, xt, xk, xb⟩, xm, xf⟩ := x1
   obtain ⟨⟨yi, yg, yt, yk, yb⟩, ym, yf⟩ := y1
   unfold vwt at CW
   obtain ⟨a0, a1, a2, a3, a4, a5, a6⟩ := hat1
   obtain ⟨b0, b1, b2, b3, b4, b5, b6⟩ := hat2
   simp only at a0 a1 a2 a3 a4 a5 a6 b0 b1 b2 b3 b4 b5 b6 CW
   go_upto_region 7 with (fail)
   have hal : Below wr.heap.size wr ((wr.alloc (.cells #[.int .i64 xi, .slice Q1 xg.length q1, .int .i64 xt, .string xk, .string xb, .int .i64 xm, .bool xf] 78)).alloc (.cells #[.int .i64 yi, .slice Q2 yg.length q2, .int .i64 yt, .string yk, .string yb, .int .i64 ym, .bool yf] 78)) := ((Below.refl _ _).alloc n! _).alloc (by simp) _
   have HB2 := h! (bmore HB.out hal n!)
   have X := h! ((Box.new wr 78 #[.int .i64 xi, .slice Q1 xg.length q1, .int .i64 xt, .string xk, .string xb, .int .i64 xm, .bool xf]).alloc (.cells #[.int .i64 yi, .slice Q2 yg.length q2, .int .i64 yt, .string yk, .string yb, .int .i64 ym, .bool yf] 78))
   have Y := h! (Box.new_at (w := wr.alloc (.cells #[.int .i64 xi, .slice Q1 xg.length q1, .int .i64 xt, .string xk, .string xb, .int .i64 xm, .bool xf] 78)) (t := 78) (cs := #[.int .i64 yi, .slice Q2 yg.length q2, .int .i64 yt, .string yk, .string yb, .int .i64 ym, .bool yf]) (wr.heap.size + 1) (by simp))
   have CW2 := h! (CW.out _ hal)
   clear hal CW a0 a1 a2 a3 a4 a5 a6 b0 b1 b2 b3 b4 b5 b6
   generalize (wr.alloc (.cells #[.int .i64 xi, .slice Q1 xg.length q1, .int .i64 xt, .string xk, .string xb, .int .i64 xm, .bool xf] 78)).alloc (.cells #[.int .i64 yi, .slice Q2 yg.length q2, .int .i64 yt, .string yk, .string yb, .int .i64 ym, .bool yf] 78) = w1 at HB2 X Y CW2 ⊢
   generalize wr.heap.size + 1 = p9 at Y ⊢
   obtain ⟨p8, hp8⟩ : ∃ p8, wr.heap.size = p8 := ⟨_, rfl⟩
   rw [hp8] at X
   simp only [hp8]
   clear hp8
   obtain ⟨a0, a1, a2, a3, a4, a5, a6⟩ := box_wt X.out
   obtain ⟨b0, b1, b2, b3, b4, b5, b6⟩ := box_wt Y.out
   go_wp2_with fail
   refine (CW2.out).mono ?_
   rintro e w2 ⟨rfl, hb⟩
   have HB3 := h! (bmore HB2.out hb n!)
   clear hb CW2 a0 a1 a2 a3 a4 a5 a6 b0 b1 b2 b3 b4 b5 b6
   rcases s with _ | _
   ·have e : x = false := by
     rw [HX.out, decide_eq_false_iff_not]
     exact ne_at HU.out HV.out (of_decide_eq_false HS.out.symm)
    subst e
    go_wp2_with fail
    go_ret
    exact ⟨rfl, HB3.out⟩
   ·have e := of_decide_eq_true HS.out.symm
    have NX := h! (take_more HK.out HU.out (by rw [e]; exact HV.out))
    clear e
    go_wp2_with fail
    go_roundw
    case rel => exact ⟨k + 1, by omega, by go_num, HB3, NX⟩
    case measure => simp [intOf]; omega
  ·have e : x = true := by
    rw [HX.out, decide_eq_true_eq]
    have hk2 : k = n := by omega
    subst hk2
    exact take_all HK.out HL.out HR.out
   subst e
   go_wp2_with fail
   go_ret
   exact ⟨rfl, HB.out⟩
theorem equalD_any (A B : Option Addr) (n m ca cb : Nat) (l r : List Sp) (w : World) (h1 : SpsIs w A n ca l) (h2 : SpsIs w B m cb r) :
  Calls Tryz.prog 44 #[.slice A n ca, .slice B m cb] w (IsB (decide (l = r)) w) := by
 obtain ⟨x, hx⟩ : ∃ x, x = decide (l = r) := ⟨_, rfl⟩
 rw [← hx]
 have HX := h! hx
 have HL := h! h1.2.1
 have HR := h! h2.2.1
 have hn63 := h1.small
 have hm63 := h2.small
 have H1 := h! (fun W (hb : Below w.heap.size w W) => h1.below hb)
 have H2 := h! (fun W (hb : Below w.heap.size w W) => h2.below hb)
 clear hx h1 h2
 by_cases hnm : n = m
 rotate_left
 ·have e : x = false := by
   rw [HX.out, decide_eq_false_iff_not]
   intro h
   have := HL.out
   have := HR.out
   rw [h] at *
   omega
  subst e
  have h3 : ¬ ((n : Int) = (m : Int)) := by omega
  have h4 : ((n : Int) == (m : Int)) = false := by simpa using h3
  go_enter Tryz.func44, Tryz.ntmps44
  go_wp2_with fail
  go_ret
  exact ⟨rfl, Below.refl _ _⟩
 subst hnm
 go_enter Tryz.func44, Tryz.ntmps44
 go_wp2_with fail
 go_loopw [13] (fun i wr => ∃ k : Nat, k ≤ n ∧ i = .int .i64 k ∧ Hid (Below w.heap.size w wr) ∧ Hid (l.take k = r.take k)) (fun i _ => n - (intOf i).toNat)
 case atStart => exact ⟨0, Nat.zero_le _, rfl, h! (Below.refl _ _), h! (by simp)⟩
 case round =>
  obtain ⟨k, hk, rfl, HB, HK⟩ := hrel
  by_cases hlt : k < n
  ·obtain ⟨x1, hx1⟩ : ∃ y, l[k]? = some y := ⟨_, List.getElem?_eq_getElem (by have := HL.out; omega)⟩
   obtain ⟨y1, hy1⟩ : ∃ y, r[k]? = some y := ⟨_, List.getElem?_eq_getElem (by have := HR.out; omega)⟩
   have HU := h! hx1
   have HV := h! hy1
   obtain ⟨bl, o, rfl, _, _, a0, a1⟩ := (H1.out _ HB.out).at_ hx1
   obtain ⟨bl2, o2, rfl, _, _, b0, b1⟩ := (H2.out _ HB.out).at_ hy1
   clear hx1 hy1
   have hk0 : (0 : Int) ≤ (k : Int) := by omega
   have hkn : (k : Int) < (n : Int) := by omega
   by_cases hxy : x1 = y1
   ·have NX := h! (take_more HK.out HU.out (by rw [hxy]; exact HV.out))
    subst hxy
    clear HU HV
    obtain ⟨xt, xi⟩ := x1
    simp only at a0 a1 b0 b1
    go_wp2_with fail
    go_quiet (fail)
    have HB2 := h! (below_drewN HB.out nq)
    go_wp2_with fail
    go_roundw
    case rel => exact ⟨k + 1, by omega, by go_num, HB2, NX⟩
    case measure => simp [intOf]; omega
   ·have e : x = false := by
     rw [HX.out, decide_eq_false_iff_not]
     exact ne_at HU.out HV.out hxy
    subst e
    clear HU HV
    obtain ⟨xt, xi⟩ := x1
    obtain ⟨yt, yi⟩ := y1
    simp only at a0 a1 b0 b1
    by_cases ht : xt = yt
    ·subst ht
     have hi : (xi == yi) = false := by simp; rintro rfl; exact hxy rfl
     clear hxy
     go_wp2_with fail
     go_quiet (fail)
     have HB2 := h! (below_drewN HB.out nq)
     go_wp2_with fail
     go_ret
     exact ⟨rfl, HB2.out⟩
    ·have hi : (xt == yt) = false := by simpa using ht
     clear hxy ht
     go_wp2_with fail
     go_quiet (fail)
     have HB2 := h! (below_drewN HB.out nq)
     go_wp2_with fail
     go_ret
     exact ⟨rfl, HB2.out⟩
  ·have e : x = true := by
    rw [HX.out, decide_eq_true_eq]
    have hk2 : k = n := by omega
    subst hk2
    exact take_all HK.out HL.out HR.out
   subst e
   go_wp2_with fail
   go_ret
   exact ⟨rfl, HB.out⟩
theorem psame15_any (va vb : Value) (a b : Sk) (w : World) (h1 : SkIs w va a) (h2 : SkIs w vb b) : Calls Tryz.prog 88 #[va, vb] w (IsB (decide (a = b)) w) := by
 obtain ⟨A, ca, B, cb, rfl, r1, d1⟩ := h1
 obtain ⟨C, cc, D, cd, rfl, r2, d2⟩ := h2
 have C1 := h! (fun W (hb : Below w.heap.size w W) => equalW_any A C _ _ ca cc a.ws b.ws W (r1.below hb) (r2.below hb))
 have C2 := h! (fun W (hb : Below w.heap.size w W) => equalD_any B D _ _ cb cd a.ds b.ds W (d1.below hb) (d2.below hb))
 obtain ⟨r, hr⟩ : ∃ r, r = decide (a = b) := ⟨_, rfl⟩
 obtain ⟨s1, hs1⟩ : ∃ s, s = decide (a.ws = b.ws) := ⟨_, rfl⟩
 obtain ⟨s2, hs2⟩ : ∃ s, s = decide (a.ds = b.ds) := ⟨_, rfl⟩
 rw [← hr]
 rw [← hs1] at C1
 rw [← hs2] at C2
 have HR := h! (show r = (decide (a.c = b.c) && s1 && s2) from by
  obtain ⟨c1, w1, d1⟩ := a
  obtain ⟨c2, w2, d2⟩ := b
  rw [hr, hs1, hs2, Bool.eq_iff_iff]
  simp [and_assoc])
 clear hr hs1 hs2 r1 d1 r2 d2
 obtain ⟨ac, aw, ad⟩ := a
 obtain ⟨bc, bw, bd⟩ := b
 unfold vsk
 simp only at C1 C2 HR ⊢
 generalize aw.length = n at C1 ⊢
 generalize ad.length = m at C2 ⊢
 generalize bw.length = p at C1 ⊢
 generalize bd.length = q at C2 ⊢
 have HB := h! (show Below w.heap.size w ((w.alloc (.cells #[.int .i64 ac, .slice A n ca, .slice B m cb] 39)).alloc (.cells #[.int .i64 bc, .slice C p cc, .slice D q cd] 39)) from ((Below.refl _ _).alloc n! _).alloc (by simp) _)
 have X := h! ((Box.new w 39 #[.int .i64 ac, .slice A n ca, .slice B m cb]).alloc (.cells #[.int .i64 bc, .slice C p cc, .slice D q cd] 39))
 have Y := h! (Box.new_at (w := w.alloc (.cells #[.int .i64 ac, .slice A n ca, .slice B m cb] 39)) (t := 39) (cs := #[.int .i64 bc, .slice C p cc, .slice D q cd]) (w.heap.size + 1) (by simp))
 go_enter Tryz.func88, Tryz.ntmps88
 go_upto_region 1 with (fail)
 generalize (w.alloc (.cells #[.int .i64 ac, .slice A n ca, .slice B m cb] 39)).alloc (.cells #[.int .i64 bc, .slice C p cc, .slice D q cd] 39) = w1 at HB X Y ⊢
 generalize w.heap.size + 1 = p3 at Y ⊢
 obtain ⟨p2, hp2⟩ : ∃ p2, w.heap.size = p2 := ⟨_, rfl⟩
 rw [hp2] at X
 simp only [hp2]
 clear hp2
 obtain ⟨x0, x1, x2⟩ := box_sk X.out
 obtain ⟨y0, y1, y2⟩ := box_sk Y.out
 by_cases h1 : ac = bc
 rotate_left
 ·have e : r = false := by rw [HR.out]; simp [h1]
  subst e
  have h2 : (ac == bc) = false := by simpa using h1
  go_wp2_with fail
  go_ret
  exact ⟨rfl, HB.out⟩
 subst h1
 go_wp2_with fail
 refine (C1.out _ HB.out).mono ?_
 rintro e w2 ⟨rfl, hb⟩
 have HB2 := h! (bmore HB.out hb n!)
 have X2 := h! (X.out.below hb X.out.lt)
 have Y2 := h! (Y.out.below hb Y.out.lt)
 clear hb x0 x1 x2 y0 y1 y2 C1
 obtain ⟨x0, x1, x2⟩ := box_sk X2.out
 obtain ⟨y0, y1, y2⟩ := box_sk Y2.out
 rcases s1 with _ | _
 ·have e : r = false := by rw [HR.out]; simp
  subst e
  go_wp2_with fail
  go_ret
  exact ⟨rfl, HB2.out⟩
 go_wp2_with fail
 refine (C2.out _ HB2.out).mono ?_
 rintro e w3 ⟨rfl, hb⟩
 have HB3 := h! (bmore HB2.out hb n!)
 clear hb x0 x1 x2 y0 y1 y2 C2
 go_wp2_with fail
 go_ret
 exact ⟨by rw [HR.out]; simp, HB3.out⟩
theorem flat_cut {α : Type} {f : α → List Value} {s : Nat} : ∀ (l : List α) (k : Nat), (∀ a ∈ l, (f a).length = s) → (flat f l).take (k * s) = flat f (l.take k)
 | [], k, _ => by simp [flat]
 | a :: l, 0, _ => by simp [flat]
 | a :: l, k + 1, h => by
  have ha := h a (List.mem_cons_self ..)
  rw [flat_cons, List.take_succ_cons, flat_cons, Nat.add_mul, Nat.one_mul, List.take_append, ha, List.take_of_length_le (by omega), Nat.add_sub_cancel, flat_cut l k (fun b hb => h b (List.mem_cons_of_mem _ hb))]
theorem sps_cut {w : World} {A : Option Addr} {n c k : Nat} {l : List Sp} (h : SpsIs w A n c l) (hk : k ≤ n) : SpsIs w A k c (l.take k) := by
 obtain ⟨⟨h1, h2⟩, h3, h4, h5⟩ := h
 have hl : (l.take k).length = k := by rw [List.length_take]; omega
 have he : flat spc (l.take k) = (flat spc l).take (k * 2) := (flat_cut (f := spc) (s := 2) l k (fun a _ => rfl)).symm
 refine ⟨⟨by rw [flat_length (f := spc) (s := 2) (fun a _ => rfl), hl], fun hp => ?_⟩, hl, by omega, h5⟩
 obtain ⟨ad, e, hb, hc⟩ := h2 (by omega)
 refine ⟨ad, e, hb, fun j u hu => hc j u ?_⟩
 rw [he, List.getElem?_take] at hu
 split at hu
 ·exact hu
 ·cases hu
theorem agree16_any (A B : Option Addr) (n m ca cb : Nat) (x y : List Sp) (w : World) (h1 : SpsIs w A n ca x) (h2 : SpsIs w B m cb y) (hn4 : n ≤ 4096) (hm4 : m ≤ 4096) :
  Calls Tryz.prog 27 #[.slice A n ca, .slice B m cb] w (IsB (OM.agreeF x y) w) := by
 have K1 := h! (common16_any A B n m ca cb x y w h1 h2 hn4)
 have K2 := h! (fun W (hb : Below w.heap.size w W) => common16_any B A m n cb ca y x W (h2.below hb) (h1.below hb) hm4)
 obtain ⟨r, hr⟩ : ∃ r, r = OM.agreeF x y := ⟨_, rfl⟩
 rw [← hr]
 have HR := h! hr
 obtain ⟨p, hp⟩ : ∃ p, p = OM.com x y := ⟨_, rfl⟩
 obtain ⟨q, hq⟩ : ∃ q, q = OM.com y x := ⟨_, rfl⟩
 have HE := h! (show r = decide (p.take (min p.length q.length) = q.take (min p.length q.length)) by rw [hr, hp, hq]; rfl)
 rw [← hp] at K1
 rw [← hq] at K2
 clear hr hp hq h1 h2 HR
 go_enter Tryz.func27, Tryz.ntmps27
 go_wp2_with fail
 refine (K1.out).mono ?_
 rintro e w1 ⟨v1, rfl, ho1, hb1⟩
 obtain ⟨A1, c1, rfl, hs1⟩ := sps_new ho1
 have HS1 := h! hs1
 have HB1 := h! hb1
 clear ho1 hs1 hb1 K1
 go_wp2_with fail
 refine (K2.out w1 HB1.out).mono ?_
 rintro e w2 ⟨v2, rfl, ho2, hb2⟩
 obtain ⟨A2, c2, rfl, hs2⟩ := sps_new ho2
 have HB2 := h! (bmore HB1.out hb2 n!)
 replace HS1 := h! (HS1.out.below hb2)
 have HS2 := h! hs2
 clear ho2 hs2 hb2 K2 HB1
 obtain ⟨np, hnp⟩ : ∃ np, np = p.length := ⟨_, rfl⟩
 obtain ⟨nq, hnq⟩ : ∃ nq, nq = q.length := ⟨_, rfl⟩
 rw [← hnp] at HS1 ⊢
 rw [← hnq] at HS2 ⊢
 rw [← hnp, ← hnq] at HE
 have hpc := HS1.out.2.2.1
 have hqc := HS2.out.2.2.1
 have hp63 := HS1.out.small
 have hq63 := HS2.out.small
 obtain ⟨z, hz⟩ : ∃ z, z = min np nq := ⟨_, rfl⟩
 have hz1 : z ≤ np := by omega
 have hz2 : z ≤ nq := by omega
 have hmin : min (np : Int) (nq : Int) = (z : Int) := by omega
 rw [← hz] at HE
 have KS := h! (fun W (hb : Below w2.heap.size w2 W) => rsameStamps_any A1 A2 z z c1 c2 (p.take z) (q.take z) W ((sps_cut HS1.out hz1).below hb) ((sps_cut HS2.out hz2).below hb))
 rw [← HE.out] at KS
 have k0 : (0 : Int) ≤ (z : Int) := by omega
 have k1 : (z : Int) ≤ (c1 : Int) := by omega
 have k2 : (z : Int) ≤ (c2 : Int) := by omega
 have k3 : z ≤ c1 := by omega
 have k4 : z ≤ c2 := by omega
 clear hnp hnq hz
 go_upto_region 3 with (fail)
 refine wp_region_held_drew (S := fun _ => True) (by kernel_rfl) trivial (fun hHeld => ?_)
 refine qT 0 ?_; try simp only [Act.put, qq]
 refine qT 1 ?_; try simp only [Act.put, qq]
 refine qT 3 ?_; try simp only [Act.put, qq]
 refine qT 4 ?_; try simp only [Act.put, qq]
 refine qT 2 ?_; try simp only [Act.put, qq]
 refine qT 5 ?_; try simp only [Act.put, qq]
 refine qR 6 fun K hK => ?_
 go_simp
 refine (KS.out _ (Below.refl _ _).drew).mono ?_
 rintro e w5 ⟨rfl, hb⟩
 have HB5 := h! (bmore HB2.out ((Below.refl _ _).drew.trans (hb.mono (Below.refl w2.heap.size w2).drew.size)) n!)
 refine hK.out _ _ trivial (fun hHeld => ?_)
 clear hK hb
 try simp only [Act.put, qq]
 refine qT 7 ?_; try simp only [Act.put, qq]
 refine wpAnyH_done (by kernel_rfl) ?_ _
 go_wp2_with fail
 go_ret
 exact ⟨rfl, HB5.out⟩
end KP
namespace KP
open Go.RowKit CP TP
open Go.Maps (Keyed IsMap Tidy int_keyed keyOf_int_mk)
open CM (Mg Cm)
open TM (Sp)
open KM (Wt Sk)
theorem any_mem {y : List Sp} {i : Int} : decide (i ∈ y.map fun s => s.i) = y.any fun z => z.i == i := by
 rw [Bool.eq_iff_iff, decide_eq_true_iff, List.any_eq_true, List.mem_map]
 simp
theorem pcommon16_any (A B : Option Addr) (n m ca cb : Nat) (x y : List Sp) (w : World) (h1 : SpsIs w A n ca x) (h2 : SpsIs w B m cb y) (hn4 : n ≤ 4096) (hm4 : m ≤ 4096) (hi1 : ∀ s ∈ x, i64In s.i) (hi2 : ∀ s ∈ y, i64In s.i) :
  Calls Tryz.prog 43 #[.slice A n ca, .slice B m cb] w fun e w' => ∃ v, e = .returned v ∧ w'.ownsRow w.heap.size 46 2 v (OM.com x y).length (flat spc (OM.com x y)) ∧ Below w.heap.size w w' := by
 obtain ⟨j0, hj, hy0, hy1, hy2⟩ := info_parts info_sp
 have hn := h1.small
 have HX := h! h1.2.1
 have H1 := h! h1
 have HI := h! hi1
 have HP := h! (pplS_any B m cb y w h2 hm4 hi2)
 clear h1 h2 hi1 hi2
 go_enter Tryz.func43, Tryz.ntmps43
 go_wp2_with fail
 refine (HP.out).mono ?_
 rintro e w1 ⟨v, rfl, ⟨b, rfl, hm⟩, hb⟩
 have HM := h! (fun W (hb : Below w1.heap.size w1 W) => ownsMap_below hm hb)
 have H11 := h! (H1.out.below hb)
 have HBW := h! hb
 have HT0 := h! (show CoR w1 x y 0 (.slice none 0 0) w1 from ⟨Below.refl _ _, World.ownsRow_nil _ _ _ _⟩)
 clear hm hb HP
 go_wp2_with fail
 go_loopw [6, 15] (fun u i wr => ∃ k : Nat, k ≤ n ∧ i = .int .i64 k ∧ Hid (CoR w1 x y k u wr)) (fun _ i _ => n - (intOf i).toNat)
 case atStart => exact ⟨0, by omega, rfl, HT0⟩
 case round =>
  clear HT0
  obtain ⟨k, hk, rfl, HT⟩ := hrel
  by_cases hlt : k < n
  ·obtain ⟨a, ha⟩ : ∃ a, x[k]? = some a := ⟨_, List.getElem?_eq_getElem (by have := HX.out; omega)⟩
   have HMR := h! (com_more (y := y) ha)
   have HIA := h! (HI.out a (List.mem_of_getElem? ha))
   obtain ⟨b1, o1, rfl, _, _, x0, x1⟩ := (H11.out.below HT.out.bl).at_ ha
   have hk0 : (0 : Int) ≤ (k : Int) := by omega
   have hkn : (k : Int) < (n : Int) := by omega
   clear ha
   obtain ⟨ta, ia⟩ := a
   simp only at x0 x1 HMR HIA
   have HB := h! (show Below wr.heap.size wr (wr.alloc (.cells #[.int .i64 ta, .int .i64 ia] 46)) from (Below.refl _ _).alloc n! _)
   have Y := h! (Box.new wr 46 #[.int .i64 ta, .int .i64 ia])
   go_upto_region 6 with (fail)
   clear x0 x1
   generalize wr.alloc (.cells #[.int .i64 ta, .int .i64 ia] 46) = w4 at HB Y ⊢
   generalize wr.heap.size = g4 at Y ⊢
   have HT4 := h! (HT.out.below HB.out)
   have y0 := Y.out.cell 0
   have y1 := Y.out.cell 1
   simp at y0 y1
   have HHAS := h! (show Maps.has (plD (y.map fun s => s.i)) (.int .i64 ia) = (y.any fun z => z.i == ia) by rw [plD_has, any_mem])
   obtain ⟨bb, hbb⟩ : ∃ bb, bb = y.any fun z => z.i == ia := ⟨_, rfl⟩
   rw [← hbb] at HHAS HMR
   clear hbb
   have hf4 : n ≤ 4096 := hn4
   have hql : (OM.com (x.take k) y).length ≤ 4096 := by
    refine Nat.le_trans (List.length_filter_le _ _) ?_
    rw [List.length_take]
    omega
   obtain ⟨q, hq⟩ : ∃ q, q = OM.com (x.take k) y := ⟨_, rfl⟩
   have HQ := h! hq
   rw [← hq] at hql
   clear hq
   rcases bb with _ | _
   ·have NX := h! (show CoR w1 x y (k + 1) u6 w4 from by
     have h1 := HMR.out
     simp only [Bool.false_eq_true, if_false, List.append_nil] at h1
     exact ⟨HT4.out.bl, by rw [h1]; exact HT4.out.ow⟩)
    go_wp2_with (at_lookup; refine wpList_lookup_own_ok_int _ rfl _ _ 72 rfl 3 3 .i64 lawI Tryz.underlying72 Tryz.underlying3 (zeroI _) b _ _ rfl (HM.out _ HT4.out.bl) _ _ rfl (keyOf_int_mk Tryz.underlying3 (wfI HIA.out)) ?_; intro cc hat hwc; rw [HHAS.out]; clear hat hwc)
    go_roundw
    case rel => exact ⟨k + 1, by omega, by go_num, NX⟩
    case measure => simp [intOf]; omega
   ·obtain ⟨A9, c9, rfl, hc9, hm9⟩ := own_form HT4.out.ow
    rw [← HQ.out] at hc9 ⊢
    have hal : Below w4.heap.size w4 (w4.alloc (.cells #[.int .i64 ta, .int .i64 ia] 46)) := b!
    have HO5 := h! (show (w4.alloc (.cells #[.int .i64 ta, .int .i64 ia] 46)).ownsRow w1.heap.size 46 2 (.slice A9 q.length c9) q.length (flat spc q) by
     have := own_below3 HT4.out.ow hal
     rwa [← HQ.out] at this)
    have HBA := h! (bmore HT4.out.bl hal n!)
    have HRG := h! (rdG_box (s := 2) (n := 1) (Box.new w4 46 #[.int .i64 ta, .int .i64 ia]) (xs := spc ⟨ta, ia⟩) rfl rfl)
    clear hal
    go_wp2_with (first
     | (at_lookup; refine wpList_lookup_own_ok_int _ rfl _ _ 72 rfl 3 3 .i64 lawI Tryz.underlying72 Tryz.underlying3 (zeroI _) b _ _ rfl (HM.out _ HT4.out.bl) _ _ rfl (keyOf_int_mk Tryz.underlying3 (wfI HIA.out)) ?_; intro cc hat hwc; rw [HHAS.out]; clear hat hwc)
     | (at_builtin; refine wpList_append_g _ rfl _ _ 22 rfl w1.heap.size 46 j0 _ 2 16 Tryz.underlying22 hj hy0 hy1 hy2 rfl (by omega) (.slice A9 q.length c9) q.length (flat spc q) rfl HO5.out (some ⟨w4.heap.size, 0, none⟩) 1 1 (spc ⟨ta, ia⟩) rfl HRG.out (spc_one _) (by unfold maxLen; omega) (by omega) HBA.out.size ?_; intro v2 w6 hown hgr hob; have HB6 := h! (below_row HBA.out HO5.out HBA.out.size hgr); have HO6 := h! hown; clear hown hgr hob))
    have NX := h! (show CoR w1 x y (k + 1) v2 w6 from by
     have h1 := HMR.out
     simp only [if_true] at h1
     refine ⟨HB6.out, ?_⟩
     rw [h1, ← HQ.out, List.length_append]
     have := HO6.out
     simpa [flat] using this)
    go_wp2_with fail
    go_roundw
    case rel => exact ⟨k + 1, by omega, by go_num, NX⟩
    case measure => simp [intOf]; omega
  ·obtain rfl : n = k := by omega
   have HE := h! (show CoR w1 x y n u6 wr ∧ x.take n = x from ⟨HT.out, List.take_of_length_le (by have := HX.out; omega)⟩)
   clear HT
   go_wp2_with fail
   go_ret
   have h1 := HE.out.1.ow
   rw [HE.out.2] at h1
   exact ⟨_, rfl, own_base h1 HBW.out.size, bmore HBW.out HE.out.1.bl n!⟩
end KP
section
open Go.RowKit
theorem str_at {w : World} {A : Option Addr} {n : Nat} {l : List UInt8} (h : Rd w A n (bc l)) (cap : Nat) : (convert 120 9 (.slice A n cap)).run Tryz.prog w = .ok (.string ⟨l.toArray⟩) w :=
 run_string_of _ _ _ 5 _ _ cap _ Tryz.underlying120 Tryz.underlying5 Tryz.underlying9 h
end
namespace KP
open Go.RowKit CP TP
open CM (Mg Cm)
open TM (Sp)
open KM (Wt Sk)
theorem rleast_any (A : Option Addr) (n c : Nat) (l : List Wt) (w : World) (h : KR KW w A n c l) (hne : l ≠ []) : Calls Tryz.prog 120 #[.slice A n c] w (IsN (KM.lst l : Nat) w) := by
 obtain ⟨r, hr⟩ : ∃ r, r = KM.lst l := ⟨_, rfl⟩
 rw [← hr]
 have HR := h! hr
 have HL := h! h.len
 have hn63 := h.small
 have H := h! (fun W (hb : Below w.heap.size w W) => h.below hb)
 have H1 := h! (upto_one hne)
 clear h hne hr
 go_enter Tryz.func120, Tryz.ntmps120
 go_wp2_with fail
 go_loopw [3, 4] (fun a i wr => ∃ p k : Nat, k ≤ n + 1 ∧ a = .int .i64 p ∧ i = .int .i64 k ∧ Below w.heap.size w wr ∧ Hid (Upto l k p)) (fun a i _ => n + 1 - (intOf i).toNat)
 case atStart => exact ⟨0, 1, by omega, rfl, rfl, Below.refl _ _, H1⟩
 case round =>
  clear H1
  obtain ⟨p, k, hk, rfl, rfl, hB, HU⟩ := hrel
  have HB := h! hB
  clear hB
  by_cases hlt : k < n
  ·obtain ⟨y, hy⟩ : ∃ y, l[k]? = some y := ⟨_, List.getElem?_eq_getElem (by have := HL.out; omega)⟩
   have HY := h! hy
   obtain ⟨x, hx⟩ : ∃ x, l[p]? = some x := by obtain ⟨x, h, _⟩ := HU.out; exact ⟨x, h⟩
   have HXx := h! hx
   obtain ⟨bl, o, P, q, rfl, _, _, hat, _⟩ := wts_at (H.out _ HB.out) hy
   obtain ⟨bl', o', P', q', e', hpn, _, hat', _⟩ := wts_at (H.out _ HB.out) hx
   injection e' with e'
   injection e' with e1 e2
   subst e1 e2
   have HAT := h! (And.intro hat hat')
   obtain ⟨b0, b1, b2, b3, b4, b5, b6⟩ := hat
   obtain ⟨a0, a1, a2, a3, a4, a5, a6⟩ := hat'
   clear hx hy
   have hk0 : (0 : Int) ≤ (k : Int) := by omega
   have hkn : (k : Int) < (n : Int) := by omega
   have hp0 : (0 : Int) ≤ (p : Int) := by omega
   have hp1 : (p : Int) < (n : Int) := by omega
   obtain ⟨d, hd⟩ : ∃ d, d = TM.less (KM.stp y) (KM.stp x) := ⟨_, rfl⟩
   have HD := h! hd
   have C1 := h! (fun w => rstamp_any P q y w)
   have C2 := h! (fun w => rstamp_any P' q' x w)
   have C3 := h! (fun w => rless_any (KM.stp y) (KM.stp x) w)
   rw [← hd] at C3
   clear hd
   have hbl := cell_block b0
   obtain ⟨⟨yi, yg, yt, yk, yb⟩, ym, yf⟩ := y
   obtain ⟨⟨xi, xg, xt, xk, xb⟩, xm, xf⟩ := x
   unfold vwt at C1 C2
   unfold KM.stp at C1 C2 C3
   unfold vsp at C3
   simp only at a0 a1 a2 a3 a4 a5 a6 b0 b1 b2 b3 b4 b5 b6 C1 C2 C3
   have HSS := h! (fun (w' : World) (h : Below wr.heap.size wr w') => show w'.cell? ⟨bl, o + k * 7, none⟩ = some (.int .i64 yi) ∧ w'.cell? ⟨bl, o + k * 7 + 1, none⟩ = some (.slice P yg.length q) ∧ w'.cell? ⟨bl, o + k * 7 + 2, none⟩ = some (.int .i64 yt) ∧ w'.cell? ⟨bl, o + k * 7 + 3, none⟩ = some (.string yk) ∧ w'.cell? ⟨bl, o + k * 7 + 4, none⟩ = some (.string yb) ∧ w'.cell? ⟨bl, o + k * 7 + 5, none⟩ = some (.int .i64 ym) ∧ w'.cell? ⟨bl, o + k * 7 + 6, none⟩ = some (.bool yf) ∧ w'.cell? ⟨bl, o + p * 7, none⟩ = some (.int .i64 xi) ∧ w'.cell? ⟨bl, o + p * 7 + 1, none⟩ = some (.slice P' xg.length q') ∧ w'.cell? ⟨bl, o + p * 7 + 2, none⟩ = some (.int .i64 xt) ∧ w'.cell? ⟨bl, o + p * 7 + 3, none⟩ = some (.string xk) ∧ w'.cell? ⟨bl, o + p * 7 + 4, none⟩ = some (.string xb) ∧ w'.cell? ⟨bl, o + p * 7 + 5, none⟩ = some (.int .i64 xm) ∧ w'.cell? ⟨bl, o + p * 7 + 6, none⟩ = some (.bool xf) from
    ⟨(h.cell (cell_block b0)).trans b0, (h.cell (cell_block b1)).trans b1, (h.cell (cell_block b2)).trans b2, (h.cell (cell_block b3)).trans b3, (h.cell (cell_block b4)).trans b4, (h.cell (cell_block b5)).trans b5, (h.cell (cell_block b6)).trans b6, (h.cell (cell_block a0)).trans a0, (h.cell (cell_block a1)).trans a1, (h.cell (cell_block a2)).trans a2, (h.cell (cell_block a3)).trans a3, (h.cell (cell_block a4)).trans a4, (h.cell (cell_block a5)).trans a5, (h.cell (cell_block a6)).trans a6⟩)
   have bb1 : Below wr.heap.size wr wr.drew := (Below.refl _ _).drew
   go_wp2_with fail
   obtain ⟨ud, hud⟩ : ∃ ud, ud = wr.drew := ⟨_, rfl⟩
   refine wp_region_held_drew (S := fun w' => w'.cell? ⟨bl, o + k * 7, none⟩ = some (.int .i64 yi) ∧ w'.cell? ⟨bl, o + k * 7 + 1, none⟩ = some (.slice P yg.length q) ∧ w'.cell? ⟨bl, o + k * 7 + 2, none⟩ = some (.int .i64 yt) ∧ w'.cell? ⟨bl, o + k * 7 + 3, none⟩ = some (.string yk) ∧ w'.cell? ⟨bl, o + k * 7 + 4, none⟩ = some (.string yb) ∧ w'.cell? ⟨bl, o + k * 7 + 5, none⟩ = some (.int .i64 ym) ∧ w'.cell? ⟨bl, o + k * 7 + 6, none⟩ = some (.bool yf) ∧ w'.cell? ⟨bl, o + p * 7, none⟩ = some (.int .i64 xi) ∧ w'.cell? ⟨bl, o + p * 7 + 1, none⟩ = some (.slice P' xg.length q') ∧ w'.cell? ⟨bl, o + p * 7 + 2, none⟩ = some (.int .i64 xt) ∧ w'.cell? ⟨bl, o + p * 7 + 3, none⟩ = some (.string xk) ∧ w'.cell? ⟨bl, o + p * 7 + 4, none⟩ = some (.string xb) ∧ w'.cell? ⟨bl, o + p * 7 + 5, none⟩ = some (.int .i64 xm) ∧ w'.cell? ⟨bl, o + p * 7 + 6, none⟩ = some (.bool xf)) (by kernel_rfl) (HSS.out _ bb1) (fun hHeld => ?_)
   rw [← hud] at bb1 hHeld ⊢
   clear hud
   refine qT 0 ?_; try simp only [Act.put, qq]
   refine qT 1 ?_; try simp only [Act.put, qq]
   refine qT 2 ?_; try simp only [Act.put, qq]
   refine qT 3 ?_; try simp only [Act.put, qq]
   refine qT 5 ?_; try simp only [Act.put, qq]
   refine qT 6 ?_; try simp only [Act.put, qq]
   refine qT 7 ?_; try simp only [Act.put, qq]
   refine qT 8 ?_; try simp only [Act.put, qq]
   refine qR 4 fun K hK => ?_
   go_simp
   refine (C1.out _).mono ?_
   rintro e w3 ⟨rfl, hb⟩
   have bb2 := bmore bb1 hb n!
   clear hb
   unfold vsp
   refine hK.out _ _ (HSS.out _ bb2) (fun hHeld => ?_)
   clear hK
   try simp only [Act.put, qq]
   refine qR 9 fun K hK => ?_
   go_simp
   refine (C2.out _).mono ?_
   rintro e w4 ⟨rfl, hb⟩
   have bb3 := bmore bb2 hb n!
   clear hb
   unfold vsp
   refine hK.out _ _ (HSS.out _ bb3) (fun hHeld => ?_)
   clear hK
   try simp only [Act.put, qq]
   refine qR 10 fun K hK => ?_
   go_simp
   refine (C3.out _).mono ?_
   rintro e w5 ⟨rfl, hb⟩
   have bb4 := bmore bb3 hb n!
   clear hb
   refine hK.out _ _ (HSS.out _ bb4) (fun hHeld => ?_)
   clear hK
   try simp only [Act.put, qq]
   refine wpAnyH_done (by kernel_rfl) ?_ _
   clear hHeld HSS
   have HN := h! (bmore HB.out bb4 n!)
   clear a0 a1 a2 a3 a4 a5 a6 b0 b1 b2 b3 b4 b5 b6 C1 C2 C3 HAT
   rcases d with _ | _
   ·have HF := h! (HU.out.keep HXx.out HY.out HD.out.symm)
    go_wp2_with fail
    go_roundw
    case rel => exact ⟨p, k + 1, by omega, rfl, by go_num, HN.out, HF⟩
    case measure => simp [intOf]; omega
   ·have HF := h! (HU.out.turn HXx.out HY.out HD.out.symm)
    go_wp2_with fail
    go_roundw
    case rel => exact ⟨k, k + 1, by omega, rfl, by go_num, HN.out, HF⟩
    case measure => simp [intOf]; omega
  ·have HF := h! (show r = p by rw [HR.out]; exact HU.out.all (by have := HL.out; omega))
   go_wp2_with fail
   go_ret
   exact ⟨by rw [HF.out]; rfl, HB.out⟩
def WaQ (l : List Wt) (id : Int) (w0 w : World) (e : Ending) (w' : World) : Prop := ∃ (b : Bool) (A : Option Addr) (c : Nat) (y : Wt), e = .returned (.tuple #[vwt A c y, .bool b]) ∧ Below w.heap.size w w' ∧ RowIs w0 A c y.m.gs ∧
 ((b = true ∧ l[KM.wat l id]? = some y) ∨ (b = false ∧ l[KM.wat l id]? = none))
theorem wait16_any (v : Value) (s : Sk) (id : Int) (w0 w : World) (h : SkIs w0 v s) (hb0 : Below w0.heap.size w0 w) : Calls Tryz.prog 80 #[v, .int .i64 id] w (WaQ s.ws id w0 w) := by
 obtain ⟨A, c, B, d, rfl, h1, h2⟩ := h
 obtain ⟨n, hn⟩ : ∃ n, n = s.ws.length := ⟨_, rfl⟩
 rw [← hn] at h1 ⊢
 have HL := h! hn
 have hn63 := h1.small
 have H := h! h1
 have HB0 := h! hb0
 obtain ⟨sc, ws, ds⟩ := s
 simp only at *
 unfold vsk
 obtain ⟨W1, hW1⟩ : ∃ W1, W1 = (w.alloc (.cells #[.int .i64 sc, .slice A n c, .slice B ds.length d] 39)).alloc (.cells #[.int .i64 0, .slice none 0 0, .int .i64 0, .string ⟨#[]⟩, .string ⟨#[]⟩, .int .i64 0, .bool false] 78) := ⟨_, rfl⟩
 have HB := h! (show Below w.heap.size w W1 by rw [hW1]; exact ((Below.refl _ _).alloc n! _).alloc (by simp) _)
 have X := h! (show Box W1 w.heap.size 39 #[.int .i64 sc, .slice A n c, .slice B ds.length d] by rw [hW1]; exact (Box.new w _ _).alloc _)
 have Y := h! (show Box W1 (w.heap.size + 1) 78 #[.int .i64 0, .slice none 0 0, .int .i64 0, .string ⟨#[]⟩, .string ⟨#[]⟩, .int .i64 0, .bool false] by rw [hW1]; exact Box.new_at _ (by simp))
 clear h1 h2 hn hb0
 go_enter Tryz.func80, Tryz.ntmps80
 go_upto_region 1 with (fail)
 rw [← hW1]
 clear hW1
 obtain ⟨g, hg⟩ : ∃ g, w.heap.size = g := ⟨_, rfl⟩
 rw [hg] at X Y
 simp only [hg]
 have HG := h! hg
 clear hg
 go_wp2_with fail
 go_loopw [6] (fun i wr => ∃ k : Nat, k ≤ n ∧ i = .int .i64 k ∧ Below W1.heap.size W1 wr ∧ Hid (∀ j y, j < k → ws[j]? = some y → y.m.id ≠ id)) (fun i _ => n - (intOf i).toNat)
 case atStart => exact ⟨0, by omega, rfl, Below.refl _ _, h! fun j y hj => absurd hj (by omega)⟩
 case round =>
  obtain ⟨k, hk, rfl, hB, HN⟩ := hrel
  have HB2 := h! hB
  obtain ⟨x0, x1, x2⟩ := box_sk (X.out.below hB X.out.lt)
  have HY := h! (Y.out.below hB Y.out.lt)
  have HBW := h! (bmore HB.out hB n!)
  have HBV := h! (bmore HB0.out HBW.out n!)
  clear hB
  by_cases hlt : k < n
  ·obtain ⟨a, ha⟩ : ∃ a, ws[k]? = some a := ⟨_, List.getElem?_eq_getElem (by have := HL.out; omega)⟩
   have HA := h! ha
   obtain ⟨bl, o, P, q, rfl, _, hbl, hat, hrr⟩ := wts_at H.out ha
   have HRR := h! hrr
   obtain ⟨b0, b1, b2, b3, b4, b5, b6⟩ := hat
   have a0 := (HBV.out.cell (cell_block b0)).trans b0
   have a1 := (HBV.out.cell (cell_block b1)).trans b1
   have a2 := (HBV.out.cell (cell_block b2)).trans b2
   have a3 := (HBV.out.cell (cell_block b3)).trans b3
   have a4 := (HBV.out.cell (cell_block b4)).trans b4
   have a5 := (HBV.out.cell (cell_block b5)).trans b5
   have a6 := (HBV.out.cell (cell_block b6)).trans b6
   clear ha hrr b0 b1 b2 b3 b4 b5 b6
   have hk0 : (0 : Int) ≤ (k : Int) := by omega
   have hkn : (k : Int) < (n : Int) := by omega
   by_cases he : a.m.id = id
   ·have HF := h! (show ws[KM.wat ws id]? = some a by rw [KM.wat_eq HA.out he HN.out]; exact HA.out)
    have hb : (a.m.id == id) = true := by simpa using he
    clear he
    obtain ⟨⟨y0, y1, y2, y3, y4, y5, y6⟩, f0, f1, f2, f3, f4, f5, f6⟩ := box_wtf HY.out
    have HZ := h! (pt7_box HY.out (.int .i64 a.m.id) (.slice P a.m.gs.length q) (.int .i64 a.m.tp) (.string a.m.key) (.string a.m.body) (.int .i64 a.t) (.bool a.f))
    have HZB := h! (pt7_below HBW.out (g := g + 1) (by have := HG.out; omega) (.int .i64 a.m.id) (.slice P a.m.gs.length q) (.int .i64 a.m.tp) (.string a.m.key) (.string a.m.body) (.int .i64 a.t) (.bool a.f))
    unfold pt7 at HZ HZB
    go_wp2_with fail
    obtain ⟨u0, u1, u2, u3, u4, u5, u6⟩ := box_wt HZ.out
    exact bodyPost_ret (v := .tuple #[.agg #[.int .i64 a.m.id, .slice P a.m.gs.length q, .int .i64 a.m.tp, .string a.m.key, .string a.m.body, .int .i64 a.t, .bool a.f], .bool true]) (by simp [results, Tryz.results80, go_sem, u0, u1, u2, u3, u4, u5, u6]; try rfl) rfl ⟨true, P, q, a, rfl, HZB.out, HRR.out, .inl ⟨rfl, HF.out⟩⟩
   ·have HF := h! (show ∀ j y, j < k + 1 → ws[j]? = some y → y.m.id ≠ id from fun j y hj hy => by
     rcases (show j < k ∨ j = k by omega) with h | rfl
     ·exact HN.out j y h hy
     ·rw [HA.out] at hy; injection hy with hy; subst hy; exact he)
    have hb : (a.m.id == id) = false := by simpa using he
    clear he
    go_wp2_with fail
    go_roundw
    case rel => exact ⟨k + 1, by omega, by go_num, HB2.out, HF⟩
    case measure => simp [intOf]; omega
  ·have HF := h! (show ws[KM.wat ws id]? = none by
    have hkn : k = ws.length := by have := HL.out; omega
    have : KM.wat ws id = ws.length := KM.wat_no.2 fun y hy => by
     obtain ⟨j, hj⟩ := List.getElem?_of_mem hy
     exact HN.out j y (by have := (List.getElem?_eq_some_iff.1 hj).1; omega) hj
    rw [this]
    exact List.getElem?_eq_none n!)
   obtain ⟨⟨y0, y1, y2, y3, y4, y5, y6⟩, f0, f1, f2, f3, f4, f5, f6⟩ := box_wtf HY.out
   have HZ := h! (pt7_box HY.out (.int .i64 0) (.slice none 0 0) (.int .i64 0) (.string ⟨#[]⟩) (.string ⟨#[]⟩) (.int .i64 0) (.bool false))
   have HZB := h! (pt7_below HBW.out (g := g + 1) (by have := HG.out; omega) (.int .i64 0) (.slice none 0 0) (.int .i64 0) (.string ⟨#[]⟩) (.string ⟨#[]⟩) (.int .i64 0) (.bool false))
   unfold pt7 at HZ HZB
   go_wp2_with fail
   obtain ⟨u0, u1, u2, u3, u4, u5, u6⟩ := box_wt HZ.out
   exact bodyPost_ret (v := .tuple #[.agg #[.int .i64 0, .slice none 0 0, .int .i64 0, .string ⟨#[]⟩, .string ⟨#[]⟩, .int .i64 0, .bool false], .bool false]) (by simp [results, Tryz.results80, go_sem, u0, u1, u2, u3, u4, u5, u6]; try rfl) rfl ⟨false, none, 0, ⟨CM.mz, 0, false⟩, rfl, HZB.out, RowIs.none _, .inr ⟨rfl, HF.out⟩⟩
end KP
end Go.Proofs.YteebeiaokfenmaaGreat
