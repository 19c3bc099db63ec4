/- Contracts of functions, L44: each as its theorem says. -/
import Derived.Test.YteebeiaokfenmaaGreatL21
set_option linter.unusedVariables false
set_option linter.unusedSimpArgs false
set_option maxRecDepth 100000
set_option maxHeartbeats 16000000
namespace Go.Proofs.YteebeiaokfenmaaGreat
namespace KP
open Go.RowKit CP TP
open CM (Mg Cm)
open TM (Sp)
open KM (Wt Sk)
def PutIs (b : Nat) (R : Sk × List Mg × Bool) (w : World) (e : Ending) (w' : World) : Prop := ∃ v' vm, e = .returned (.tuple #[v', vm, .bool R.2.2]) ∧ SkO w' b v' R.1 ∧ KO KM_ w' b 33 vm R.2.1 ∧ Below b w w' ∧ ∀ g cs, g < w.heap.size → Box w g 39 cs → Box w' g 39 cs
def PtX (w1 : World) (b p3 p5 p6 : Nat) (Cc : Array Value) (s : Sk) (W : World) : Prop := ∃ A cw B dd, PtS w1 b p3 p5 p6 Cc s.c (.slice A s.ws.length cw) (.slice B s.ds.length dd) s.ws s.ds W
def lenAt (W : World) (p : Nat) : Nat := match W.cell? ⟨p, 1, none⟩ with
 | some (.slice _ n _) => n
 | _ => 0
theorem PtS.len {w1 W : World} {b p3 p5 p6 n cw : Nat} {Cc : Array Value} {c : Int} {vD : Value} {A : Option Addr} {ws : List Wt} {ds : List Sp} (h : PtS w1 b p3 p5 p6 Cc c (.slice A n cw) vD ws ds W) : lenAt W p3 = n := by
 unfold lenAt
 rw [h.bx.cell 1]
 rfl
theorem PtS.ret {w1 W : World} {b p3 p5 p6 : Nat} {Cc : Array Value} {c : Int} {vW vD : Value} {ws : List Wt} {ds : List Sp} (h : PtS w1 b p3 p5 p6 Cc c vW vD ws ds W) :
  SkO (((W.setCell ⟨p6, 0, none⟩ (.int .i64 c)).setCell ⟨p6, 1, none⟩ vW).setCell ⟨p6, 2, none⟩ vD) b (vsk c vW vD) ⟨c, ws, ds⟩ ∧ Box (((W.setCell ⟨p6, 0, none⟩ (.int .i64 c)).setCell ⟨p6, 1, none⟩ vW).setCell ⟨p6, 2, none⟩ vD) p6 39 #[.int .i64 c, vW, vD] ∧
   Below b w1 (((W.setCell ⟨p6, 0, none⟩ (.int .i64 c)).setCell ⟨p6, 1, none⟩ vW).setCell ⟨p6, 2, none⟩ vD) ∧ Kept (fun e => e = 39) W (((W.setCell ⟨p6, 0, none⟩ (.int .i64 c)).setCell ⟨p6, 1, none⟩ vW).setCell ⟨p6, 2, none⟩ vD) ∧
   ∀ g cs, g < p3 → Box w1 g 39 cs → Box (((W.setCell ⟨p6, 0, none⟩ (.int .i64 c)).setCell ⟨p6, 1, none⟩ vW).setCell ⟨p6, 2, none⟩ vD) g 39 cs := by
 have hk := kept_put3 h.br (.int .i64 c) vW vD
 exact ⟨⟨vW, vD, rfl, KO.kept hk (by decide) (by decide) h.ow, hk.own h.od (by decide)⟩, Box.put3 h.br _ _ _, below_put3 h.bl h.ord.2.2.1 _ _ _, hk, fun g cs hg hx => (((h.kp g _ cs hg isT_skeen hx).far (p := ⟨p6, 0, none⟩) (Nat.ne_of_lt (Nat.lt_trans hg h.lt)) _).far (p := ⟨p6, 1, none⟩) (Nat.ne_of_lt (Nat.lt_trans hg h.lt)) _).far (p := ⟨p6, 2, none⟩) (Nat.ne_of_lt (Nat.lt_trans hg h.lt)) _⟩
theorem wts_store {w : World} {b : Nat} {T : TypeId} {l : List Wt} {q n c k : Nat} {x : Wt} (h : KO KW w b T (.slice (some ⟨q, 0, none⟩) n c) l) (hk : l[k]? = some x) :
  ∃ B d, (w.cell? ⟨q, k * 7, none⟩ = some (.int .i64 x.m.id) ∧ w.cell? ⟨q, k * 7 + 1, none⟩ = some (.slice B x.m.gs.length d) ∧ w.cell? ⟨q, k * 7 + 2, none⟩ = some (.int .i64 x.m.tp) ∧ w.cell? ⟨q, k * 7 + 3, none⟩ = some (.string x.m.key) ∧ w.cell? ⟨q, k * 7 + 4, none⟩ = some (.string x.m.body) ∧
   w.cell? ⟨q, k * 7 + 5, none⟩ = some (.int .i64 x.t) ∧ w.cell? ⟨q, k * 7 + 6, none⟩ = some (.bool x.f)) ∧ (∀ i, w.frozen? ⟨q, i, none⟩ = false) ∧ RowGe w b B d x.m.gs := by
 obtain ⟨B, d, h1, h2, h3⟩ := h.cellAt hk
 exact ⟨B, d, ⟨h1 0 _ rfl, h1 1 _ rfl, h1 2 _ rfl, h1 3 _ rfl, h1 4 _ rfl, h1 5 _ rfl, h1 6 _ rfl⟩, h2, h3⟩
theorem pre_few {s : Sk} {g : Int} {c : Cm} (h1 : s.ws.length ≤ 200 ∧ s.ds.length ≤ 200) (h2 : 0 ≤ s.c ∧ s.c ≤ 1073741824) (hnf : ¬ (KM.asg s g c ∧ KM.full s)) : (KM.pre s g c).ws.length ≤ 200 ∧ (KM.pre s g c).ds = s.ds ∧ 0 ≤ (KM.pre s g c).c ∧ (KM.pre s g c).c ≤ 1073741824 := by
 unfold KM.pre
 split
 ·rename_i h
  have hf : ¬ KM.full s := fun k => hnf ⟨h, k⟩
  have q1 : s.c ≠ 1073741824 := fun k => hf (.inl k)
  have q2 : s.ws.length ≠ 200 := fun k => hf (.inr k)
  refine ⟨?_, rfl, by show 0 ≤ s.c + 1; omega, by show s.c + 1 ≤ _; omega⟩
  show ((s.ws.filter fun x => decide (x.m.id < c.m.id)) ++ [(⟨c.m, s.c + 1, false⟩ : Wt)] ++ (s.ws.filter fun x => decide (c.m.id < x.m.id))).length ≤ 200
  rw [List.length_append, List.length_append, List.length_singleton]
  have : ∀ l : List Wt, (l.filter fun x => decide (x.m.id < c.m.id)).length + (l.filter fun x => decide (c.m.id < x.m.id)).length ≤ l.length := by
   intro l
   induction l with
   | nil => simp
   | cons a l ih =>
    simp only [List.filter_cons]
    by_cases h1 : a.m.id < c.m.id
    ·have h3 : ¬ c.m.id < a.m.id := by omega
     simp [h1, h3]; omega
    ·by_cases h3 : c.m.id < a.m.id
     ·simp [h1, h3]; omega
     ·simp [h1, h3]; omega
  have := this s.ws
  omega
 ·exact ⟨h1.1, rfl, h2.1, h2.2⟩
theorem drain_step {ws : List Wt} {ds : List Sp} {l : List Mg} {x : Wt} (hk : ws[KM.lst ws]? = some x) (hf : x.f = true) : KM.drain ws.length ws ds l = KM.drain (ws.eraseIdx (KM.lst ws)).length (ws.eraseIdx (KM.lst ws)) (ds ++ [KM.stp x]) (l ++ [x.m]) := by
 have hl := (List.getElem?_eq_some_iff.1 hk).1
 obtain ⟨n, hn⟩ : ∃ n, ws.length = n + 1 := ⟨ws.length - 1, by omega⟩
 have he : (ws.eraseIdx (KM.lst ws)).length = n := by rw [List.length_eraseIdx, if_pos hl]; omega
 rw [he, hn]
 simp [KM.drain, hk, hf]
theorem drain_stop {ws : List Wt} {ds : List Sp} {l : List Mg} {x : Wt} (hk : ws[KM.lst ws]? = some x) (hf : x.f = false) : KM.drain ws.length ws ds l = (ws, ds, l) := by
 have hl := (List.getElem?_eq_some_iff.1 hk).1
 obtain ⟨n, hn⟩ : ∃ n, ws.length = n + 1 := ⟨ws.length - 1, by omega⟩
 rw [hn]
 simp [KM.drain, hk, hf]
theorem asg_iff {s : Sk} {g : Int} {c : Cm} : KM.asg s g c ↔ (c.k = 1 ∧ watI s.ws c.m.id = -1 ∧ KM.doneF s.ds c.m.id = false ∧ QM.has c.m.gs g = true) := by
 unfold KM.asg watI
 have hh : QM.has c.m.gs g = true ↔ g ∈ c.m.gs := by unfold QM.has; simp
 have := KM.wat_le s.ws c.m.id
 rw [hh]
 constructor
 ·rintro ⟨h1, h2, h3, h4⟩
  exact ⟨h1, by rw [h2, if_neg (Nat.lt_irrefl _)], h3, h4⟩
 ·rintro ⟨h1, h2, h3, h4⟩
  refine ⟨h1, ?_, h3, h4⟩
  split at h2
  ·omega
  ·omega
theorem rput_any (b : Nat) (vs : Value) (s : Sk) (g : Int) (vc : Value) (c : Cm) (w : World) (hs : SkO w b vs s) (hb : b ≤ w.heap.size) (hc : ∀ W, Below b w W → CmIs W vc c) (h1 : s.ws.length ≤ 200) (h2 : s.ds.length ≤ 200) (hgs : c.m.gs.length ≤ 17592186044416)
  (hcr : 0 ≤ s.c ∧ s.c ≤ 1073741824) : Calls Tryz.prog 97 #[vs, .int .i64 g, vc] w (PutIs b (KM.putF s g c) w) := by
 obtain ⟨Ac, cc, Bc, dc, rfl, rc1, rc2⟩ := hc w (Below.refl _ _)
 have HC := h! hc
 have HCR := h! (fun W (hb : Below b w W) => (show RowIs W Ac cc c.m.gs by
  obtain ⟨A', c', B', d', e, h1, h2⟩ := hc W hb
  injection e with e
  injection e with e
  injection e with _ e
  injection e with _ e
  injection e with e _
  injection e with e1 e2 e3
  subst e1 e3
  exact h1))
 obtain ⟨res, hres⟩ : ∃ res, res = KM.putF s g c := ⟨_, rfl⟩
 rw [← hres]
 have HRES := h! hres
 obtain ⟨aq, has⟩ : ∃ q, q = decide (KM.asg s g c) := ⟨_, rfl⟩
 have HAS := h! has
 have HAI := h! (asg_iff (s := s) (g := g) (c := c))
 have HCRI := h! hcr
 obtain ⟨vW, vD, rfl, ho1, ho2⟩ := hs
 obtain ⟨A, cw, rfl, hg1⟩ := ho1.g
 obtain ⟨B, dd, rfl, hd1, hd2⟩ := own_form ho2
 have HL1 := h! (show s.ws.length ≤ 200 ∧ s.ds.length ≤ 200 from ⟨h1, h2⟩)
 have HGS := h! hgs
 clear hres has hc rc1 rc2 hg1 hd1 hd2 hgs hcr h1 h2
 unfold vsk ccells
 have HPS : Hid (PtX (((w.alloc (.cells #[.int .i64 s.c, .slice A s.ws.length cw, .slice B s.ds.length dd] 39)).alloc (.cells #[.int .u8 c.k, .int .i64 c.m.id, .slice Ac c.m.gs.length cc, .int .i64 c.m.tp, .string c.m.key, .string c.m.body, .int .i64 c.id, .int .i64 c.tm, .slice Bc c.ms.length dc, .int .i64 c.tp, .int .i64 c.wh, .int .i64 c.n] 91)).alloc (.cells #[.int .i64 0, .slice none 0 0, .slice none 0 0] 39)) b w.heap.size (w.heap.size + 1) (w.heap.size + 1 + 1)
   #[.int .u8 c.k, .int .i64 c.m.id, .slice Ac c.m.gs.length cc, .int .i64 c.m.tp, .string c.m.key, .string c.m.body, .int .i64 c.id, .int .i64 c.tm, .slice Bc c.ms.length dc, .int .i64 c.tp, .int .i64 c.wh, .int .i64 c.n] s
   (((w.alloc (.cells #[.int .i64 s.c, .slice A s.ws.length cw, .slice B s.ds.length dd] 39)).alloc (.cells #[.int .u8 c.k, .int .i64 c.m.id, .slice Ac c.m.gs.length cc, .int .i64 c.m.tp, .string c.m.key, .string c.m.body, .int .i64 c.id, .int .i64 c.tm, .slice Bc c.ms.length dc, .int .i64 c.tp, .int .i64 c.wh, .int .i64 c.n] 91)).alloc (.cells #[.int .i64 0, .slice none 0 0, .slice none 0 0] 39))) := h! (by
  have hbl : ∀ o1 o2 o3 : Obj, Below w.heap.size w (((w.alloc o1).alloc o2).alloc o3) := fun o1 o2 o3 => (((Below.refl _ _).alloc n! _).alloc (by simp) _).alloc (by simp; omega) _
  exact ⟨A, cw, B, dd, Below.refl _ _, ⟨by omega, by omega, by omega, Nat.le_trans hb (hbl _ _ _).size⟩, ((Box.new _ _ _).alloc _).alloc _, ho1.below (hbl _ _ _), own_below3 ho2 (hbl _ _ _), (Box.new_at _ (by simp)).alloc _, Box.new_at _ (by simp), fun _ _ _ _ _ h => h, by omega⟩)
 have HBW : Hid (Below w.heap.size w (((w.alloc (.cells #[.int .i64 s.c, .slice A s.ws.length cw, .slice B s.ds.length dd] 39)).alloc (.cells #[.int .u8 c.k, .int .i64 c.m.id, .slice Ac c.m.gs.length cc, .int .i64 c.m.tp, .string c.m.key, .string c.m.body, .int .i64 c.id, .int .i64 c.tm, .slice Bc c.ms.length dc, .int .i64 c.tp, .int .i64 c.wh, .int .i64 c.n] 91)).alloc (.cells #[.int .i64 0, .slice none 0 0, .slice none 0 0] 39))) := h! ((((Below.refl _ _).alloc n! _).alloc (by simp) _).alloc (by simp; omega) _)
 clear ho1 ho2
 obtain ⟨ck, ⟨ci, cg, ct, cy, cb⟩, cid, ctm, cms, ctp, cwh, cn⟩ := c
 simp only at HPS HBW HAI HCR HGS ⊢
 go_enter Tryz.func97, Tryz.ntmps97
 go_upto_region 1 with (fail)
 generalize ((w.alloc (.cells #[.int .i64 s.c, .slice A s.ws.length cw, .slice B s.ds.length dd] 39)).alloc (.cells #[.int .u8 ck, .int .i64 ci, .slice Ac cg.length cc, .int .i64 ct, .string cy, .string cb, .int .i64 cid, .int .i64 ctm, .slice Bc cms.length dc, .int .i64 ctp, .int .i64 cwh, .int .i64 cn] 91)).alloc (.cells #[.int .i64 0, .slice none 0 0, .slice none 0 0] 39) = w1 at HPS HBW ⊢
 have HBB := h! (HBW.out.mono hb)
 generalize w.heap.size + 1 + 1 = p6 at HPS ⊢
 generalize w.heap.size + 1 = p5 at HPS ⊢
 obtain ⟨p3, hp3⟩ : ∃ p3, w.heap.size = p3 := ⟨_, rfl⟩
 rw [hp3] at HPS
 simp only [hp3]
 have HP3 := h! hp3
 clear hp3
 obtain ⟨Cc, hCc⟩ : ∃ Cc : Array Value, Cc = #[.int .u8 ck, .int .i64 ci, .slice Ac cg.length cc, .int .i64 ct, .string cy, .string cb, .int .i64 cid, .int .i64 ctm, .slice Bc cms.length dc, .int .i64 ctp, .int .i64 cwh, .int .i64 cn] := ⟨_, rfl⟩
 have HCC := h! hCc
 rw [← hCc] at HPS
 clear hCc
 go_cut [37] (fun u wx => u = .bool aq ∧ PtX w1 b p3 p5 p6 Cc s wx)
 case first =>
  as_aux_lemma =>
   obtain ⟨A, cw, B, dd, hps⟩ := HPS.out
   have HS1 := h! hps
   clear hps
   obtain ⟨x0, x1, x2⟩ := box_sk HS1.out.bx
   obtain ⟨y0, y1, y2, y3, y4, y5, y6, y7, y8, y9, y10, y11⟩ := box_cm (HCC.out ▸ HS1.out.bc)
   have KWt := h! (fun W (h : PtS w1 b p3 p5 p6 Cc s.c (.slice A s.ws.length cw) (.slice B s.ds.length dd) s.ws s.ds W) => rwaits_any (vsk s.c (.slice A s.ws.length cw) (.slice B s.ds.length dd)) s ci W ⟨A, cw, B, dd, rfl, h.ow.slice.2.2.2.r, ⟨rdg_own h.od, rfl, (by obtain ⟨_, _, e, h1, h2⟩ := own_form h.od; injection e with e1 e2 e3; subst e1 e3; exact ⟨h1, h2⟩)⟩⟩)
   have KDn := h! (fun W (h : PtS w1 b p3 p5 p6 Cc s.c (.slice A s.ws.length cw) (.slice B s.ds.length dd) s.ws s.ds W) => rdone_any (vsk s.c (.slice A s.ws.length cw) (.slice B s.ds.length dd)) s ci W ⟨A, cw, B, dd, rfl, h.ow.slice.2.2.2.r, ⟨rdg_own h.od, rfl, (by obtain ⟨_, _, e, h1, h2⟩ := own_form h.od; injection e with e1 e2 e3; subst e1 e3; exact ⟨h1, h2⟩)⟩⟩)
   have KHs := h! (fun W (h : PtS w1 b p3 p5 p6 Cc s.c (.slice A s.ws.length cw) (.slice B s.ds.length dd) s.ws s.ds W) => rHas_any Ac cg.length cc cg g W (HCR.out W (HBB.out.trans h.bl)).1 (by have := (HCR.out W (HBB.out.trans h.bl)).2; unfold maxLen at this; omega))
   unfold vsk at KWt KDn
   by_cases k1 : ck = 1
   rotate_left
   ·have e1 : (ck == 1) = false := by simpa using k1
    have HF := h! (show aq = false by rw [HAS.out]; exact decide_eq_false (fun h => k1 (HAI.out.1 h).1))
    clear k1
    go_wp2_with fail
    go_meet
    case rel => exact ⟨by rw [HF.out], A, cw, B, dd, HS1.out⟩
   have e1 : (ck == 1) = true := by simpa using k1
   have HK1 := h! k1
   clear k1
   obtain ⟨wi, hwi⟩ : ∃ q, q = watI s.ws ci := ⟨_, rfl⟩
   obtain ⟨dn, hdn⟩ : ∃ q, q = KM.doneF s.ds ci := ⟨_, rfl⟩
   obtain ⟨hs, hhs⟩ : ∃ q, q = QM.has cg g := ⟨_, rfl⟩
   rw [← hwi] at KWt HAI
   rw [← hdn] at KDn HAI
   rw [← hhs] at KHs HAI
   have HWN := h! (show wi < 0 → wi = -1 by rw [hwi]; unfold watI; split <;> omega)
   clear hwi hdn hhs
   go_wp2_with fail
   refine (KWt.out w1 HS1.out).mono ?_
   rintro e w2 ⟨rfl, hb2⟩
   replace HS1 := h! (HS1.out.below hb2)
   clear hb2 x0 x1 x2 y0 y1 y2 y3 y4 y5 y6 y7 y8 y9 y10 y11
   obtain ⟨x0, x1, x2⟩ := box_sk HS1.out.bx
   obtain ⟨y0, y1, y2, y3, y4, y5, y6, y7, y8, y9, y10, y11⟩ := box_cm (HCC.out ▸ HS1.out.bc)
   by_cases k2 : wi < 0
   rotate_left
   ·have HF := h! (show aq = false by rw [HAS.out]; exact decide_eq_false (fun h => by have := (HAI.out.1 h).2.1; omega))
    go_wp2_with fail
    go_meet
    case rel => exact ⟨by rw [HF.out], A, cw, B, dd, HS1.out⟩
   go_wp2_with fail
   refine (KDn.out w2 HS1.out).mono ?_
   rintro e w3 ⟨rfl, hb2⟩
   replace HS1 := h! (HS1.out.below hb2)
   clear hb2 x0 x1 x2 y0 y1 y2 y3 y4 y5 y6 y7 y8 y9 y10 y11
   obtain ⟨x0, x1, x2⟩ := box_sk HS1.out.bx
   obtain ⟨y0, y1, y2, y3, y4, y5, y6, y7, y8, y9, y10, y11⟩ := box_cm (HCC.out ▸ HS1.out.bc)
   rcases dn with _ | _
   rotate_left
   ·have HF := h! (show aq = false by rw [HAS.out]; exact decide_eq_false (fun h => by have := (HAI.out.1 h).2.2.1; cases this))
    go_wp2_with fail
    go_meet
    case rel => exact ⟨by rw [HF.out], A, cw, B, dd, HS1.out⟩
   go_wp2_with fail
   refine (KHs.out w3 HS1.out).mono ?_
   rintro e w4 ⟨rfl, rfl⟩
   have HF := h! (show aq = hs by
    rw [HAS.out]
    rcases hs with _ | _
    ·exact decide_eq_false (fun h => by have := (HAI.out.1 h).2.2.2; cases this)
    ·exact decide_eq_true (HAI.out.2 ⟨HK1.out, HWN.out k2, by first | rfl | trivial, by first | rfl | trivial⟩))
   go_wp2_with fail
   go_meet
   case rel => exact ⟨by rw [HF.out], A, cw, B, dd, HS1.out⟩
 case rest =>
  obtain ⟨rfl, hpx⟩ := hcut
  have HPX := h! hpx
  clear hpx HPS
  go_upto_if 37 with (fail)
  go_cut [] (fun wx => PtX w1 b p3 p5 p6 Cc (KM.pre s g ⟨ck, ⟨ci, cg, ct, cy, cb⟩, cid, ctm, cms, ctp, cwh, cn⟩) wx ∧ ¬ (KM.asg s g ⟨ck, ⟨ci, cg, ct, cy, cb⟩, cid, ctm, cms, ctp, cwh, cn⟩ ∧ KM.full s))
  case first =>
   as_aux_lemma =>
    rcases aq with _ | _
    ·have HNA := h! (of_decide_eq_false HAS.out.symm)
     have HP := h! (show KM.pre s g ⟨ck, ⟨ci, cg, ct, cy, cb⟩, cid, ctm, cms, ctp, cwh, cn⟩ = s from if_neg HNA.out)
     go_wp2_with fail
     go_meet
     case rel => exact ⟨by rw [HP.out]; exact HPX.out, fun h => HNA.out h.1⟩
    have HYA := h! (of_decide_eq_true HAS.out.symm)
    obtain ⟨A, cw, B, dd, hps⟩ := HPX.out
    have HS1 := h! hps
    clear hps
    obtain ⟨x0, x1, x2⟩ := box_sk HS1.out.bx
    by_cases hf : KM.full s
    ·have HR := h! (show res = (s, [], false) by rw [HRES.out, KM.putF, if_pos ⟨HYA.out, hf⟩])
     obtain ⟨z0, z1, z2, f0, f1, f2⟩ := HS1.out.br.three
     have RT := h! HS1.out.ret
     rcases (show s.c = 1073741824 ∨ (s.c ≠ 1073741824 ∧ s.ws.length = 200) from by
      rcases hf with h | h
      ·exact .inl h
      ·by_cases h2 : s.c = 1073741824
       ·exact .inl h2
       ·exact .inr ⟨h2, h⟩) with q | ⟨q, q2⟩
     ·have e1 : (s.c == 1073741824) = true := by simpa using q
      clear q hf
      go_wp2_with fail
      obtain ⟨u0, u1, u2⟩ := box_sk RT.out.2.1
      exact bodyPost_ret (v := .tuple #[.agg #[.int .i64 s.c, .slice A s.ws.length cw, .slice B s.ds.length dd], .slice none 0 0, .bool false]) (by simp [results, Tryz.results97, go_sem, u0, u1, u2]; try rfl) rfl ⟨_, _, by rw [HR.out], by rw [HR.out]; exact RT.out.1, by rw [HR.out]; exact kO_nil KM_ _ _ _, HBB.out.trans RT.out.2.2.1, fun g cs hg hx => RT.out.2.2.2.2 g cs (by rw [← HP3.out]; exact hg) (hx.below HBW.out hg)⟩
     ·have e1 : (s.c == 1073741824) = false := by simpa using q
      have e2 : ((s.ws.length : Int) == 200) = true := by simp; omega
      clear q q2 hf
      go_wp2_with fail
      obtain ⟨u0, u1, u2⟩ := box_sk RT.out.2.1
      exact bodyPost_ret (v := .tuple #[.agg #[.int .i64 s.c, .slice A s.ws.length cw, .slice B s.ds.length dd], .slice none 0 0, .bool false]) (by simp [results, Tryz.results97, go_sem, u0, u1, u2]; try rfl) rfl ⟨_, _, by rw [HR.out], by rw [HR.out]; exact RT.out.1, by rw [HR.out]; exact kO_nil KM_ _ _ _, HBB.out.trans RT.out.2.2.1, fun g cs hg hx => RT.out.2.2.2.2 g cs (by rw [← HP3.out]; exact hg) (hx.below HBW.out hg)⟩
    have e1 : (s.c == 1073741824) = false := by simpa using fun h => hf (.inl h)
    have e2 : ((s.ws.length : Int) == 200) = false := by
     have : s.ws.length ≠ 200 := fun h => hf (.inr h)
     simp; omega
    have HNF := h! hf
    have HP := h! (show KM.pre s g ⟨ck, ⟨ci, cg, ct, cy, cb⟩, cid, ctm, cms, ctp, cwh, cn⟩ = ⟨s.c + 1, KM.ins s.ws ⟨⟨ci, cg, ct, cy, cb⟩, s.c + 1, false⟩, s.ds⟩ from if_pos HYA.out)
    have hcr1 := HCRI.out.1
    have hcr2 := HCRI.out.2
    have f0 := HS1.out.bx.frozen 0
    clear hf
    go_upto_region 5 with (fail)
    clear x0 x1 x2 f0
    obtain ⟨hs2, _⟩ := HS1.out.setC (s.c + 1)
    have HS2 := h! hs2
    clear hs2 HS1
    generalize wc.setCell ⟨p3, 0, none⟩ (.int .i64 (s.c + 1)) = w2 at HS2 ⊢
    have HSP := h! (show ∀ (w' : World) vW ws, PtS w1 b p3 p5 p6 Cc (s.c + 1) vW (.slice B s.ds.length dd) ws s.ds w' → w'.cell? ⟨p3, 0, none⟩ = some (.int .i64 (s.c + 1)) ∧ w'.cell? ⟨p5, 1, none⟩ = some (.int .i64 ci) ∧ w'.cell? ⟨p5, 2, none⟩ = some (.slice Ac cg.length cc) ∧ w'.cell? ⟨p5, 3, none⟩ = some (.int .i64 ct) ∧ w'.cell? ⟨p5, 4, none⟩ = some (.string cy) ∧ w'.cell? ⟨p5, 5, none⟩ = some (.string cb) from fun w' vW ws h => by
     have hb := h.bc
     rw [HCC.out] at hb
     exact ⟨h.bx.cell 0, hb.cell 1, hb.cell 2, hb.cell 3, hb.cell 4, hb.cell 5⟩)
    have HSS := h! (fun (w' : World) (h : Below w2.heap.size w2 w') => HSP.out w' _ _ (HS2.out.below h))
    have KT := h! (fun W (h : Below w2.heap.size w2 W) => rtwinMessage_any ⟨ci, cg, ct, cy, cb⟩ _ W ⟨Ac, cc, rfl, HCR.out W (HBB.out.trans (HS2.out.below h).bl)⟩ HGS.out)
    unfold mcells at KT
    simp only at KT
    have hn200 := HL1.out.1
    have bb1 : Below w2.heap.size w2 w2.drew := (Below.refl _ _).drew
    obtain ⟨ud, hud⟩ : ∃ ud, ud = w2.drew := ⟨_, rfl⟩
    refine wp_region_held_drew (S := fun w' => w'.cell? ⟨p3, 0, none⟩ = some (.int .i64 (s.c + 1)) ∧ w'.cell? ⟨p5, 1, none⟩ = some (.int .i64 ci) ∧ w'.cell? ⟨p5, 2, none⟩ = some (.slice Ac cg.length cc) ∧ w'.cell? ⟨p5, 3, none⟩ = some (.int .i64 ct) ∧ w'.cell? ⟨p5, 4, none⟩ = some (.string cy) ∧ w'.cell? ⟨p5, 5, none⟩ = some (.string cb)) (by kernel_rfl) (HSS.out _ bb1) (fun hHeld => ?_)
    rw [← hud] at bb1 hHeld ⊢
    clear hud
    refine qT 0 ?_; try simp only [Act.put, qq]
    refine qT 2 ?_; try simp only [Act.put, qq]
    refine qT 3 ?_; try simp only [Act.put, qq]
    refine qT 5 ?_; try simp only [Act.put, qq]
    refine qT 6 ?_; try simp only [Act.put, qq]
    refine wpAnyH_ready (rs := [1, 4]) (by kernel_rfl) (by simp) ?_
    refine AllReadyH.cons rfl (fun K hK => ?_) (AllReadyH.cons rfl (fun K hK => ?_) AllReadyH.nil)
    ·have hx1 := (HS2.out.below bb1).bx.cell 1
     simp at hx1
     go_simp
     refine hK.out _ _ (HSS.out _ bb1) (fun hHeld => ?_)
     clear hK hx1
     try simp only [Act.put, qq]
     refine qR 4 fun K hK => ?_
     go_simp
     refine (KT.out _ bb1).mono ?_
     rintro e w4 ⟨A6, c6, rfl, hg6, hb6⟩
     unfold mcells
     simp only at hg6 ⊢
     have bb4 := bmore bb1 hb6 n!
     refine hK.out _ _ (HSS.out _ bb4) (fun hHeld => ?_)
     clear hK
     try simp only [Act.put, qq]
     refine qT 7 ?_; try simp only [Act.put, qq]
     refine qR 8 fun K hK => ?_
     go_simp
     refine (rwith_any b A _ cw s.ws A6 c6 ⟨⟨ci, cg, ct, cy, cb⟩, s.c + 1, false⟩ w4 (HS2.out.below bb4).ow.slice.2.2.2 (hg6.mono (HS2.out.below bb1).ord.2.2.2) (by omega) (HS2.out.below bb4).ord.2.2.2).mono ?_
     rintro e w7 ⟨A7, n7, c7, rfl, hko, hb7⟩
     have hn7 := hko.slice.1
     subst hn7
     have bb7 := bmore bb4 hb7 n!
     refine hK.out _ _ (HSS.out _ bb7) (fun hHeld => ?_)
     clear hK
     try simp only [Act.put, qq]
     refine qT 9 ?_; try simp only [Act.put, qq]
     have hx1 := (HS2.out.below bb7).bx.cell 1
     have hf1 := (HS2.out.below bb7).bx.frozen 1
     simp at hx1
     refine qR 10 fun K hK => ?_
     go_simp
     have HS5 := h! ((HS2.out.below bb7).setW hko)
     refine hK.out _ _ (HSP.out _ _ _ HS5.out.1) (fun hHeld => ?_)
     clear hK hx1 hf1
     try simp only [Act.put, qq]
     refine wpAnyH_done (by kernel_rfl) ?_ _
     go_wp2_with fail
     go_meet
     case rel => exact ⟨by rw [HP.out]; exact ⟨A7, c7, B, dd, HS5.out.1⟩, fun h => HNF.out h.2⟩
    ·go_simp
     refine (KT.out _ bb1).mono ?_
     rintro e w4 ⟨A6, c6, rfl, hg6, hb6⟩
     unfold mcells
     simp only at hg6 ⊢
     have bb4 := bmore bb1 hb6 n!
     refine hK.out _ _ (HSS.out _ bb4) (fun hHeld => ?_)
     clear hK
     try simp only [Act.put, qq]
     refine qT 7 ?_; try simp only [Act.put, qq]
     refine qR 1 fun K hK => ?_
     have hx1 := (HS2.out.below bb4).bx.cell 1
     simp at hx1
     go_simp
     refine hK.out _ _ (HSS.out _ bb4) (fun hHeld => ?_)
     clear hK hx1
     try simp only [Act.put, qq]
     refine qR 8 fun K hK => ?_
     go_simp
     refine (rwith_any b A _ cw s.ws A6 c6 ⟨⟨ci, cg, ct, cy, cb⟩, s.c + 1, false⟩ w4 (HS2.out.below bb4).ow.slice.2.2.2 (hg6.mono (HS2.out.below bb1).ord.2.2.2) (by omega) (HS2.out.below bb4).ord.2.2.2).mono ?_
     rintro e w7 ⟨A7, n7, c7, rfl, hko, hb7⟩
     have hn7 := hko.slice.1
     subst hn7
     have bb7 := bmore bb4 hb7 n!
     refine hK.out _ _ (HSS.out _ bb7) (fun hHeld => ?_)
     clear hK
     try simp only [Act.put, qq]
     refine qT 9 ?_; try simp only [Act.put, qq]
     have hx1 := (HS2.out.below bb7).bx.cell 1
     have hf1 := (HS2.out.below bb7).bx.frozen 1
     simp at hx1
     refine qR 10 fun K hK => ?_
     go_simp
     have HS5 := h! ((HS2.out.below bb7).setW hko)
     refine hK.out _ _ (HSP.out _ _ _ HS5.out.1) (fun hHeld => ?_)
     clear hK hx1 hf1
     try simp only [Act.put, qq]
     refine wpAnyH_done (by kernel_rfl) ?_ _
     go_wp2_with fail
     go_meet
     case rel => exact ⟨by rw [HP.out]; exact ⟨A7, c7, B, dd, HS5.out.1⟩, fun h => HNF.out h.2⟩
  case rest =>
   obtain ⟨hpx, hnf⟩ := hcut
   obtain ⟨hq1, hq2, hq3, hq4⟩ := pre_few HL1.out HCRI.out hnf
   have hrs := HRES.out
   rw [KM.putF, if_neg hnf] at hrs
   obtain ⟨t, ht⟩ : ∃ t, t = KM.pre s g ⟨ck, ⟨ci, cg, ct, cy, cb⟩, cid, ctm, cms, ctp, cwh, cn⟩ := ⟨_, rfl⟩
   rw [← ht] at hpx hq1 hq2 hq3 hq4 hrs
   have HT := h! (show t.ws.length ≤ 200 ∧ t.ds.length ≤ 200 from ⟨hq1, by rw [hq2]; exact HL1.out.2⟩)
   have HPX2 := h! hpx
   have HRS := h! hrs
   have HNFF := h! hnf
   clear hpx hnf hq1 hq2 hrs ht HPX HAS HAI HRES HCR HGS
   obtain ⟨tc, tw, td⟩ := t
   simp only at hq3 hq4 HT HPX2 HRS
   obtain ⟨A, cw, B, dd, hps⟩ := HPX2.out
   have HS1 := h! hps
   clear hps HPX2
   simp only at HS1
   have KWt := h! (fun W (h : PtS w1 b p3 p5 p6 Cc tc (.slice A tw.length cw) (.slice B td.length dd) tw td W) => rwaits_any (vsk tc (.slice A tw.length cw) (.slice B td.length dd)) ⟨tc, tw, td⟩ cid W ⟨A, cw, B, dd, rfl, h.ow.slice.2.2.2.r, ⟨rdg_own h.od, rfl, (by obtain ⟨_, _, e, h1, h2⟩ := own_form h.od; injection e with e1 e2 e3; subst e1 e3; exact ⟨h1, h2⟩)⟩⟩)
   unfold vsk at KWt
   simp only at KWt
   obtain ⟨wi, hwi⟩ : ∃ q, q = watI tw cid := ⟨_, rfl⟩
   rw [← hwi] at KWt
   have HWI := h! hwi
   clear hwi
   obtain ⟨F, hF⟩ : ∃ F, F = KM.fnl ⟨tc, tw, td⟩ ⟨ck, ⟨ci, cg, ct, cy, cb⟩, cid, ctm, cms, ctp, cwh, cn⟩ := ⟨_, rfl⟩
   rw [← hF] at HRS
   have HFN := h! hF
   clear hF
   obtain ⟨x0, x1, x2⟩ := box_sk HS1.out.bx
   obtain ⟨y0, y1, y2, y3, y4, y5, y6, y7, y8, y9, y10, y11⟩ := box_cm (HCC.out ▸ HS1.out.bc)
   go_wp2_with fail
   refine (KWt.out wc HS1.out).mono ?_
   rintro e w2 ⟨rfl, hb2⟩
   replace HS1 := h! (HS1.out.below hb2)
   clear hb2 x0 x1 x2 y0 y1 y2 y3 y4 y5 y6 y7 y8 y9 y10 y11 KWt
   go_upto_region 7 with (fail)
   go_cut [92] (fun u wx => (∃ fin : Bool, u = .bool fin ∧ (fin = false → F = ⟨tc, tw, td⟩) ∧ (fin = true → ∃ (j : Nat) (x : Wt), wi = (j : Int) ∧ tw[j]? = some x ∧ F = ⟨max tc ctm, tw.set j ⟨x.m, ctm, true⟩, td⟩)) ∧ PtS w1 b p3 p5 p6 Cc tc (.slice A tw.length cw) (.slice B td.length dd) tw td wx)
   case first =>
    as_aux_lemma =>
     have bb1 : Below w2.heap.size w2 w2.drew := (Below.refl _ _).drew
     by_cases k2 : ck = 2
     rotate_left
     ·have HF := h! (show F = ⟨tc, tw, td⟩ by
       rw [HFN.out, KM.fnl]
       simp only
       split
       ·rfl
       ·rw [if_neg (fun h => k2 h.1)])
      have e1 : (ck == 2) = false := by simpa using k2
      clear k2
      have HSS := h! (show ∀ w', Below w2.heap.size w2 w' → w'.cell? ⟨p3, 0, none⟩ = some (.int .i64 tc) ∧ w'.cell? ⟨p3, 1, none⟩ = some (.slice A tw.length cw) ∧ w'.cell? ⟨p3, 2, none⟩ = some (.slice B td.length dd) ∧ w'.cell? ⟨p5, 0, none⟩ = some (.int .u8 ck) ∧ w'.cell? ⟨p5, 7, none⟩ = some (.int .i64 ctm) from fun w' h => by
       have hb := (HS1.out.below h).bc
       rw [HCC.out] at hb
       exact ⟨(HS1.out.below h).bx.cell 0, (HS1.out.below h).bx.cell 1, (HS1.out.below h).bx.cell 2, hb.cell 0, hb.cell 7⟩)
      obtain ⟨ud, hud⟩ : ∃ ud, ud = w2.drew := ⟨_, rfl⟩
      refine wp_region_held_drew (S := fun w' => w'.cell? ⟨p3, 0, none⟩ = some (.int .i64 tc) ∧ w'.cell? ⟨p3, 1, none⟩ = some (.slice A tw.length cw) ∧ w'.cell? ⟨p3, 2, none⟩ = some (.slice B td.length dd) ∧ w'.cell? ⟨p5, 0, none⟩ = some (.int .u8 ck) ∧ w'.cell? ⟨p5, 7, none⟩ = some (.int .i64 ctm)) (by kernel_rfl) (HSS.out _ bb1) (fun hHeld => ?_)
      rw [← hud] at bb1 hHeld ⊢
      clear hud
      refine qT 0 ?_; try simp only [Act.put, qq]
      refine qT 1 ?_; try simp only [Act.put, qq]
      refine qT 2 ?_; try simp only [Act.put, qq]
      refine qT 3 ?_; try simp only [Act.put, qq]
      refine qS 4 ?_; try simp only [Act.put, qq]
      refine qS 5 ?_; try simp only [Act.put, qq]
      refine qT 6 ?_; try simp only [Act.put, qq]
      refine qT 7 ?_; try simp only [Act.put, qq]
      refine qS 8 ?_; try simp only [Act.put, qq]
      refine qS 9 ?_; try simp only [Act.put, qq]
      refine qS 10 ?_; try simp only [Act.put, qq]
      refine qS 11 ?_; try simp only [Act.put, qq]
      refine qS 12 ?_; try simp only [Act.put, qq]
      refine qS 13 ?_; try simp only [Act.put, qq]
      refine qS 14 ?_; try simp only [Act.put, qq]
      refine qT 15 ?_; try simp only [Act.put, qq]
      refine qT 16 ?_; try simp only [Act.put, qq]
      refine qS 17 ?_; try simp only [Act.put, qq]
      refine qS 18 ?_; try simp only [Act.put, qq]
      refine qS 19 ?_; try simp only [Act.put, qq]
      refine qS 20 ?_; try simp only [Act.put, qq]
      refine qS 21 ?_; try simp only [Act.put, qq]
      refine qS 22 ?_; try simp only [Act.put, qq]
      refine qS 23 ?_; try simp only [Act.put, qq]
      refine qS 24 ?_; try simp only [Act.put, qq]
      refine qS 25 ?_; try simp only [Act.put, qq]
      refine qT 26 ?_; try simp only [Act.put, qq]
      refine wpAnyH_done (by kernel_rfl) ?_ _
      clear hHeld HSS
      go_wp2_with fail
      go_meet
      case rel => exact ⟨⟨false, rfl, fun _ => HF.out, fun h => (by cases h)⟩, HS1.out.below bb1⟩
     have e1 : (ck == 2) = true := by simpa using k2
     have HK2 := h! k2
     by_cases hwk : KM.wat tw cid < tw.length
     rotate_left
     ·have hwi : wi = -1 := by rw [HWI.out]; unfold watI; rw [if_neg hwk]
      subst hwi
      have HF := h! (show F = ⟨tc, tw, td⟩ by
       rw [HFN.out, KM.fnl, show (⟨tc, tw, td⟩ : Sk).ws[KM.wat tw cid]? = none from List.getElem?_eq_none (by show tw.length ≤ _; omega)])
      clear k2 hwk
      have HSS := h! (show ∀ w', Below w2.heap.size w2 w' → w'.cell? ⟨p3, 0, none⟩ = some (.int .i64 tc) ∧ w'.cell? ⟨p3, 1, none⟩ = some (.slice A tw.length cw) ∧ w'.cell? ⟨p3, 2, none⟩ = some (.slice B td.length dd) ∧ w'.cell? ⟨p5, 0, none⟩ = some (.int .u8 ck) ∧ w'.cell? ⟨p5, 7, none⟩ = some (.int .i64 ctm) from fun w' h => by
       have hb := (HS1.out.below h).bc
       rw [HCC.out] at hb
       exact ⟨(HS1.out.below h).bx.cell 0, (HS1.out.below h).bx.cell 1, (HS1.out.below h).bx.cell 2, hb.cell 0, hb.cell 7⟩)
      obtain ⟨ud, hud⟩ : ∃ ud, ud = w2.drew := ⟨_, rfl⟩
      refine wp_region_held_drew (S := fun w' => w'.cell? ⟨p3, 0, none⟩ = some (.int .i64 tc) ∧ w'.cell? ⟨p3, 1, none⟩ = some (.slice A tw.length cw) ∧ w'.cell? ⟨p3, 2, none⟩ = some (.slice B td.length dd) ∧ w'.cell? ⟨p5, 0, none⟩ = some (.int .u8 ck) ∧ w'.cell? ⟨p5, 7, none⟩ = some (.int .i64 ctm)) (by kernel_rfl) (HSS.out _ bb1) (fun hHeld => ?_)
      rw [← hud] at bb1 hHeld ⊢
      clear hud
      refine qT 0 ?_; try simp only [Act.put, qq]
      refine qT 1 ?_; try simp only [Act.put, qq]
      refine qT 2 ?_; try simp only [Act.put, qq]
      refine qT 3 ?_; try simp only [Act.put, qq]
      refine qT 4 ?_; try simp only [Act.put, qq]
      refine qT 5 ?_; try simp only [Act.put, qq]
      refine qT 6 ?_; try simp only [Act.put, qq]
      refine qT 7 ?_; try simp only [Act.put, qq]
      refine qS 8 ?_; try simp only [Act.put, qq]
      refine qS 9 ?_; try simp only [Act.put, qq]
      refine qS 10 ?_; try simp only [Act.put, qq]
      refine qS 11 ?_; try simp only [Act.put, qq]
      refine qS 12 ?_; try simp only [Act.put, qq]
      refine qS 13 ?_; try simp only [Act.put, qq]
      refine qS 14 ?_; try simp only [Act.put, qq]
      refine qT 15 ?_; try simp only [Act.put, qq]
      refine qT 16 ?_; try simp only [Act.put, qq]
      refine qS 17 ?_; try simp only [Act.put, qq]
      refine qS 18 ?_; try simp only [Act.put, qq]
      refine qS 19 ?_; try simp only [Act.put, qq]
      refine qS 20 ?_; try simp only [Act.put, qq]
      refine qS 21 ?_; try simp only [Act.put, qq]
      refine qS 22 ?_; try simp only [Act.put, qq]
      refine qS 23 ?_; try simp only [Act.put, qq]
      refine qS 24 ?_; try simp only [Act.put, qq]
      refine qS 25 ?_; try simp only [Act.put, qq]
      refine qT 26 ?_; try simp only [Act.put, qq]
      refine wpAnyH_done (by kernel_rfl) ?_ _
      clear hHeld HSS
      go_wp2_with fail
      go_meet
      case rel => exact ⟨⟨false, rfl, fun _ => HF.out, fun h => (by cases h)⟩, HS1.out.below bb1⟩
     obtain ⟨j, hj⟩ : ∃ j, j = KM.wat tw cid := ⟨_, rfl⟩
     have hwi : wi = (j : Int) := by rw [HWI.out]; unfold watI; rw [if_pos hwk, hj]
     subst hwi
     obtain ⟨x, hx⟩ : ∃ x, tw[j]? = some x := ⟨_, List.getElem?_eq_getElem (by omega)⟩
     have HXx := h! hx
     have HFV := h! (show F = if x.f = false ∧ x.t ≤ ctm then ⟨max tc ctm, tw.set j ⟨x.m, ctm, true⟩, td⟩ else ⟨tc, tw, td⟩ by
      rw [HFN.out, KM.fnl]
      simp only
      rw [← hj, hx]
      simp only [k2, true_and])
     obtain ⟨q, rfl⟩ := HS1.out.ow.some hx
     obtain ⟨P9, d9, ⟨a0, a1, a2, a3, a4, a5, a6⟩, _, _⟩ := wts_store HS1.out.ow hx
     obtain ⟨⟨xi, xg, xt, xk, xb⟩, xm, xf⟩ := x
     simp only at a5 a6 HFV
     have hj0 : (0 : Int) ≤ (j : Int) := by omega
     have hj1 : (j : Int) < (tw.length : Int) := by omega
     clear k2 hwk hj hx a0 a1 a2 a3 a4
     rcases xf with _ | _
     rotate_left
     ·have HF := h! (show F = ⟨tc, tw, td⟩ by rw [HFV.out, if_neg (fun h => by cases h.1)])
      have HSS := h! (show ∀ w', Below w2.heap.size w2 w' → w'.cell? ⟨p3, 0, none⟩ = some (.int .i64 tc) ∧ w'.cell? ⟨p3, 1, none⟩ = some (.slice (some ⟨q, 0, none⟩) tw.length cw) ∧ w'.cell? ⟨p3, 2, none⟩ = some (.slice B td.length dd) ∧ w'.cell? ⟨p5, 0, none⟩ = some (.int .u8 ck) ∧ w'.cell? ⟨p5, 7, none⟩ = some (.int .i64 ctm) ∧ w'.cell? ⟨q, j * 7 + 5, none⟩ = some (.int .i64 xm) ∧ w'.cell? ⟨q, j * 7 + 6, none⟩ = some (.bool true) from fun w' h => by
       have hb := (HS1.out.below h).bc
       rw [HCC.out] at hb
       exact ⟨(HS1.out.below h).bx.cell 0, (HS1.out.below h).bx.cell 1, (HS1.out.below h).bx.cell 2, hb.cell 0, hb.cell 7, (h.cell (cell_block a5)).trans a5, (h.cell (cell_block a6)).trans a6⟩)
      obtain ⟨ud, hud⟩ : ∃ ud, ud = w2.drew := ⟨_, rfl⟩
      refine wp_region_held_drew (S := fun w' => w'.cell? ⟨p3, 0, none⟩ = some (.int .i64 tc) ∧ w'.cell? ⟨p3, 1, none⟩ = some (.slice (some ⟨q, 0, none⟩) tw.length cw) ∧ w'.cell? ⟨p3, 2, none⟩ = some (.slice B td.length dd) ∧ w'.cell? ⟨p5, 0, none⟩ = some (.int .u8 ck) ∧ w'.cell? ⟨p5, 7, none⟩ = some (.int .i64 ctm) ∧ w'.cell? ⟨q, j * 7 + 5, none⟩ = some (.int .i64 xm) ∧ w'.cell? ⟨q, j * 7 + 6, none⟩ = some (.bool true)) (by kernel_rfl) (HSS.out _ bb1) (fun hHeld => ?_)
      rw [← hud] at bb1 hHeld ⊢
      clear hud
      refine qT 0 ?_; try simp only [Act.put, qq]
      refine qT 1 ?_; try simp only [Act.put, qq]
      refine qT 2 ?_; try simp only [Act.put, qq]
      refine qT 3 ?_; try simp only [Act.put, qq]
      refine qT 4 ?_; try simp only [Act.put, qq]
      refine qT 5 ?_; try simp only [Act.put, qq]
      refine qT 6 ?_; try simp only [Act.put, qq]
      refine qT 7 ?_; try simp only [Act.put, qq]
      refine qT 8 ?_; try simp only [Act.put, qq]
      refine qT 9 ?_; try simp only [Act.put, qq]
      refine qT 10 ?_; try simp only [Act.put, qq]
      refine qT 11 ?_; try simp only [Act.put, qq]
      refine qT 12 ?_; try simp only [Act.put, qq]
      refine qT 13 ?_; try simp only [Act.put, qq]
      refine qT 14 ?_; try simp only [Act.put, qq]
      refine qT 15 ?_; try simp only [Act.put, qq]
      refine qT 16 ?_; try simp only [Act.put, qq]
      refine qS 17 ?_; try simp only [Act.put, qq]
      refine qS 18 ?_; try simp only [Act.put, qq]
      refine qS 19 ?_; try simp only [Act.put, qq]
      refine qS 20 ?_; try simp only [Act.put, qq]
      refine qS 21 ?_; try simp only [Act.put, qq]
      refine qS 22 ?_; try simp only [Act.put, qq]
      refine qS 23 ?_; try simp only [Act.put, qq]
      refine qS 24 ?_; try simp only [Act.put, qq]
      refine qS 25 ?_; try simp only [Act.put, qq]
      refine qT 26 ?_; try simp only [Act.put, qq]
      refine wpAnyH_done (by kernel_rfl) ?_ _
      clear hHeld HSS
      go_wp2_with fail
      go_meet
      case rel => exact ⟨⟨false, rfl, fun _ => HF.out, fun h => (by cases h)⟩, HS1.out.below bb1⟩
     by_cases hct : xm ≤ ctm
     rotate_left
     ·have HF := h! (show F = ⟨tc, tw, td⟩ by rw [HFV.out, if_neg (fun h => hct h.2)])
      have HSS := h! (show ∀ w', Below w2.heap.size w2 w' → w'.cell? ⟨p3, 0, none⟩ = some (.int .i64 tc) ∧ w'.cell? ⟨p3, 1, none⟩ = some (.slice (some ⟨q, 0, none⟩) tw.length cw) ∧ w'.cell? ⟨p3, 2, none⟩ = some (.slice B td.length dd) ∧ w'.cell? ⟨p5, 0, none⟩ = some (.int .u8 ck) ∧ w'.cell? ⟨p5, 7, none⟩ = some (.int .i64 ctm) ∧ w'.cell? ⟨q, j * 7 + 5, none⟩ = some (.int .i64 xm) ∧ w'.cell? ⟨q, j * 7 + 6, none⟩ = some (.bool false) from fun w' h => by
       have hb := (HS1.out.below h).bc
       rw [HCC.out] at hb
       exact ⟨(HS1.out.below h).bx.cell 0, (HS1.out.below h).bx.cell 1, (HS1.out.below h).bx.cell 2, hb.cell 0, hb.cell 7, (h.cell (cell_block a5)).trans a5, (h.cell (cell_block a6)).trans a6⟩)
      obtain ⟨ud, hud⟩ : ∃ ud, ud = w2.drew := ⟨_, rfl⟩
      refine wp_region_held_drew (S := fun w' => w'.cell? ⟨p3, 0, none⟩ = some (.int .i64 tc) ∧ w'.cell? ⟨p3, 1, none⟩ = some (.slice (some ⟨q, 0, none⟩) tw.length cw) ∧ w'.cell? ⟨p3, 2, none⟩ = some (.slice B td.length dd) ∧ w'.cell? ⟨p5, 0, none⟩ = some (.int .u8 ck) ∧ w'.cell? ⟨p5, 7, none⟩ = some (.int .i64 ctm) ∧ w'.cell? ⟨q, j * 7 + 5, none⟩ = some (.int .i64 xm) ∧ w'.cell? ⟨q, j * 7 + 6, none⟩ = some (.bool false)) (by kernel_rfl) (HSS.out _ bb1) (fun hHeld => ?_)
      rw [← hud] at bb1 hHeld ⊢
      clear hud
      refine qT 0 ?_; try simp only [Act.put, qq]
      refine qT 1 ?_; try simp only [Act.put, qq]
      refine qT 2 ?_; try simp only [Act.put, qq]
      refine qT 3 ?_; try simp only [Act.put, qq]
      refine qT 4 ?_; try simp only [Act.put, qq]
      refine qT 5 ?_; try simp only [Act.put, qq]
      refine qT 6 ?_; try simp only [Act.put, qq]
      refine qT 7 ?_; try simp only [Act.put, qq]
      refine qT 8 ?_; try simp only [Act.put, qq]
      refine qT 9 ?_; try simp only [Act.put, qq]
      refine qT 10 ?_; try simp only [Act.put, qq]
      refine qT 11 ?_; try simp only [Act.put, qq]
      refine qT 12 ?_; try simp only [Act.put, qq]
      refine qT 13 ?_; try simp only [Act.put, qq]
      refine qT 14 ?_; try simp only [Act.put, qq]
      refine qT 15 ?_; try simp only [Act.put, qq]
      refine qT 16 ?_; try simp only [Act.put, qq]
      refine qT 17 ?_; try simp only [Act.put, qq]
      refine qT 18 ?_; try simp only [Act.put, qq]
      refine qT 19 ?_; try simp only [Act.put, qq]
      refine qT 20 ?_; try simp only [Act.put, qq]
      refine qT 21 ?_; try simp only [Act.put, qq]
      refine qT 22 ?_; try simp only [Act.put, qq]
      refine qT 23 ?_; try simp only [Act.put, qq]
      refine qT 24 ?_; try simp only [Act.put, qq]
      refine qT 25 ?_; try simp only [Act.put, qq]
      refine qT 26 ?_; try simp only [Act.put, qq]
      refine wpAnyH_done (by kernel_rfl) ?_ _
      clear hHeld HSS
      go_wp2_with fail
      go_meet
      case rel => exact ⟨⟨false, rfl, fun _ => HF.out, fun h => (by cases h)⟩, HS1.out.below bb1⟩
     have HF := h! (show F = ⟨max tc ctm, tw.set j ⟨⟨xi, xg, xt, xk, xb⟩, ctm, true⟩, td⟩ by rw [HFV.out, if_pos ⟨by first | rfl | trivial, hct⟩])
     have HSS := h! (show ∀ w', Below w2.heap.size w2 w' → w'.cell? ⟨p3, 0, none⟩ = some (.int .i64 tc) ∧ w'.cell? ⟨p3, 1, none⟩ = some (.slice (some ⟨q, 0, none⟩) tw.length cw) ∧ w'.cell? ⟨p3, 2, none⟩ = some (.slice B td.length dd) ∧ w'.cell? ⟨p5, 0, none⟩ = some (.int .u8 ck) ∧ w'.cell? ⟨p5, 7, none⟩ = some (.int .i64 ctm) ∧ w'.cell? ⟨q, j * 7 + 5, none⟩ = some (.int .i64 xm) ∧ w'.cell? ⟨q, j * 7 + 6, none⟩ = some (.bool false) from fun w' h => by
      have hb := (HS1.out.below h).bc
      rw [HCC.out] at hb
      exact ⟨(HS1.out.below h).bx.cell 0, (HS1.out.below h).bx.cell 1, (HS1.out.below h).bx.cell 2, hb.cell 0, hb.cell 7, (h.cell (cell_block a5)).trans a5, (h.cell (cell_block a6)).trans a6⟩)
     obtain ⟨ud, hud⟩ : ∃ ud, ud = w2.drew := ⟨_, rfl⟩
     refine wp_region_held_drew (S := fun w' => w'.cell? ⟨p3, 0, none⟩ = some (.int .i64 tc) ∧ w'.cell? ⟨p3, 1, none⟩ = some (.slice (some ⟨q, 0, none⟩) tw.length cw) ∧ w'.cell? ⟨p3, 2, none⟩ = some (.slice B td.length dd) ∧ w'.cell? ⟨p5, 0, none⟩ = some (.int .u8 ck) ∧ w'.cell? ⟨p5, 7, none⟩ = some (.int .i64 ctm) ∧ w'.cell? ⟨q, j * 7 + 5, none⟩ = some (.int .i64 xm) ∧ w'.cell? ⟨q, j * 7 + 6, none⟩ = some (.bool false)) (by kernel_rfl) (HSS.out _ bb1) (fun hHeld => ?_)
     rw [← hud] at bb1 hHeld ⊢
     clear hud
     refine qT 0 ?_; try simp only [Act.put, qq]
     refine qT 1 ?_; try simp only [Act.put, qq]
     refine qT 2 ?_; try simp only [Act.put, qq]
     refine qT 3 ?_; try simp only [Act.put, qq]
     refine qT 4 ?_; try simp only [Act.put, qq]
     refine qT 5 ?_; try simp only [Act.put, qq]
     refine qT 6 ?_; try simp only [Act.put, qq]
     refine qT 7 ?_; try simp only [Act.put, qq]
     refine qT 8 ?_; try simp only [Act.put, qq]
     refine qT 9 ?_; try simp only [Act.put, qq]
     refine qT 10 ?_; try simp only [Act.put, qq]
     refine qT 11 ?_; try simp only [Act.put, qq]
     refine qT 12 ?_; try simp only [Act.put, qq]
     refine qT 13 ?_; try simp only [Act.put, qq]
     refine qT 14 ?_; try simp only [Act.put, qq]
     refine qT 15 ?_; try simp only [Act.put, qq]
     refine qT 16 ?_; try simp only [Act.put, qq]
     refine qT 17 ?_; try simp only [Act.put, qq]
     refine qT 18 ?_; try simp only [Act.put, qq]
     refine qT 19 ?_; try simp only [Act.put, qq]
     refine qT 20 ?_; try simp only [Act.put, qq]
     refine qT 21 ?_; try simp only [Act.put, qq]
     refine qT 22 ?_; try simp only [Act.put, qq]
     refine qT 23 ?_; try simp only [Act.put, qq]
     refine qT 24 ?_; try simp only [Act.put, qq]
     refine qT 25 ?_; try simp only [Act.put, qq]
     refine qT 26 ?_; try simp only [Act.put, qq]
     refine wpAnyH_done (by kernel_rfl) ?_ _
     clear hHeld HSS
     go_wp2_with fail
     go_meet
     case rel => exact ⟨⟨true, rfl, fun h => (by cases h), fun _ => ⟨j, _, rfl, HXx.out, HF.out⟩⟩, HS1.out.below bb1⟩
   case rest =>
    obtain ⟨⟨fin, rfl, hf1, hf2⟩, hps⟩ := hcut
    have HS2 := h! hps
    have HFB := h! (show F.ws.length ≤ 200 ∧ F.ds.length ≤ 200 by rw [HFN.out, KM.fnl_len, KM.fnl_c.2]; exact HT.out)
    clear hps HS1 HFN
    go_upto_if 92 with (fail)
    go_cut [] (fun wx => PtX w1 b p3 p5 p6 Cc F wx)
    case first =>
     as_aux_lemma =>
      rcases fin with _ | _
      ·have HF := h! (hf1 rfl)
       clear hf1 hf2
       go_wp2_with fail
       go_meet
       case rel =>
        rw [HF.out]
        exact ⟨A, cw, B, dd, HS2.out⟩
      obtain ⟨j, x, rfl, hx, hF⟩ := hf2 rfl
      have HF := h! hF
      have HXx := h! hx
      have hjl := (List.getElem?_eq_some_iff.1 hx).1
      clear hf1 hf2 hF
      obtain ⟨q, rfl⟩ := HS2.out.ow.some hx
      obtain ⟨P9, d9, ⟨a0, a1, a2, a3, a4, a5, a6⟩, fz, _⟩ := wts_store HS2.out.ow hx
      have f5 := fz (j * 7 + 5)
      have hj0 : (0 : Int) ≤ (j : Int) := by omega
      have hj1 : (j : Int) < (tw.length : Int) := by omega
      clear hx a0 a1 a2 a3 a4 fz
      obtain ⟨x0, x1, x2⟩ := box_sk HS2.out.bx
      obtain ⟨y0, y1, y2, y3, y4, y5, y6, y7, y8, y9, y10, y11⟩ := box_cm (HCC.out ▸ HS2.out.bc)
      go_upto_region 9 with (fail)
      have HS3 := h! (HS2.out.storeW (j := 5) (x' := ⟨x.m, ctm, x.f⟩) (u := .int .i64 ctm) HXx.out (by omega) (fun _ _ => rfl) rfl).1
      clear x0 x1 x2 y0 y1 y2 y3 y4 y5 y6 y7 y8 y9 y10 y11 a5 a6 f5
      generalize wc.setCell ⟨q, j * 7 + 5, none⟩ (.int .i64 ctm) = w3 at HS3 ⊢
      have hx3 : (tw.set j ⟨x.m, ctm, x.f⟩)[j]? = some ⟨x.m, ctm, x.f⟩ := by rw [List.getElem?_set_self hjl]
      obtain ⟨P8, d8, ⟨a0, a1, a2, a3, a4, a5, a6⟩, fz, _⟩ := wts_store HS3.out.ow hx3
      have f6 := fz (j * 7 + 6)
      clear a0 a1 a2 a3 a4 fz
      simp only at a5 a6
      have HX3 := h! hx3
      clear hx3
      obtain ⟨x0, x1, x2⟩ := box_sk HS3.out.bx
      go_upto_region 10 with (fail)
      have HS4 := h! (HS3.out.storeW (j := 6) (x' := ⟨x.m, ctm, true⟩) (u := .bool true) HX3.out (by omega) (fun _ _ => rfl) rfl).1
      clear x0 x1 x2 a5 a6 f6
      generalize w3.setCell ⟨q, j * 7 + 6, none⟩ (.bool true) = w4 at HS4 ⊢
      obtain ⟨x0, x1, x2⟩ := box_sk HS4.out.bx
      have f0 := HS4.out.bx.frozen 0
      obtain ⟨y0, y1, y2, y3, y4, y5, y6, y7, y8, y9, y10, y11⟩ := box_cm (HCC.out ▸ HS4.out.bc)
      have HS5 := h! (HS4.out.setC (max tc ctm)).1
      go_wp2_with fail
      go_meet
      case rel =>
       rw [HF.out]
       have h5 := HS5.out
       rw [List.set_set] at h5
       exact ⟨_, cw, B, dd, by simpa using h5⟩
    case rest =>
     have HPX := h! hcut
     clear hcut HS2 hf1 hf2
     obtain ⟨i0, hi, hz0, hz1, hz2⟩ := info_parts info_sp
     obtain ⟨j0, hj, hy0, hy1, hy2⟩ := info_parts info_mg
     obtain ⟨Rr, hRr⟩ : ∃ Rr, Rr = KM.drain F.ws.length F.ws F.ds [] := ⟨_, rfl⟩
     rw [← hRr] at HRS
     have HRR := h! hRr
     clear hRr
     go_wp2_with fail
     go_loopw [10] (fun vm wr => ∃ (st : Sk) (l : List Mg) (A : Option Addr) (n c : Nat), vm = .slice A n c ∧ PtX w1 b p3 p5 p6 Cc st wr ∧ KO KM_ wr b 33 (.slice A n c) l ∧ Hid (KM.drain st.ws.length st.ws st.ds l = Rr ∧ st.c = F.c ∧ st.ws.length + st.ds.length ≤ 400 ∧ st.ws.length + l.length ≤ 200)) (fun _ wr => lenAt wr p3)
     case atStart => exact ⟨F, [], none, 0, 0, rfl, HPX.out, kO_nil KM_ _ _ _, h! ⟨HRR.out.symm, rfl, by have := HFB.out; omega, by have := HFB.out.1; simpa using this⟩⟩
     case round =>
      clear HPX
      obtain ⟨⟨sc, ws, ds⟩, l, A9, n9, c9, rfl, hpx, hko, HR⟩ := hrel
      obtain ⟨A, cw, B, dd, hps⟩ := hpx
      simp only at hps HR
      have HS := h! hps
      have HM := h! hko
      have hn9 : n9 ≤ 200 := by have h1 := HM.out.slice.1; have h2 := HR.out.2.2.2; omega
      have hwl : ws.length ≤ 200 := by have h2 := HR.out.2.2.2; omega
      have hdl : ds.length ≤ 400 := by have h2 := HR.out.2.2.1; omega
      clear hps hko
      by_cases hne : ws = []
      ·subst hne
       have HDR := h! (show (([] : List Wt), ds, l) = Rr by rw [← HR.out.1]; rfl)
       simp only [List.length_nil] at HS hwl ⊢
       obtain ⟨x0, x1, x2⟩ := box_sk HS.out.bx
       have h36 := HS.out.ord.1
       have h63 : p6 ≠ p3 := fun e => h36 e.symm
       obtain ⟨z0, z1, z2, f0, f1, f2⟩ := HS.out.br.three
       have RT := h! HS.out.ret
       have HSr := h! (RT.out.1.below (Below.refl _ _).drew)
       have HBr := h! (HBB.out.trans RT.out.2.2.1).drew
       have HMr := h! ((KO.kept RT.out.2.2.2.1 (by decide) (by decide) HM.out).below (Below.refl _ _).drew)
       have u0 := (HS.out.br.stored 0 (.int .i64 sc)).cell 0
       have u1 := ((HS.out.br.stored 0 (.int .i64 sc)).stored 1 (.slice A 0 cw)).cell 1
       have u2 := RT.out.2.1.cell 2
       simp at u0 u1 u2
       have HRE := h! (show res = (⟨sc, [], ds⟩, l, decide (ds.length ≤ 200)) by rw [HRS.out, ← HDR.out, ← HR.out.2.1])
       by_cases hd : ds.length ≤ 200
       ·have HRE2 := h! (show res = (⟨sc, [], ds⟩, l, true) by rw [HRE.out, decide_eq_true hd])
        have hd2 : decide ((ds.length : Int) ≤ 200) = true := by simp; omega
        have hd3 : (ds.length : Int) ≤ 200 := by omega
        go_wp2_with fail
        go_region
        go_wp2_with fail
        exact bodyPost_ret (v := .tuple #[.agg #[.int .i64 sc, .slice A 0 cw, .slice B ds.length dd], .slice A9 n9 c9, .bool true]) (by simp [results, Tryz.results97, go_sem, u0, u1, u2]; try omega) rfl ⟨_, _, by rw [HRE2.out], by rw [HRE2.out]; exact HSr.out, by rw [HRE2.out]; exact HMr.out, HBr.out, fun g cs hg hx => RT.out.2.2.2.2 g cs (by rw [← HP3.out]; exact hg) (hx.below HBW.out hg)⟩
       ·have HRE2 := h! (show res = (⟨sc, [], ds⟩, l, false) by rw [HRE.out, decide_eq_false hd])
        have hd2 : decide ((ds.length : Int) ≤ 200) = false := by simp; omega
        have hd3 : ¬ (ds.length : Int) ≤ 200 := by omega
        go_wp2_with fail
        go_region
        go_wp2_with fail
        exact bodyPost_ret (v := .tuple #[.agg #[.int .i64 sc, .slice A 0 cw, .slice B ds.length dd], .slice A9 n9 c9, .bool false]) (by simp [results, Tryz.results97, go_sem, u0, u1, u2]; try omega) rfl ⟨_, _, by rw [HRE2.out], by rw [HRE2.out]; exact HSr.out, by rw [HRE2.out]; exact HMr.out, HBr.out, fun g cs hg hx => RT.out.2.2.2.2 g cs (by rw [← HP3.out]; exact hg) (hx.below HBW.out hg)⟩
      have hlen : 0 < ws.length := by
       rcases ws with _ | ⟨a, r⟩
       ·exact absurd rfl hne
       ·simp
      obtain ⟨k, hkk⟩ : ∃ k, k = KM.lst ws := ⟨_, rfl⟩
      have hkl : k < ws.length := by rw [hkk]; exact KM.lst_lt hne
      obtain ⟨x, hx⟩ : ∃ x, ws[k]? = some x := ⟨_, List.getElem?_eq_getElem hkl⟩
      have HXx := h! hx
      have HKK := h! hkk
      have KL := h! (fun W (h : PtS w1 b p3 p5 p6 Cc sc (.slice A ws.length cw) (.slice B ds.length dd) ws ds W) => rleast_any A ws.length cw ws W h.ow.slice.2.2.2.r hne)
      rw [← hkk] at KL
      have hi1 : (0 : Int) < (ws.length : Int) := by omega
      have hk0 : (0 : Int) ≤ (k : Int) := by omega
      have hk1 : (k : Int) < (ws.length : Int) := by omega
      clear hx hkk
      obtain ⟨x0, x1, x2⟩ := box_sk HS.out.bx
      go_wp2_with fail
      refine (KL.out wr HS.out).mono ?_
      rintro e w2 ⟨rfl, hb2⟩
      have HLW := h! (HS.out.len)
      replace HS := h! (HS.out.below hb2)
      replace HM := h! (HM.out.below hb2)
      clear hb2 x0 x1 x2 KL
      obtain ⟨q, rfl⟩ := HS.out.ow.some HXx.out
      obtain ⟨P9, d9, hat, _, _⟩ := wts_store HS.out.ow HXx.out
      obtain ⟨a0, a1, a2, a3, a4, a5, a6⟩ := hat
      obtain ⟨x0, x1, x2⟩ := box_sk HS.out.bx
      rcases hxf : x.f with _ | _
      ·have HDR := h! (show (ws, ds, l) = Rr by rw [← HR.out.1, drain_stop (by rw [← HKK.out]; exact HXx.out) hxf])
       rw [hxf] at a6
       clear a0 a1 a2 a3 a4 a5 hxf x0 x1 x2
       obtain ⟨x0, x1, x2⟩ := box_sk HS.out.bx
       have h36 := HS.out.ord.1
       have h63 : p6 ≠ p3 := fun e => h36 e.symm
       obtain ⟨z0, z1, z2, f0, f1, f2⟩ := HS.out.br.three
       have RT := h! HS.out.ret
       have HSr := h! (RT.out.1.below (Below.refl _ _).drew)
       have HBr := h! (HBB.out.trans RT.out.2.2.1).drew
       have HMr := h! ((KO.kept RT.out.2.2.2.1 (by decide) (by decide) HM.out).below (Below.refl _ _).drew)
       have u0 := (HS.out.br.stored 0 (.int .i64 sc)).cell 0
       have u1 := ((HS.out.br.stored 0 (.int .i64 sc)).stored 1 (.slice (some ⟨q, 0, none⟩) ws.length cw)).cell 1
       have u2 := RT.out.2.1.cell 2
       simp at u0 u1 u2
       have HRE := h! (show res = (⟨sc, ws, ds⟩, l, decide (ds.length ≤ 200)) by rw [HRS.out, ← HDR.out, ← HR.out.2.1])
       by_cases hd : ds.length ≤ 200
       ·have HRE2 := h! (show res = (⟨sc, ws, ds⟩, l, true) by rw [HRE.out, decide_eq_true hd])
        have hd2 : decide ((ds.length : Int) ≤ 200) = true := by simp; omega
        have hd3 : (ds.length : Int) ≤ 200 := by omega
        go_wp2_with fail
        go_region
        go_wp2_with fail
        exact bodyPost_ret (v := .tuple #[.agg #[.int .i64 sc, .slice (some ⟨q, 0, none⟩) ws.length cw, .slice B ds.length dd], .slice A9 n9 c9, .bool true]) (by simp [results, Tryz.results97, go_sem, u0, u1, u2]; try omega) rfl ⟨_, _, by rw [HRE2.out], by rw [HRE2.out]; exact HSr.out, by rw [HRE2.out]; exact HMr.out, HBr.out, fun g cs hg hx => RT.out.2.2.2.2 g cs (by rw [← HP3.out]; exact hg) (hx.below HBW.out hg)⟩
       ·have HRE2 := h! (show res = (⟨sc, ws, ds⟩, l, false) by rw [HRE.out, decide_eq_false hd])
        have hd2 : decide ((ds.length : Int) ≤ 200) = false := by simp; omega
        have hd3 : ¬ (ds.length : Int) ≤ 200 := by omega
        go_wp2_with fail
        go_region
        go_wp2_with fail
        exact bodyPost_ret (v := .tuple #[.agg #[.int .i64 sc, .slice (some ⟨q, 0, none⟩) ws.length cw, .slice B ds.length dd], .slice A9 n9 c9, .bool false]) (by simp [results, Tryz.results97, go_sem, u0, u1, u2]; try omega) rfl ⟨_, _, by rw [HRE2.out], by rw [HRE2.out]; exact HSr.out, by rw [HRE2.out]; exact HMr.out, HBr.out, fun g cs hg hx => RT.out.2.2.2.2 g cs (by rw [← HP3.out]; exact hg) (hx.below HBW.out hg)⟩
      have HA6 := h! a6
      rw [hxf] at a6
      have HXF := h! hxf
      clear hxf
      go_upto_region 15 with (fail)
      clear a6
      have a6 := HA6.out
      obtain ⟨cur, hcur⟩ : ∃ cur, Box w2 q 78 cur := by
       obtain ⟨es, _, h2, _⟩ := HS.out.ow
       exact (own_block h2 rfl).2
      have HCB := h! hcur
      clear hcur x0 x1 x2
      have CSt := h! (fun W => rstamp_any P9 d9 x W)
      unfold vwt KM.stp at CSt
      go_cut [] (fun wx => ∃ A7 c7, PtS w1 b p3 p5 p6 Cc sc (.slice (some ⟨q, 0, none⟩) ws.length cw) (.slice A7 (ds.length + 1) c7) ws (ds ++ [KM.stp x]) wx ∧ KO KM_ wx b 33 (.slice A9 n9 c9) l)
      case first =>
       as_aux_lemma =>
        have HSP := h! (show ∀ w' vd, Box w' p3 39 #[.int .i64 sc, .slice (some ⟨q, 0, none⟩) ws.length cw, vd] → Box w' q 78 cur → w'.cell? ⟨p3, 1, none⟩ = some (.slice (some ⟨q, 0, none⟩) ws.length cw) ∧ w'.cell? ⟨q, k * 7, none⟩ = some (.int .i64 x.m.id) ∧ w'.cell? ⟨q, k * 7 + 1, none⟩ = some (.slice P9 x.m.gs.length d9) ∧ w'.cell? ⟨q, k * 7 + 2, none⟩ = some (.int .i64 x.m.tp) ∧ w'.cell? ⟨q, k * 7 + 3, none⟩ = some (.string x.m.key) ∧ w'.cell? ⟨q, k * 7 + 4, none⟩ = some (.string x.m.body) ∧ w'.cell? ⟨q, k * 7 + 5, none⟩ = some (.int .i64 x.t) ∧ w'.cell? ⟨q, k * 7 + 6, none⟩ = some (.bool x.f) from fun w' vd h1 h2 =>
         ⟨h1.cell 1, (h2.cell (k * 7)).trans ((HCB.out.cell (k * 7)).symm.trans a0), (h2.cell (k * 7 + 1)).trans ((HCB.out.cell (k * 7 + 1)).symm.trans a1), (h2.cell (k * 7 + 2)).trans ((HCB.out.cell (k * 7 + 2)).symm.trans a2), (h2.cell (k * 7 + 3)).trans ((HCB.out.cell (k * 7 + 3)).symm.trans a3), (h2.cell (k * 7 + 4)).trans ((HCB.out.cell (k * 7 + 4)).symm.trans a4), (h2.cell (k * 7 + 5)).trans ((HCB.out.cell (k * 7 + 5)).symm.trans a5), (h2.cell (k * 7 + 6)).trans ((HCB.out.cell (k * 7 + 6)).symm.trans a6)⟩)
        clear a0 a1 a2 a3 a4 a5 a6
        have HSS := h! (fun w' (h : Below w2.heap.size w2 w') => HSP.out w' _ (HS.out.below h).bx (HCB.out.below h HCB.out.lt))
        have bb1 : Below w2.heap.size w2 w2.drew := (Below.refl _ _).drew
        obtain ⟨ud, hud⟩ : ∃ ud, ud = w2.drew := ⟨_, rfl⟩
        refine wp_region_held_drew (S := fun w' => w'.cell? ⟨p3, 1, none⟩ = some (.slice (some ⟨q, 0, none⟩) ws.length cw) ∧ w'.cell? ⟨q, k * 7, none⟩ = some (.int .i64 x.m.id) ∧ w'.cell? ⟨q, k * 7 + 1, none⟩ = some (.slice P9 x.m.gs.length d9) ∧ w'.cell? ⟨q, k * 7 + 2, none⟩ = some (.int .i64 x.m.tp) ∧ w'.cell? ⟨q, k * 7 + 3, none⟩ = some (.string x.m.key) ∧ w'.cell? ⟨q, k * 7 + 4, none⟩ = some (.string x.m.body) ∧ w'.cell? ⟨q, k * 7 + 5, none⟩ = some (.int .i64 x.t) ∧ w'.cell? ⟨q, k * 7 + 6, none⟩ = some (.bool x.f)) (by kernel_rfl) (HSS.out _ bb1) (fun hHeld => ?_)
        rw [← hud] at bb1 hHeld ⊢
        clear hud
        refine qT 0 ?_; try simp only [Act.put, qq]
        refine qT 2 ?_; try simp only [Act.put, qq]
        refine qT 3 ?_; try simp only [Act.put, qq]
        refine qT 4 ?_; try simp only [Act.put, qq]
        refine qT 5 ?_; try simp only [Act.put, qq]
        refine qT 6 ?_; try simp only [Act.put, qq]
        refine wpAnyH_ready (rs := [1, 7]) (by kernel_rfl) (by simp) ?_
        refine AllReadyH.cons rfl (fun K hK => ?_) (AllReadyH.cons rfl (fun K hK => ?_) AllReadyH.nil)
        ·have hx1 := (HS.out.below bb1).bx.cell 2
         simp at hx1
         go_simp
         refine hK.out _ _ (HSS.out _ bb1) (fun hHeld => ?_)
         clear hK hx1
         try simp only [Act.put, qq]
         refine qR 7 fun K hK => ?_
         go_simp
         refine (CSt.out _).mono ?_
         rintro e w4 ⟨rfl, hbs⟩
         unfold vsp
         simp only
         have bb4 := bmore bb1 hbs n!
         clear hbs
         refine hK.out _ _ (HSS.out _ bb4) (fun hHeld => ?_)
         clear hK
         try simp only [Act.put, qq]
         refine qR 8 fun K hK => ?_
         go_simp
         have HRG := h! (rdG_box (s := 2) (n := 1) (Box.new w4 46 #[.int .i64 x.t, .int .i64 x.m.id]) (xs := spc (KM.stp x)) rfl rfl)
         have bb5 : Below w2.heap.size w2 (w4.alloc (.cells #[.int .i64 x.t, .int .i64 x.m.id] 46)) := bmore bb4 ((Below.refl _ _).alloc n! _) n!
         refine hK.out _ _ (HSS.out _ bb5) (fun hHeld => ?_)
         clear hK
         try simp only [Act.put, qq]
         generalize w4.alloc (.cells #[.int .i64 x.t, .int .i64 x.m.id] 46) = w5 at HRG bb5 hHeld ⊢
         generalize w4.heap.size = blk at HRG ⊢
         refine qR 9 fun K hK => ?_
         refine step_append_h rfl (.tmp 126) (.tmp 133) 22 rfl b 46 i0 _ 2 16 Tryz.underlying22 hi hz0 hz1 hz2 rfl (by omega) (.slice B ds.length dd) ds.length (flat spc ds) (by simp [Act.eval, Act.put]) (HS.out.below bb5).od (some ⟨blk, 0, none⟩) 1 1 (spc (KM.stp x)) (by simp [Act.eval, Act.put]) HRG.out (spc_one _) (by unfold maxLen; omega) (by omega) (HS.out.below bb5).ord.2.2.2 ?_
         intro v2 w6 hown hgr hob
         obtain ⟨A7, c7, rfl, _, _⟩ := own_form hown
         have hkp := Kept.grown (S := fun e => e = 46) (HS.out.below bb5).od rfl hgr
         have hb6 := hkp.box _ _ _ (by decide) (HS.out.below bb5).bx
         have hq6 := hkp.box _ _ _ (by decide) (HCB.out.below bb5 HCB.out.lt)
         refine hK.out _ _ (HSP.out _ _ hb6 hq6) (fun hHeld => ?_)
         clear hK
         try simp only [Act.put, qq]
         refine qT 10 ?_; try simp only [Act.put, qq]
         have s2 := hb6.cell 2
         have g2 := hb6.frozen 2
         simp at s2
         refine qR 11 fun K hK => ?_
         go_simp
         have HAD := h! (HS.out.addD bb5 hgr hown)
         refine hK.out _ _ (HSP.out _ _ HAD.out.1.bx ((Kept.set (S := fun e => e = 39) hb6 rfl _).box _ _ _ (by decide) hq6)) (fun hHeld => ?_)
         clear hK
         try simp only [Act.put, qq]
         refine wpAnyH_done (by kernel_rfl) ?_ _
         go_wp2_with fail
         go_meet
         case rel => exact ⟨A7, c7, HAD.out.1, KO.kept HAD.out.2 isS_int isS_msg HM.out⟩
        ·go_simp
         refine (CSt.out _).mono ?_
         rintro e w4 ⟨rfl, hbs⟩
         unfold vsp
         simp only
         have bb4 := bmore bb1 hbs n!
         clear hbs
         refine hK.out _ _ (HSS.out _ bb4) (fun hHeld => ?_)
         clear hK
         try simp only [Act.put, qq]
         refine wpAnyH_ready (rs := [1, 8]) (by kernel_rfl) (by simp) ?_
         refine AllReadyH.cons rfl (fun K hK => ?_) (AllReadyH.cons rfl (fun K hK => ?_) AllReadyH.nil)
         ·have hx1 := (HS.out.below bb4).bx.cell 2
          simp at hx1
          go_simp
          refine hK.out _ _ (HSS.out _ bb4) (fun hHeld => ?_)
          clear hK hx1
          try simp only [Act.put, qq]
          refine qR 8 fun K hK => ?_
          go_simp
          have HRG := h! (rdG_box (s := 2) (n := 1) (Box.new w4 46 #[.int .i64 x.t, .int .i64 x.m.id]) (xs := spc (KM.stp x)) rfl rfl)
          have bb5 : Below w2.heap.size w2 (w4.alloc (.cells #[.int .i64 x.t, .int .i64 x.m.id] 46)) := bmore bb4 ((Below.refl _ _).alloc n! _) n!
          refine hK.out _ _ (HSS.out _ bb5) (fun hHeld => ?_)
          clear hK
          try simp only [Act.put, qq]
          generalize w4.alloc (.cells #[.int .i64 x.t, .int .i64 x.m.id] 46) = w5 at HRG bb5 hHeld ⊢
          generalize w4.heap.size = blk at HRG ⊢
          refine qR 9 fun K hK => ?_
          refine step_append_h rfl (.tmp 126) (.tmp 133) 22 rfl b 46 i0 _ 2 16 Tryz.underlying22 hi hz0 hz1 hz2 rfl (by omega) (.slice B ds.length dd) ds.length (flat spc ds) (by simp [Act.eval, Act.put]) (HS.out.below bb5).od (some ⟨blk, 0, none⟩) 1 1 (spc (KM.stp x)) (by simp [Act.eval, Act.put]) HRG.out (spc_one _) (by unfold maxLen; omega) (by omega) (HS.out.below bb5).ord.2.2.2 ?_
          intro v2 w6 hown hgr hob
          obtain ⟨A7, c7, rfl, _, _⟩ := own_form hown
          have hkp := Kept.grown (S := fun e => e = 46) (HS.out.below bb5).od rfl hgr
          have hb6 := hkp.box _ _ _ (by decide) (HS.out.below bb5).bx
          have hq6 := hkp.box _ _ _ (by decide) (HCB.out.below bb5 HCB.out.lt)
          refine hK.out _ _ (HSP.out _ _ hb6 hq6) (fun hHeld => ?_)
          clear hK
          try simp only [Act.put, qq]
          refine qT 10 ?_; try simp only [Act.put, qq]
          have s2 := hb6.cell 2
          have g2 := hb6.frozen 2
          simp at s2
          refine qR 11 fun K hK => ?_
          go_simp
          have HAD := h! (HS.out.addD bb5 hgr hown)
          refine hK.out _ _ (HSP.out _ _ HAD.out.1.bx ((Kept.set (S := fun e => e = 39) hb6 rfl _).box _ _ _ (by decide) hq6)) (fun hHeld => ?_)
          clear hK
          try simp only [Act.put, qq]
          refine wpAnyH_done (by kernel_rfl) ?_ _
          go_wp2_with fail
          go_meet
          case rel => exact ⟨A7, c7, HAD.out.1, KO.kept HAD.out.2 isS_int isS_msg HM.out⟩
         ·go_simp
          have HRG := h! (rdG_box (s := 2) (n := 1) (Box.new w4 46 #[.int .i64 x.t, .int .i64 x.m.id]) (xs := spc (KM.stp x)) rfl rfl)
          have bb5 : Below w2.heap.size w2 (w4.alloc (.cells #[.int .i64 x.t, .int .i64 x.m.id] 46)) := bmore bb4 ((Below.refl _ _).alloc n! _) n!
          refine hK.out _ _ (HSS.out _ bb5) (fun hHeld => ?_)
          clear hK
          try simp only [Act.put, qq]
          generalize w4.alloc (.cells #[.int .i64 x.t, .int .i64 x.m.id] 46) = w5 at HRG bb5 hHeld ⊢
          generalize w4.heap.size = blk at HRG ⊢
          refine qR 1 fun K hK => ?_
          have hx1 := (HS.out.below bb5).bx.cell 2
          simp at hx1
          go_simp
          refine hK.out _ _ (HSS.out _ bb5) (fun hHeld => ?_)
          clear hK hx1
          try simp only [Act.put, qq]
          refine qR 9 fun K hK => ?_
          refine step_append_h rfl (.tmp 126) (.tmp 133) 22 rfl b 46 i0 _ 2 16 Tryz.underlying22 hi hz0 hz1 hz2 rfl (by omega) (.slice B ds.length dd) ds.length (flat spc ds) (by simp [Act.eval, Act.put]) (HS.out.below bb5).od (some ⟨blk, 0, none⟩) 1 1 (spc (KM.stp x)) (by simp [Act.eval, Act.put]) HRG.out (spc_one _) (by unfold maxLen; omega) (by omega) (HS.out.below bb5).ord.2.2.2 ?_
          intro v2 w6 hown hgr hob
          obtain ⟨A7, c7, rfl, _, _⟩ := own_form hown
          have hkp := Kept.grown (S := fun e => e = 46) (HS.out.below bb5).od rfl hgr
          have hb6 := hkp.box _ _ _ (by decide) (HS.out.below bb5).bx
          have hq6 := hkp.box _ _ _ (by decide) (HCB.out.below bb5 HCB.out.lt)
          refine hK.out _ _ (HSP.out _ _ hb6 hq6) (fun hHeld => ?_)
          clear hK
          try simp only [Act.put, qq]
          refine qT 10 ?_; try simp only [Act.put, qq]
          have s2 := hb6.cell 2
          have g2 := hb6.frozen 2
          simp at s2
          refine qR 11 fun K hK => ?_
          go_simp
          have HAD := h! (HS.out.addD bb5 hgr hown)
          refine hK.out _ _ (HSP.out _ _ HAD.out.1.bx ((Kept.set (S := fun e => e = 39) hb6 rfl _).box _ _ _ (by decide) hq6)) (fun hHeld => ?_)
          clear hK
          try simp only [Act.put, qq]
          refine wpAnyH_done (by kernel_rfl) ?_ _
          go_wp2_with fail
          go_meet
          case rel => exact ⟨A7, c7, HAD.out.1, KO.kept HAD.out.2 isS_int isS_msg HM.out⟩
      case rest =>
       obtain ⟨A7, c7, hps, hko⟩ := hcut
       have HS3 := h! hps
       have HM3 := h! hko
       clear hps hko HS HM a0 a1 a2 a3 a4 a5 a6 HA6 CSt HCB
       obtain ⟨P8, d8, ⟨a0, a1, a2, a3, a4, a5, a6⟩, _, hrow⟩ := wts_store HS3.out.ow HXx.out
       have HRW := h! hrow
       have HNE := h! (show ∀ ad, P8 = some ad → 0 < (KM_.gs x.m).length → (Value.slice A9 n9 c9).ownBlock ≠ some ad.block from fun ad e hn kk => by
        obtain ⟨g', cur, e', _, hbx, _⟩ := HRW.out.tn hn
        rw [e] at e'
        injection e' with e'
        subst e'
        obtain ⟨es, _, h2, _⟩ := HM3.out
        exact own_ne h2 hbx (by decide) kk.symm)
       clear hrow
       obtain ⟨x0, x1, x2⟩ := box_sk HS3.out.bx
       go_wp2_with (at_builtin; refine wpList_append_ko (K := KM_) rfl _ _ 40 rfl 33 j0 _ 72 Tryz.underlying40 hj hy0 hy1 hy2 rfl rfl HM3.out rfl #[.int .i64 x.m.id, .slice P8 x.m.gs.length d8, .int .i64 x.m.tp, .string x.m.key, .string x.m.body] (show _ = KM_.cel P8 d8 x.m from rfl) HRW.out HNE.out (by unfold maxLen; omega) (by omega) HS3.out.ord.2.2.2 ?_; intro A6 c6 w6 hko hgr hob; have HMK := h! hko; have HOW := h! (show ∃ es : List (Ex Mg), (wc.alloc (.cells #[.int .i64 x.m.id, .slice P8 x.m.gs.length d8, .int .i64 x.m.tp, .string x.m.key, .string x.m.body] 33)).ownsRow b 33 5 (.slice A9 n9 c9) es.length (flat (exc KM_) es) from (by obtain ⟨es, _, h2, _⟩ := HM3.out; exact ⟨es, own_below3 h2 ((Below.refl _ _).alloc n! _)⟩)); have HS4 := h! (show PtS w1 b p3 p5 p6 Cc sc (.slice (some ⟨q, 0, none⟩) ws.length cw) (.slice A7 (ds.length + 1) c7) ws (ds ++ [KM.stp x]) w6 from (by obtain ⟨es, h2⟩ := HOW.out; exact (HS3.out.below ((Below.refl _ _).alloc n! _)).kept (Kept.grown (S := fun e => e = 33) h2 rfl hgr) (Below.grown (Below.refl b _) hgr (Nat.le_trans HS3.out.ord.2.2.2 (by simp)) fun g e => (own_block h2 e).1) (by decide) (by decide) (by decide) (by decide) (by decide) (fun e he => .inr (.inr he)))); clear hko hgr hob x0 x1 x2; obtain ⟨x0, x1, x2⟩ := box_sk HS4.out.bx)
       refine (rwithout_any b (some ⟨q, 0, none⟩) ws.length cw ws k w6 HS4.out.ow.slice.2.2.2 (by omega) HS4.out.ord.2.2.2).mono ?_
       rintro e w7 ⟨A5, n5, c5, rfl, hko5, hb7⟩
       have hn5 := hko5.slice.1
       subst hn5
       have HS5 := h! (HS4.out.below hb7)
       have HMF := h! (HMK.out.below hb7)
       have HK5 := h! hko5
       clear hko5 hb7 x0 x1 x2 a0 a1 a2 a3 a4 a5 a6
       have s1 := HS5.out.bx.cell 1
       have g1 := HS5.out.bx.frozen 1
       simp at s1
       have HS6 := h! (HS5.out.setW HK5.out)
       have HM6 := h! (KO.kept HS6.out.2 isS_int isS_msg HMF.out)
       have HST := h! (drain_step (ds := ds) (l := l) (by rw [← HKK.out]; exact HXx.out) HXF.out)
       have hel : (ws.eraseIdx k).length + 1 = ws.length := by rw [List.length_eraseIdx, if_pos hkl]; omega
       have HNX := h! (show KM.drain (ws.eraseIdx k).length (ws.eraseIdx k) (ds ++ [KM.stp x]) (l ++ [x.m]) = Rr ∧ sc = F.c ∧ (ws.eraseIdx k).length + (ds ++ [KM.stp x]).length ≤ 400 ∧ (ws.eraseIdx k).length + (l ++ [x.m]).length ≤ 200 by
        have h1 := HR.out
        refine ⟨?_, h1.2.1, ?_, ?_⟩
        ·rw [← h1.1, HST.out, ← HKK.out]
        ·rw [List.length_append, List.length_singleton]; omega
        ·rw [List.length_append, List.length_singleton]; omega)
       have HLN := h! (show lenAt (w7.setCell ⟨p3, 1, none⟩ (.slice A5 (ws.eraseIdx k).length c5)) p3 < lenAt wr p3 by rw [HS6.out.1.len, HLW.out]; omega)
       go_wp2_with fail
       go_roundw
       case rel => exact ⟨⟨sc, ws.eraseIdx k, ds ++ [KM.stp x]⟩, l ++ [x.m], A6, n9 + 1, c6, rfl, ⟨A5, c5, A7, c7, by simpa using HS6.out.1⟩, HM6.out, HNX⟩
       case measure => exact HLN.out
end KP
end Go.Proofs.YteebeiaokfenmaaGreat
