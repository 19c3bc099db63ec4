/- Contracts of functions of towncrier, layers 5 to 9, and of the document's own ones, part 27; each as its theorem says. -/
import Derived.Test.YtiiobafcgdelmaaGreatK01
import Derived.Test.YtiiobafcgdelmaaGreatK26
set_option linter.unusedVariables false
set_option linter.unusedSimpArgs false
namespace Go.Proofs.YtiiobafcgdelmaaGreat.PD
open Go.RowKit Go.Shelf
def vmove (m : DC.Mv) : List Value := [.int .u8 m.k, .int .i64 m.n, .int .i64 m.at_, .string m.v]
def MvFit (m : DC.Mv) : Prop := 0 ≤ m.k ∧ m.k ≤ 255 ∧ m.v.size ≤ maxLen
theorem RdG.move {w : World} {n k : Nat} {A : Option Addr} {ml : List DC.Mv} {m : DC.Mv} (h : RdG w 4 A n (flat vmove ml)) (hk : k < n) (hm : ml[k]? = some m) :
  ∃ bl o, A = some ⟨bl, o, none⟩ ∧ bl < w.heap.size ∧ w.cell? ⟨bl, o + k * 4, none⟩ = some (.int .u8 m.k) ∧ w.cell? ⟨bl, o + k * 4 + 1, none⟩ = some (.int .i64 m.n) ∧ w.cell? ⟨bl, o + k * 4 + 2, none⟩ = some (.int .i64 m.at_) ∧ w.cell? ⟨bl, o + k * 4 + 3, none⟩ = some (.string m.v) := by
 obtain ⟨bl, o, e, hb, hc⟩ := RdG.elem (cs := vmove m) h hk (flat_get (f := vmove) (s := 4) (fun _ _ => rfl) hm) rfl (by omega)
 exact ⟨bl, o, e, hb, hc 0 _ rfl, hc 1 _ rfl, hc 2 _ rfl, hc 3 _ rfl⟩
theorem fit_may {w : DC.Wd} (h : DC.May w) (hp : PM w) : WFit w := by
 have h6 := (QM.may_len h.ms).2.1
 have hml := h.ml
 have hcl := h.cl
 have hvl := h.vl
 have htl := h.tl
 refine ⟨by omega, by omega, by omega, by omega, by omega, fun v hv => ?_, fun t ht => ?_, fun m hm => ?_, fun c hc => ?_⟩
 ·obtain ⟨h1, h2⟩ := h.vs v hv
  have := DC.okP_le h1
  have := DC.okA_le h2
  refine ⟨by omega, by omega, by omega, by omega, by unfold maxLen; omega⟩
 ·obtain ⟨i, hi⟩ := List.getElem?_of_mem ht
  exact fit_mayT (h.ts i t hi)
 ·obtain ⟨_, _, _, h1, h2, h3, h4, h5⟩ := h.mm m hm
  have := hp m hm
  unfold BM.good at h3
  exact ⟨by omega, by omega, by omega, by omega, this, by unfold maxLen; omega⟩
 ·have := (h.cc c hc).2
  unfold maxLen; omega
def RunIs (ms : List Int) (l : List DC.Mv) (y : Int) : Prop := (QM.ChkIs ms y ∧ y ≠ 0) ∨ (QM.ChkIs ms 0 ∧ 1000 < l.length ∧ y = 4) ∨ (QM.ChkIs ms 0 ∧ l.length ≤ 1000 ∧ y = 0)
theorem runIs_ex (ms : List Int) (l : List DC.Mv) : ∃ y, RunIs ms l y := by
 obtain ⟨y, hy⟩ := QM.chkIs_ex ms
 by_cases h : y = 0
 ·subst h
  by_cases h2 : 1000 < l.length
  ·exact ⟨4, .inr (.inl ⟨hy, h2, rfl⟩)⟩
  ·exact ⟨0, .inr (.inr ⟨hy, by omega, rfl⟩)⟩
 ·exact ⟨y, .inl ⟨hy, h⟩⟩
def RunRet (ms : List Int) (l : List DC.Mv) (y : Int) (W : World) (e : Ending) (W' : World) : Prop :=
 ∃ v, e = .returned (.tuple #[v, .int .i64 y]) ∧ Below W.heap.size W W' ∧ ((y ≠ 0 ∧ v = zeroW) ∨ (y = 0 ∧ WOwn W' W.heap.size v (DC.runF (DC.start ms) l)))
def WVar (W wr : World) (g : Nat) (w : DC.Wd) : Prop :=
 ∃ A0 c0 A1 c1 A2 c2 A3 c3 A4 c4, W.heap.size ≤ g ∧ Box wr g 28 #[.slice A0 w.ms.length c0, .slice A1 w.vs.length c1, .slice A2 w.ts.length c2, .slice A3 w.ml.length c3, .slice A4 w.ch.length c4] ∧
  WOwn wr W.heap.size (.agg #[.slice A0 w.ms.length c0, .slice A1 w.vs.length c1, .slice A2 w.ts.length c2, .slice A3 w.ml.length c3, .slice A4 w.ch.length c4]) w
theorem WVar.below {W wr wr' : World} {g : Nat} {w : DC.Wd} (h : WVar W wr g w) (hb : Below wr.heap.size wr wr') : WVar W wr' g w := by
 obtain ⟨A0, c0, A1, c1, A2, c2, A3, c3, A4, c4, hg, hx, ho⟩ := h
 exact ⟨A0, c0, A1, c1, A2, c2, A3, c3, A4, c4, hg, hx.below hb hx.lt, ho.below hb⟩
def RunRel (W : World) (gr g6 : Nat) (R : DC.Wd) (l : List DC.Mv) (k : Nat) (wr : World) : Prop :=
 NwSt W wr gr ∧ gr ≠ g6 ∧ ∃ w, WVar W wr g6 w ∧ DC.May w ∧ PM w ∧ DC.runF w (l.drop k) = R
set_option maxRecDepth 100000 in
set_option maxHeartbeats 8000000 in
theorem wrun_any (A : Option Addr) (n c : Nat) (ms : List Int) (B : Option Addr) (m d : Nat) (l : List DC.Mv) (y : Int) (W : World) (hr : Rd W A n (ic ms)) (hm : n ≤ 9223372036854775807) (hl : RdG W 4 B m (flat vmove l)) (hlen : l.length = m) (hm2 : m ≤ 9223372036854775807) (hF : ∀ x ∈ l, MvFit x) (hy : RunIs ms l y) :
  Calls Tryz.prog 18 #[.slice A n c, .slice B m d] W (RunRet ms l y W) := by
 obtain ⟨y0, hy0⟩ := QM.chkIs_ex ms
 have HN := h! (fun (U : World) (hU : Below W.heap.size W U) => wnew_any A n c ms y0 U (hr.below hU) hm hy0)
 have HL := h! (fun (U : World) (hU : Below W.heap.size W U) => RdG.below hl hU)
 have HF := h! hF
 obtain ⟨U0, hU0⟩ : ∃ U0, U0 = W.alloc (.cells #[.slice none 0 0, .slice none 0 0, .slice none 0 0, .slice none 0 0, .slice none 0 0] 28) := ⟨_, rfl⟩
 have hs0 : NwSt W U0 W.heap.size := by rw [hU0]; exact ⟨Box.new _ _ _, (Below.refl _ _).alloc n! _, Nat.le_refl _⟩
 have HS0 := h! hs0
 clear hs0 hr hl hF hm
 subst hlen
 go_enter Tryz.func18, Tryz.ntmps18
 go_wp2_with fail
 rw [← hU0]
 generalize hgr : W.heap.size = gr at HS0 ⊢
 refine (HN.out U0 HS0.out.bl).mono ?_
 rintro e w1 ⟨v, rfl, hb1, hv⟩
 have HS1 := h! (HS0.out.below hb1)
 clear HN hU0
 rcases hv with ⟨hne, rfl⟩ | ⟨rfl, hown⟩
 ·have hyy : y = y0 := by
   rcases hy with ⟨h1, _⟩ | ⟨h1, _⟩ | ⟨h1, _⟩
   ·exact QM.chkIs_eq h1 hy0
   ·exact absurd (QM.chkIs_eq hy0 h1) hne
   ·exact absurd (QM.chkIs_eq hy0 h1) hne
  subst hyy
  have e0 : (y != 0) = true := by simpa using hne
  have HNE := h! hne
  have hal : Below w1.heap.size w1 (w1.alloc (.cells #[.slice none 0 0, .slice none 0 0, .slice none 0 0, .slice none 0 0, .slice none 0 0] 28)) := b!
  have HS2 := h! (HS1.out.below hal)
  clear hy hy0 hne HL HF hal HS1 HS0 hb1
  unfold zeroW
  go_upto_region 2 with (fail)
  generalize w1.alloc (.cells #[.slice none 0 0, .slice none 0 0, .slice none 0 0, .slice none 0 0, .slice none 0 0] 28) = u at HS2 ⊢
  generalize w1.heap.size = g6
  subst hgr
  obtain ⟨⟨_, _, _, _, _⟩, z0, z1, z2, z3, z4⟩ := HS2.out.br.five
  go_wp2_with fail
  have hres := res5 HS2.out.br (.slice none 0 0) (.slice none 0 0) (.slice none 0 0) (.slice none 0 0) (.slice none 0 0)
  obtain ⟨⟨s0, s1, s2, s3, s4⟩, _⟩ := hres.1.five
  exact bodyPost_ret (v := .tuple #[.agg #[.slice none 0 0, .slice none 0 0, .slice none 0 0, .slice none 0 0, .slice none 0 0], .int .i64 y]) (by simp [results, Tryz.results18, go_sem, s0, s1, s2, s3, s4]) rfl ⟨_, rfl, hres.2.2 _ _ HS2.out.bl HS2.out.hr, .inl ⟨HNE.out, rfl⟩⟩
 have hmay : QM.may ms = true := by rcases QM.chkIs_cases hy0 with ⟨_, h⟩ | ⟨_, h⟩; (· exact h); (· omega)
 obtain ⟨A0, c0, A1, c1, A2, c2, A3, c3, A4, c4, rfl⟩ := hown.form
 have hal : Below w1.heap.size w1 (w1.alloc (.cells #[.slice A0 (DC.start ms).ms.length c0, .slice A1 (DC.start ms).vs.length c1, .slice A2 (DC.start ms).ts.length c2, .slice A3 (DC.start ms).ml.length c3, .slice A4 (DC.start ms).ch.length c4] 28)) := b!
 have hsz : W.heap.size ≤ U0.heap.size := HS0.out.bl.size
 have hvar : WVar W (w1.alloc (.cells #[.slice A0 (DC.start ms).ms.length c0, .slice A1 (DC.start ms).vs.length c1, .slice A2 (DC.start ms).ts.length c2, .slice A3 (DC.start ms).ml.length c3, .slice A4 (DC.start ms).ch.length c4] 28)) w1.heap.size (DC.start ms) :=
  ⟨A0, c0, A1, c1, A2, c2, A3, c3, A4, c4, Nat.le_trans hsz hb1.size, Box.new _ _ _, (hown.below hal).mono hsz⟩
 have HR := h! (show RunRel W gr w1.heap.size (DC.runF (DC.start ms) l) l 0 _ from ⟨HS1.out.below hal, Nat.ne_of_lt (Nat.lt_of_lt_of_le HS0.out.br.lt hb1.size), DC.start ms, hvar, DC.may_begin hmay, DC.pm_start ms, rfl⟩)
 clear hal hvar hown HS1 HS0 hb1 hmay hsz
 go_upto_region 2 with (fail)
 generalize w1.alloc (.cells #[.slice A0 (DC.start ms).ms.length c0, .slice A1 (DC.start ms).vs.length c1, .slice A2 (DC.start ms).ts.length c2, .slice A3 (DC.start ms).ml.length c3, .slice A4 (DC.start ms).ch.length c4] 28) = u at HR ⊢
 generalize w1.heap.size = g6 at HR ⊢
 subst hgr
 by_cases h1000 : 1000 < l.length
 ·have hyy : y = 4 := by
   rcases hy with ⟨h1, h2⟩ | ⟨_, _, h⟩ | ⟨_, h, _⟩
   ·exact absurd (QM.chkIs_eq h1 hy0) h2
   ·exact h
   ·omega
  subst hyy
  have HS2 := h! HR.out.1
  obtain ⟨⟨_, _, _, _, _⟩, z0, z1, z2, z3, z4⟩ := HS2.out.br.five
  clear hy hy0 HL HF HR
  go_wp2_with fail
  have hres := res5 HS2.out.br (.slice none 0 0) (.slice none 0 0) (.slice none 0 0) (.slice none 0 0) (.slice none 0 0)
  obtain ⟨⟨s0, s1, s2, s3, s4⟩, _⟩ := hres.1.five
  exact bodyPost_ret (v := .tuple #[.agg #[.slice none 0 0, .slice none 0 0, .slice none 0 0, .slice none 0 0, .slice none 0 0], .int .i64 4]) (by simp [results, Tryz.results18, go_sem, s0, s1, s2, s3, s4]) rfl ⟨_, rfl, hres.2.2 _ _ HS2.out.bl HS2.out.hr, .inl ⟨by decide, rfl⟩⟩
 have hyy : y = 0 := by
  rcases hy with ⟨h1, h2⟩ | ⟨_, h, _⟩ | ⟨_, _, h⟩
  ·exact absurd (QM.chkIs_eq h1 hy0) h2
  ·omega
  ·exact h
 subst hyy
 obtain ⟨R, hR⟩ : ∃ R, R = DC.runF (DC.start ms) l := ⟨_, rfl⟩
 rw [← hR] at HR
 have HRQ := h! hR
 have h1000' : l.length ≤ 1000 := by omega
 clear hy hy0 hR h1000
 go_wp2_with fail
 go_loopw [27] (fun i wr => ∃ k : Nat, k ≤ l.length ∧ i = .int .i64 k ∧ Hid (RunRel W W.heap.size g6 R l k wr)) (fun i _ => l.length - (intOf i).toNat)
 case atStart => exact ⟨0, by omega, rfl, HR⟩
 case round =>
  clear HR
  obtain ⟨k, hk, rfl, HR⟩ := hrel
  by_cases hlt : k < l.length
  ·obtain ⟨bl, o, rfl, hbl, c0, c1, c2, c3⟩ := RdG.move (HL.out wr HR.out.1.bl) hlt (List.getElem?_eq_getElem hlt)
   have hmf : MvFit l[k] := HF.out _ (List.getElem_mem ..)
   have hdrop := List.drop_eq_getElem_cons hlt
   generalize l[k] = x at c0 c1 c2 c3 hmf hdrop
   obtain ⟨kk, nn, aa, s⟩ := x
   simp only at c0 c1 c2 c3
   obtain ⟨hs, hgne, w, hvar, hmay, hpm, hrun⟩ := HR.out
   have HGN := h! hgne
   rw [hdrop] at hrun
   have hal : Below wr.heap.size wr (wr.alloc (.cells #[.int .u8 kk, .int .i64 nn, .int .i64 aa, .string s] 30)) := b!
   have HS1 := h! (hs.below hal)
   have HV1 := h! (hvar.below hal)
   have HX1 := h! (Box.new wr 30 #[.int .u8 kk, .int .i64 nn, .int .i64 aa, .string s])
   have HMY := h! hmay
   have HPM := h! hpm
   have HRN := h! hrun
   have HMF := h! hmf
   clear HR hs hvar hmay hpm hrun hal hdrop hmf hgne
   go_upto_region 9 with (fail)
   generalize wr.alloc (.cells #[.int .u8 kk, .int .i64 nn, .int .i64 aa, .string s] 30) = u1 at HS1 HV1 HX1 ⊢
   generalize wr.heap.size = g9 at HX1 ⊢
   clear c0 c1 c2 c3 hbl
   obtain ⟨A0, c0, A1, c1, A2, c2, A3, c3, A4, c4, hg6, hx6, ho6⟩ := HV1.out
   obtain ⟨⟨x0, x1, x2, x3, x4⟩, _⟩ := hx6.five
   obtain ⟨m0, m1, m2, m3⟩ := box4 HX1.out
   have HDO := h! (wdo_any _ w kk nn aa s u1 ho6.is (fit_may HMY.out HPM.out) HMF.out.1 HMF.out.2.1 HMF.out.2.2)
   have HX6 := h! hx6
   have HO6 := h! ho6
   have HG6 := h! hg6
   clear hx6 ho6 hg6 HV1 HX1 HMF
   go_wp2_with fail
   refine HDO.out.mono ?_
   rintro e w2 ⟨v2, y2, rfl, hdo, hb2, hv2⟩
   have hE : y2 = DC.errD w ⟨kk, nn, aa, s⟩ := by rcases hdo with ⟨_, h⟩ | ⟨h, _⟩; (· exact h); (· exact absurd HMY.out h)
   have HSZ := h! HS1.out.bl.size
   have HS2 := h! (HS1.out.below hb2)
   have HX62 := h! (HX6.out.below hb2 HX6.out.lt)
   have HO62 := h! (HO6.out.below hb2)
   have hlt6 : g6 < w2.heap.size := HX62.out.lt
   clear HDO hdo HS1 HX6 HO6 m0 m1 m2 m3 x0 x1 x2 x3 x4 hb2
   rcases hv2 with ⟨hne, rfl⟩ | ⟨rfl, hown⟩
   ·have hal : Below w2.heap.size w2 (w2.alloc (.cells #[.slice none 0 0, .slice none 0 0, .slice none 0 0, .slice none 0 0, .slice none 0 0] 28)) := b!
    have hr2 : DC.runF w (l.drop (k + 1)) = R := by
     have := HRN.out
     unfold DC.runF at this
     rwa [if_neg (by rw [← hE]; exact hne)] at this
    have HRR := h! (show RunRel W W.heap.size g6 R l (k + 1) _ from ⟨HS2.out.below hal, HGN.out, w, ⟨A0, c0, A1, c1, A2, c2, A3, c3, A4, c4, HG6.out, HX62.out.below hal HX62.out.lt, HO62.out.below hal⟩, HMY.out, HPM.out, hr2⟩)
    have e0 : (y2 == 0) = false := by simpa using hne
    clear hal hr2 hE hne HS2 HX62 HO62 HMY HPM HRN HG6 hlt6
    unfold zeroW
    go_upto_region 10 with (fail)
    generalize w2.alloc (.cells #[.slice none 0 0, .slice none 0 0, .slice none 0 0, .slice none 0 0, .slice none 0 0] 28) = u2 at HRR ⊢
    generalize w2.heap.size = g10
    go_wp2_with fail
    go_roundw
    case rel => exact ⟨k + 1, by omega, by go_num, HRR⟩
    case measure => simp [intOf]; omega
   ·obtain ⟨B0, d0, B1, d1, B2, d2, B3, d3, B4, d4, rfl⟩ := hown.form
    have hmay2 := DC.may_step HMY.out hE.symm
    have hpm2 := DC.pm_step HPM.out HMY.out hE.symm
    have hr2 : DC.runF (DC.aft w ⟨kk, nn, aa, s⟩) (l.drop (k + 1)) = R := by
     have := HRN.out
     unfold DC.runF at this
     rwa [if_pos hE.symm] at this
    generalize DC.aft w ⟨kk, nn, aa, s⟩ = wn at hown hmay2 hpm2 hr2 ⊢
    have hal : Below w2.heap.size w2 (w2.alloc (.cells #[.slice B0 wn.ms.length d0, .slice B1 wn.vs.length d1, .slice B2 wn.ts.length d2, .slice B3 wn.ml.length d3, .slice B4 wn.ch.length d4] 28)) := b!
    have HS3 := h! (HS2.out.below hal)
    have HX3 := h! (HX62.out.below hal HX62.out.lt)
    have HN3 := h! (Box.new w2 28 #[.slice B0 wn.ms.length d0, .slice B1 wn.vs.length d1, .slice B2 wn.ts.length d2, .slice B3 wn.ml.length d3, .slice B4 wn.ch.length d4])
    have HO3 := h! ((hown.below hal).mono HSZ.out)
    have HM2 := h! hmay2
    have HP2 := h! hpm2
    have HR2 := h! hr2
    clear hal hr2 hE hmay2 hpm2 hown HS2 HX62 HO62 HMY HPM HRN
    go_upto_region 11 with (fail)
    generalize w2.alloc (.cells #[.slice B0 wn.ms.length d0, .slice B1 wn.vs.length d1, .slice B2 wn.ts.length d2, .slice B3 wn.ml.length d3, .slice B4 wn.ch.length d4] 28) = u2 at HS3 HX3 HN3 HO3 ⊢
    generalize w2.heap.size = g10 at HN3 hlt6 ⊢
    obtain ⟨⟨n0, n1, n2, n3, n4⟩, _⟩ := HN3.out.five
    obtain ⟨⟨_, _, _, _, _⟩, z0, z1, z2, z3, z4⟩ := HX3.out.five
    obtain ⟨⟨x0, x1, x2, x3, x4⟩, _⟩ := HX3.out.five
    go_wp2_with fail
    go_roundw
    case rel =>
     have hres := res5 HX3.out (.slice B0 wn.ms.length d0) (.slice B1 wn.vs.length d1) (.slice B2 wn.ts.length d2) (.slice B3 wn.ml.length d3) (.slice B4 wn.ch.length d4)
     refine ⟨k + 1, by omega, by go_num, h! ⟨⟨far_setCells HGN.out [_, _, _, _, _] 0 HS3.out.br, hres.2.2 _ _ HS3.out.bl HG6.out, HS3.out.hr⟩, HGN.out, wn, ⟨B0, d0, B1, d1, B2, d2, B3, d3, B4, d4, HG6.out, hres.1, HO3.out.kept hres.2.1⟩, HM2.out, HP2.out, HR2.out⟩⟩
    case measure => simp [intOf]; omega
  ·obtain rfl : k = l.length := by omega
   obtain ⟨hs, _, w, hvar, _, _, hrun⟩ := HR.out
   rw [List.drop_length] at hrun
   unfold DC.runF at hrun
   have hw := h! (hrun.trans HRQ.out)
   clear hrun
   obtain ⟨A0, c0, A1, c1, A2, c2, A3, c3, A4, c4, hg6, hx6, ho6⟩ := hvar
   obtain ⟨⟨x0, x1, x2, x3, x4⟩, _⟩ := hx6.five
   have HS2 := h! hs
   obtain ⟨⟨_, _, _, _, _⟩, z0, z1, z2, z3, z4⟩ := HS2.out.br.five
   have HO := h! ho6
   clear HR hs hx6 ho6 HL HF
   go_wp2_with fail
   have hres := res5 HS2.out.br (.slice A0 w.ms.length c0) (.slice A1 w.vs.length c1) (.slice A2 w.ts.length c2) (.slice A3 w.ml.length c3) (.slice A4 w.ch.length c4)
   obtain ⟨⟨s0, s1, s2, s3, s4⟩, _⟩ := hres.1.five
   exact bodyPost_ret (v := .tuple #[.agg #[.slice A0 w.ms.length c0, .slice A1 w.vs.length c1, .slice A2 w.ts.length c2, .slice A3 w.ml.length c3, .slice A4 w.ch.length c4], .int .i64 0]) (by simp [results, Tryz.results18, go_sem, s0, s1, s2, s3, s4]) rfl ⟨_, rfl, hres.2.2 _ _ HS2.out.bl HS2.out.hr, .inr ⟨rfl, by rw [← hw.out]; exact HO.out.kept hres.2.1⟩⟩
end Go.Proofs.YtiiobafcgdelmaaGreat.PD
