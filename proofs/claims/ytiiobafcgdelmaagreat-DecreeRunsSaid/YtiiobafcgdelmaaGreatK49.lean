/- Contracts of functions of towncrier, layers 5 to 9, and of the document's own ones, part 49; each as its theorem says. -/
import Derived.Test.YtiiobafcgdelmaaGreatK01
import Derived.Test.YtiiobafcgdelmaaGreatK47
import Derived.Test.YtiiobafcgdelmaaGreatK48
import Derived.Test.YtiiobafcgdelmaaGreatProg
import Derived.Test.YtiiobafcgdelmaaGreatK03
import Derived.Test.YtiiobafcgdelmaaGreatRows
import Derived.Lib.SmallJoins
import Derived.OpenShut
import Derived.Deep.Slices
import Derived.Deep.Fields
import Derived.ChangeSame
import Derived.Test.YtiiobafcgdelmaaGreatK27
set_option linter.unusedVariables false
set_option linter.unusedSimpArgs false
namespace Go.Proofs.YtiiobafcgdelmaaGreat.PD
open Go.RowKit Go.Shelf
def RRunRet (ms : List Int) (l : List DC.Mv) (y : Int) (W : World) (e : Ending) (W' : World) : Prop :=
 ∃ v, e = .returned (.tuple #[v, .int .i64 y]) ∧ Below W.heap.size W W' ∧ ((y ≠ 0 ∧ v = zeroW) ∨ (y = 0 ∧ WIk W' v (DC.runF (DC.start ms) l)))
def RVar (W wr : World) (g : Nat) (w : DC.Wd) : Prop :=
 ∃ A0 c0 A1 c1 A2 c2 A3 c3 A4 c4, W.heap.size ≤ g ∧ Box wr g 28 #[.slice A0 w.ms.length c0, .slice A1 w.vs.length c1, .slice A2 w.ts.length c2, .slice A3 w.ml.length c3, .slice A4 w.ch.length c4] ∧ WIk wr (.agg #[.slice A0 w.ms.length c0, .slice A1 w.vs.length c1, .slice A2 w.ts.length c2, .slice A3 w.ml.length c3, .slice A4 w.ch.length c4]) w ∧ w.ml.length ≤ c3
def RRel (W : World) (gr g6 : Nat) (R : DC.Wd) (l : List DC.Mv) (k : Nat) (wr : World) : Prop :=
 NwSt W wr gr ∧ gr ≠ g6 ∧ ∃ w, RVar W wr g6 w ∧ DC.May w ∧ PM w ∧ DC.runF w (l.drop k) = R
def RMid (u : World) (w : DC.Wd) (m : DC.Mv) (x y : Value) (wx : World) : Prop :=
 ∃ g yy, x = .pointer (some ⟨g, 0, none⟩) ∧ y = .int .i64 yy ∧ Below u.heap.size u wx ∧ u.heap.size ≤ g ∧ DoIs w m yy ∧
  ((yy ≠ 0 ∧ Box wx g 28 #[.slice none 0 0, .slice none 0 0, .slice none 0 0, .slice none 0 0, .slice none 0 0]) ∨ (yy = 0 ∧ RVar u wx g (DC.aft w m)))
theorem rMid_zero {u wz : World} {w : DC.Wd} {m : DC.Mv} {g : Nat} {yy : Int} (hb : Below u.heap.size u wz) (hg : u.heap.size ≤ g) (hx : Box wz g 28 #[.slice none 0 0, .slice none 0 0, .slice none 0 0, .slice none 0 0, .slice none 0 0]) (hd : DoIs w m yy) (hy : yy ≠ 0) :
  RMid u w m (.pointer (some ⟨g, 0, none⟩)) (.int .i64 yy) (((((wz.setCell ⟨g, 0, none⟩ (.slice none 0 0)).setCell ⟨g, 1, none⟩ (.slice none 0 0)).setCell ⟨g, 2, none⟩ (.slice none 0 0)).setCell ⟨g, 3, none⟩ (.slice none 0 0)).setCell ⟨g, 4, none⟩ (.slice none 0 0)) := by
 have hres := res5 hx (.slice none 0 0) (.slice none 0 0) (.slice none 0 0) (.slice none 0 0) (.slice none 0 0)
 exact ⟨g, yy, rfl, rfl, hres.2.2 _ _ hb hg, hg, hd, .inl ⟨hy, hres.1⟩⟩
theorem rMid_own {u wz : World} {w wa : DC.Wd} {m : DC.Mv} {g : Nat} {A0 A1 A2 A3 A4 : Option Addr} {c0 c1 c2 c3 c4 : Nat} (hb : Below u.heap.size u wz) (hg : u.heap.size ≤ g) (hx : Box wz g 28 #[.slice none 0 0, .slice none 0 0, .slice none 0 0, .slice none 0 0, .slice none 0 0]) (hd : DoIs w m 0)
  (ha : DC.aft w m = wa) (ho : WIk wz (.agg #[.slice A0 wa.ms.length c0, .slice A1 wa.vs.length c1, .slice A2 wa.ts.length c2, .slice A3 wa.ml.length c3, .slice A4 wa.ch.length c4]) wa) (hc : wa.ml.length ≤ c3) :
  RMid u w m (.pointer (some ⟨g, 0, none⟩)) (.int .i64 0) (((((wz.setCell ⟨g, 0, none⟩ (.slice A0 wa.ms.length c0)).setCell ⟨g, 1, none⟩ (.slice A1 wa.vs.length c1)).setCell ⟨g, 2, none⟩ (.slice A2 wa.ts.length c2)).setCell ⟨g, 3, none⟩ (.slice A3 wa.ml.length c3)).setCell ⟨g, 4, none⟩ (.slice A4 wa.ch.length c4)) := by
 subst ha
 have hres := res5 hx (.slice A0 (DC.aft w m).ms.length c0) (.slice A1 (DC.aft w m).vs.length c1) (.slice A2 (DC.aft w m).ts.length c2) (.slice A3 (DC.aft w m).ml.length c3) (.slice A4 (DC.aft w m).ch.length c4)
 exact ⟨g, 0, rfl, rfl, hres.2.2 _ _ hb hg, hg, hd, .inr ⟨rfl, A0, c0, A1, c1, A2, c2, A3, c3, A4, c4, hg, hres.1, ho.kept hres.2.1, hc⟩⟩
theorem WIk.form {W : World} {v : Value} {w : DC.Wd} (h : WIk W v w) : ∃ A0 c0 A1 c1 A2 c2 A3 c3 A4 c4, v = .agg #[.slice A0 w.ms.length c0, .slice A1 w.vs.length c1, .slice A2 w.ts.length c2, .slice A3 w.ml.length c3, .slice A4 w.ch.length c4] := by
 obtain ⟨A0, c0, A1, c1, A2, c2, A3, c3, A4, c4, xs, e, _⟩ := h.is
 exact ⟨A0, c0, A1, c1, A2, c2, A3, c3, A4, c4, e⟩
set_option maxRecDepth 100000 in
set_option maxHeartbeats 16000000 in
theorem rwrun_any (A : Option Addr) (n c : Nat) (ms : List Int) (B : Option Addr) (m d : Nat) (l : List DC.Mv) (y : Int) (W : World) (hr : Rd W A n (ic ms)) (hm : n ≤ 9223372036854775807) (hl : RdG W 4 B m (flat vmove l)) (hlen : l.length = m) (hm2 : m ≤ 9223372036854775807) (hF : ∀ x ∈ l, MvFit x) (hy : RunIs ms l y) :
  Calls Tryz.prog 19 #[.slice A n c, .slice B m d] W (RRunRet ms l y W) := by
 obtain ⟨y0, hy0⟩ := QM.chkIs_ex ms
 have HN := h! (fun (U : World) (hU : Below W.heap.size W U) => rwnew_any A n c ms y0 U (hr.below hU) hm hy0)
 have HL := h! (fun (U : World) (hU : Below W.heap.size W U) => RdG.below hl hU)
 have HF := h! hF
 obtain ⟨U0, hU0⟩ : ∃ U0, U0 = W.alloc (.cells #[.slice none 0 0, .slice none 0 0, .slice none 0 0, .slice none 0 0, .slice none 0 0] 28) := ⟨_, rfl⟩
 have hs0 : NwSt W U0 W.heap.size := by rw [hU0]; exact ⟨Box.new _ _ _, (Below.refl _ _).alloc n! _, Nat.le_refl _⟩
 have HS0 := h! hs0
 have mixed : Tryz.prog.follows Departure.mixedOrders = true := by kernel_rfl
 clear hs0 hr hl hF hm
 subst hlen
 go_enter Tryz.func19, Tryz.ntmps19
 go_wp2_with fail
 rw [← hU0]
 generalize hgr : W.heap.size = gr at HS0 ⊢
 refine (HN.out U0 HS0.out.bl).mono ?_
 rintro e w1 ⟨v, rfl, hb1, hv⟩
 have HS1 := h! (HS0.out.below hb1)
 clear HN hU0
 rcases hv with ⟨hne, rfl⟩ | ⟨rfl, hown⟩
 ·have hyy : y = y0 := by
   rcases hy with ⟨h1, _⟩ | ⟨h1, _⟩ | ⟨h1, _⟩
   ·exact QM.chkIs_eq h1 hy0
   ·exact absurd (QM.chkIs_eq hy0 h1) hne
   ·exact absurd (QM.chkIs_eq hy0 h1) hne
  subst hyy
  have e0 : (y != 0) = true := by simpa using hne
  have HNE := h! hne
  have hal : Below w1.heap.size w1 (w1.alloc (.cells #[.slice none 0 0, .slice none 0 0, .slice none 0 0, .slice none 0 0, .slice none 0 0] 28)) := b!
  have HS2 := h! (HS1.out.below hal)
  clear hy hy0 hne HL HF hal HS1 HS0 hb1
  unfold zeroW
  go_upto_region 2 with (fail)
  generalize w1.alloc (.cells #[.slice none 0 0, .slice none 0 0, .slice none 0 0, .slice none 0 0, .slice none 0 0] 28) = u at HS2 ⊢
  generalize w1.heap.size = g6
  subst hgr
  obtain ⟨⟨_, _, _, _, _⟩, z0, z1, z2, z3, z4⟩ := HS2.out.br.five
  go_wp2_with fail
  have hres := res5 HS2.out.br (.slice none 0 0) (.slice none 0 0) (.slice none 0 0) (.slice none 0 0) (.slice none 0 0)
  obtain ⟨⟨s0, s1, s2, s3, s4⟩, _⟩ := hres.1.five
  exact bodyPost_ret (v := .tuple #[.agg #[.slice none 0 0, .slice none 0 0, .slice none 0 0, .slice none 0 0, .slice none 0 0], .int .i64 y]) (by simp [results, Tryz.results19, go_sem, s0, s1, s2, s3, s4]) rfl ⟨_, rfl, hres.2.2 _ _ HS2.out.bl HS2.out.hr, .inl ⟨HNE.out, rfl⟩⟩
 have hmay : QM.may ms = true := by rcases QM.chkIs_cases hy0 with ⟨_, h⟩ | ⟨_, h⟩; (· exact h); (· omega)
 obtain ⟨A0, c0, A1, c1, A2, c2, A3, c3, A4, c4, rfl⟩ := hown.form
 have hcp : (DC.start ms).ml.length ≤ c3 := Nat.zero_le _
 have hal : Below w1.heap.size w1 (w1.alloc (.cells #[.slice A0 (DC.start ms).ms.length c0, .slice A1 (DC.start ms).vs.length c1, .slice A2 (DC.start ms).ts.length c2, .slice A3 (DC.start ms).ml.length c3, .slice A4 (DC.start ms).ch.length c4] 28)) := b!
 have hsz : W.heap.size ≤ U0.heap.size := HS0.out.bl.size
 have hvar : RVar W (w1.alloc (.cells #[.slice A0 (DC.start ms).ms.length c0, .slice A1 (DC.start ms).vs.length c1, .slice A2 (DC.start ms).ts.length c2, .slice A3 (DC.start ms).ml.length c3, .slice A4 (DC.start ms).ch.length c4] 28)) w1.heap.size (DC.start ms) :=
  ⟨A0, c0, A1, c1, A2, c2, A3, c3, A4, c4, Nat.le_trans hsz hb1.size, Box.new _ _ _, (hown.below hal).wik, hcp⟩
 have HR := h! (show RRel W gr w1.heap.size (DC.runF (DC.start ms) l) l 0 _ from ⟨HS1.out.below hal, Nat.ne_of_lt (Nat.lt_of_lt_of_le HS0.out.br.lt hb1.size), DC.start ms, hvar, DC.may_begin hmay, DC.pm_start ms, rfl⟩)
 clear hal hvar hown HS1 HS0 hb1 hmay hsz
 go_upto_region 2 with (fail)
 generalize w1.alloc (.cells #[.slice A0 (DC.start ms).ms.length c0, .slice A1 (DC.start ms).vs.length c1, .slice A2 (DC.start ms).ts.length c2, .slice A3 (DC.start ms).ml.length c3, .slice A4 (DC.start ms).ch.length c4] 28) = u at HR ⊢
 generalize w1.heap.size = g6 at HR ⊢
 subst hgr
 by_cases h1000 : 1000 < l.length
 ·have hyy : y = 4 := by
   rcases hy with ⟨h1, h2⟩ | ⟨_, _, h⟩ | ⟨_, h, _⟩
   ·exact absurd (QM.chkIs_eq h1 hy0) h2
   ·exact h
   ·omega
  subst hyy
  have HS2 := h! HR.out.1
  obtain ⟨⟨_, _, _, _, _⟩, z0, z1, z2, z3, z4⟩ := HS2.out.br.five
  clear hy hy0 HL HF HR
  go_wp2_with fail
  have hres := res5 HS2.out.br (.slice none 0 0) (.slice none 0 0) (.slice none 0 0) (.slice none 0 0) (.slice none 0 0)
  obtain ⟨⟨s0, s1, s2, s3, s4⟩, _⟩ := hres.1.five
  exact bodyPost_ret (v := .tuple #[.agg #[.slice none 0 0, .slice none 0 0, .slice none 0 0, .slice none 0 0, .slice none 0 0], .int .i64 4]) (by simp [results, Tryz.results19, go_sem, s0, s1, s2, s3, s4]) rfl ⟨_, rfl, hres.2.2 _ _ HS2.out.bl HS2.out.hr, .inl ⟨by decide, rfl⟩⟩
 have hyy : y = 0 := by
  rcases hy with ⟨h1, h2⟩ | ⟨_, h, _⟩ | ⟨_, _, h⟩
  ·exact absurd (QM.chkIs_eq h1 hy0) h2
  ·omega
  ·exact h
 subst hyy
 obtain ⟨R, hR⟩ : ∃ R, R = DC.runF (DC.start ms) l := ⟨_, rfl⟩
 rw [← hR] at HR
 have HRQ := h! hR
 have h1000' : l.length ≤ 1000 := by omega
 clear hy hy0 hR h1000
 go_wp2_with fail
 go_loopw [8] (fun i wr => ∃ k : Nat, k ≤ l.length ∧ i = .int .i64 k ∧ Hid (RRel W W.heap.size g6 R l k wr)) (fun i _ => l.length - (intOf i).toNat)
 case atStart => exact ⟨0, by omega, rfl, HR⟩
 case round =>
  clear HR
  obtain ⟨k, hk, rfl, HR⟩ := hrel
  by_cases hlt : k < l.length
  ·have hmf : MvFit l[k] := HF.out _ (List.getElem_mem ..)
   have hdrop := List.drop_eq_getElem_cons hlt
   obtain ⟨bl, o, rfl, hbl, d0, d1, d2, d3⟩ := RdG.move (HL.out wr HR.out.1.bl) hlt (List.getElem?_eq_getElem hlt)
   generalize l[k] = x at d0 d1 d2 d3 hmf hdrop
   obtain ⟨kk, nn, aa, s⟩ := x
   simp only at d0 d1 d2 d3
   obtain ⟨hs, hgne, w, hvar, hmay, hpm, hrun⟩ := HR.out
   rw [hdrop] at hrun
   obtain ⟨A0, c0, A1, c1, A2, c2, A3, c3, A4, c4, hg6, hx6, ho6, hc6⟩ := hvar
   have HGN := h! hgne
   have HS1 := h! hs
   have HX := h! hx6
   have HO := h! ho6
   have HG6 := h! hg6
   have HC6 := h! hc6
   have HMY := h! hmay
   have HPM := h! hpm
   have HRN := h! hrun
   have HDO := h! (fun (U : World) (hU : Below wr.heap.size wr U) => rwdo_any _ w kk nn aa s U (ho6.below hU).is (fit_may hmay hpm) (wcap_of hc6) hmf.1 hmf.2.1 hmf.2.2)
   have HSS : Hid (∀ w', Below wr.heap.size wr w' → w'.cell? ⟨g6, 0, none⟩ = some (.slice A0 w.ms.length c0) ∧ w'.cell? ⟨g6, 1, none⟩ = some (.slice A1 w.vs.length c1) ∧ w'.cell? ⟨g6, 2, none⟩ = some (.slice A2 w.ts.length c2) ∧ w'.cell? ⟨g6, 3, none⟩ = some (.slice A3 w.ml.length c3) ∧ w'.cell? ⟨g6, 4, none⟩ = some (.slice A4 w.ch.length c4) ∧ w'.cell? ⟨bl, o + k * 4, none⟩ = some (.int .u8 kk) ∧ w'.cell? ⟨bl, o + k * 4 + 1, none⟩ = some (.int .i64 nn) ∧ w'.cell? ⟨bl, o + k * 4 + 2, none⟩ = some (.int .i64 aa) ∧ w'.cell? ⟨bl, o + k * 4 + 3, none⟩ = some (.string s)) := h! (fun w' hb => by
    obtain ⟨⟨x0, x1, x2, x3, x4⟩, _⟩ := (hx6.below hb hx6.lt).five
    exact ⟨x0, x1, x2, x3, x4, (hb.cell hbl).trans d0, (hb.cell hbl).trans d1, (hb.cell hbl).trans d2, (hb.cell hbl).trans d3⟩)
   have i0' : (0 : Int) ≤ (k : Int) := by omega
   have i1' : (k : Int) < (l.length : Int) := by omega
   clear HR hs hmay hpm hrun hdrop hmf hgne hx6 ho6 hg6 hc6 d0 d1 d2 d3 hbl
   go_upto_region 9 with (fail)
   go_cut [9, 10] (fun x y wx => RMid wr w ⟨kk, nn, aa, s⟩ x y wx)
   case first =>
    have HB := h! (show Below wr.heap.size wr wr.drew from (Below.refl _ _).drew)
    refine wp_region_held_drew (S := fun w' => w'.cell? ⟨g6, 0, none⟩ = some (.slice A0 w.ms.length c0) ∧ w'.cell? ⟨g6, 1, none⟩ = some (.slice A1 w.vs.length c1) ∧ w'.cell? ⟨g6, 2, none⟩ = some (.slice A2 w.ts.length c2) ∧ w'.cell? ⟨g6, 3, none⟩ = some (.slice A3 w.ml.length c3) ∧ w'.cell? ⟨g6, 4, none⟩ = some (.slice A4 w.ch.length c4) ∧ w'.cell? ⟨bl, o + k * 4, none⟩ = some (.int .u8 kk) ∧ w'.cell? ⟨bl, o + k * 4 + 1, none⟩ = some (.int .i64 nn) ∧ w'.cell? ⟨bl, o + k * 4 + 2, none⟩ = some (.int .i64 aa) ∧ w'.cell? ⟨bl, o + k * 4 + 3, none⟩ = some (.string s)) (by kernel_rfl) (HSS.out _ HB.out) (fun hHeld => ?_)
    refine qT 0 ?_
    try simp only [Act.put, qq]
    refine qT 1 ?_
    try simp only [Act.put, qq]
    refine qT 2 ?_
    try simp only [Act.put, qq]
    refine qT 3 ?_
    try simp only [Act.put, qq]
    refine qT 4 ?_
    try simp only [Act.put, qq]
    obtain ⟨ud, hud⟩ : ∃ ud, ud = wr.drew := ⟨_, rfl⟩
    rw [← hud] at HB hHeld ⊢
    clear hud
    refine wpAnyH_ready (rs := [5, 9]) (by kernel_rfl) (by simp) ?_
    refine AllReadyH.cons rfl (fun K hK => ?_) (AllReadyH.cons rfl (fun K hK => ?_) AllReadyH.nil)
    ·skip
     go_simp
     refine (HDO.out _ HB.out).mono ?_
     rintro e wd1 ⟨v5, y5, rfl, hd5, hb, hv5⟩
     have HB := h! (bmore HB.out hb n!)
     skip
     have HD := h! hd5
     clear hb hd5
     rcases hv5 with ⟨hn5, rfl⟩ | ⟨rfl, ho5, hc5⟩
     ·have HN := h! hn5
      clear hn5
      unfold zeroW
      refine hK.out _ _ (HSS.out _ HB.out) (fun hHeld => ?_)
      clear hK
      try simp only [Act.put, qq]
      refine qT 6 ?_
      try simp only [Act.put, qq]
      refine qT 7 ?_
      try simp only [Act.put, qq]
      refine qT 8 ?_
      try simp only [Act.put, qq]
      refine qR 9 fun K hK => ?_
      go_simp
      have hb : Below wd1.heap.size wd1 (wd1.alloc (.cells #[.slice none 0 0, .slice none 0 0, .slice none 0 0, .slice none 0 0, .slice none 0 0] 28)) := b!
      have HG := h! (Box.new wd1 28 #[.slice none 0 0, .slice none 0 0, .slice none 0 0, .slice none 0 0, .slice none 0 0])
      have HGL := h! (HB.out.size)
      have HB := h! (bmore HB.out hb n!)
      skip
      clear hb
      refine hK.out _ _ (HSS.out _ HB.out) (fun hHeld => ?_)
      clear hK
      try simp only [Act.put, qq]
      generalize wd1.alloc (.cells #[.slice none 0 0, .slice none 0 0, .slice none 0 0, .slice none 0 0, .slice none 0 0] 28) = wa2 at HB HG hHeld ⊢
      generalize wd1.heap.size = gx at HG HGL ⊢
      obtain ⟨⟨_, _, _, _, _⟩, z0, z1, z2, z3, z4⟩ := HG.out.five
      have HFIN := h! (rMid_zero HB.out HGL.out HG.out HD.out HN.out)
      have HSF := h! (HSS.out _ HFIN.out.choose_spec.choose_spec.2.2.1)
      refine qR 10 fun K hK => ?_
      go_simp
      refine hK.out _ _ HSF.out (fun hHeld => ?_)
      clear hK
      try simp only [Act.put, qq]
      refine qT 11 ?_
      try simp only [Act.put, qq]
      refine wpAnyH_done (by kernel_rfl) ?_ _
      clear hHeld HSF z0 z1 z2 z3 z4
      go_wp2_with fail
      go_meet
      case rel => exact HFIN.out
     ·obtain ⟨wn, hwn⟩ : ∃ wn, DC.aft w ⟨kk, nn, aa, s⟩ = wn := ⟨_, rfl⟩
      rw [hwn] at ho5
      have HA := h! hwn
      obtain ⟨E0, f0, E1, f1, E2, f2, E3, f3, E4, f4, rfl⟩ := ho5.form
      have HW := h! ho5
      have HCC := h! (hc5 _ _ _ _ _ _ _ rfl)
      clear ho5 hwn hc5
      refine hK.out _ _ (HSS.out _ HB.out) (fun hHeld => ?_)
      clear hK
      try simp only [Act.put, qq]
      refine qT 6 ?_
      try simp only [Act.put, qq]
      refine qT 7 ?_
      try simp only [Act.put, qq]
      refine qT 8 ?_
      try simp only [Act.put, qq]
      refine qR 9 fun K hK => ?_
      go_simp
      have hb : Below wd1.heap.size wd1 (wd1.alloc (.cells #[.slice none 0 0, .slice none 0 0, .slice none 0 0, .slice none 0 0, .slice none 0 0] 28)) := b!
      have HG := h! (Box.new wd1 28 #[.slice none 0 0, .slice none 0 0, .slice none 0 0, .slice none 0 0, .slice none 0 0])
      have HGL := h! (HB.out.size)
      have HB := h! (bmore HB.out hb n!)
      have HW := h! (HW.out.below hb)
      clear hb
      refine hK.out _ _ (HSS.out _ HB.out) (fun hHeld => ?_)
      clear hK
      try simp only [Act.put, qq]
      generalize wd1.alloc (.cells #[.slice none 0 0, .slice none 0 0, .slice none 0 0, .slice none 0 0, .slice none 0 0] 28) = wa3 at HB HG HW hHeld ⊢
      generalize wd1.heap.size = gx at HG HGL ⊢
      obtain ⟨⟨_, _, _, _, _⟩, z0, z1, z2, z3, z4⟩ := HG.out.five
      have HFIN := h! (rMid_own HB.out HGL.out HG.out HD.out HA.out HW.out HCC.out)
      have HSF := h! (HSS.out _ HFIN.out.choose_spec.choose_spec.2.2.1)
      refine qR 10 fun K hK => ?_
      go_simp
      refine hK.out _ _ HSF.out (fun hHeld => ?_)
      clear hK
      try simp only [Act.put, qq]
      refine qT 11 ?_
      try simp only [Act.put, qq]
      refine wpAnyH_done (by kernel_rfl) ?_ _
      clear hHeld HSF z0 z1 z2 z3 z4
      go_wp2_with fail
      go_meet
      case rel => exact HFIN.out
    ·skip
     go_simp
     have hb : Below ud.heap.size ud (ud.alloc (.cells #[.slice none 0 0, .slice none 0 0, .slice none 0 0, .slice none 0 0, .slice none 0 0] 28)) := b!
     have HG := h! (Box.new ud 28 #[.slice none 0 0, .slice none 0 0, .slice none 0 0, .slice none 0 0, .slice none 0 0])
     have HGL := h! (HB.out.size)
     have HB := h! (bmore HB.out hb n!)
     skip
     clear hb
     refine hK.out _ _ (HSS.out _ HB.out) (fun hHeld => ?_)
     clear hK
     try simp only [Act.put, qq]
     generalize ud.alloc (.cells #[.slice none 0 0, .slice none 0 0, .slice none 0 0, .slice none 0 0, .slice none 0 0] 28) = wa4 at HB HG hHeld ⊢
     generalize ud.heap.size = gx at HG HGL ⊢
     refine qR 5 fun K hK => ?_
     go_simp
     refine (HDO.out _ HB.out).mono ?_
     rintro e wd5 ⟨v5, y5, rfl, hd5, hb, hv5⟩
     have HB := h! (bmore HB.out hb n!)
     have HG := h! (HG.out.below hb HG.out.lt)
     have HD := h! hd5
     clear hb hd5
     rcases hv5 with ⟨hn5, rfl⟩ | ⟨rfl, ho5, hc5⟩
     ·have HN := h! hn5
      clear hn5
      unfold zeroW
      refine hK.out _ _ (HSS.out _ HB.out) (fun hHeld => ?_)
      clear hK
      try simp only [Act.put, qq]
      refine qT 6 ?_
      try simp only [Act.put, qq]
      refine qT 7 ?_
      try simp only [Act.put, qq]
      refine qT 8 ?_
      try simp only [Act.put, qq]
      obtain ⟨⟨_, _, _, _, _⟩, z0, z1, z2, z3, z4⟩ := HG.out.five
      have HFIN := h! (rMid_zero HB.out HGL.out HG.out HD.out HN.out)
      have HSF := h! (HSS.out _ HFIN.out.choose_spec.choose_spec.2.2.1)
      refine qR 10 fun K hK => ?_
      go_simp
      refine hK.out _ _ HSF.out (fun hHeld => ?_)
      clear hK
      try simp only [Act.put, qq]
      refine qT 11 ?_
      try simp only [Act.put, qq]
      refine wpAnyH_done (by kernel_rfl) ?_ _
      clear hHeld HSF z0 z1 z2 z3 z4
      go_wp2_with fail
      go_meet
      case rel => exact HFIN.out
     ·obtain ⟨wn, hwn⟩ : ∃ wn, DC.aft w ⟨kk, nn, aa, s⟩ = wn := ⟨_, rfl⟩
      rw [hwn] at ho5
      have HA := h! hwn
      obtain ⟨E0, f0, E1, f1, E2, f2, E3, f3, E4, f4, rfl⟩ := ho5.form
      have HW := h! ho5
      have HCC := h! (hc5 _ _ _ _ _ _ _ rfl)
      clear ho5 hwn hc5
      refine hK.out _ _ (HSS.out _ HB.out) (fun hHeld => ?_)
      clear hK
      try simp only [Act.put, qq]
      refine qT 6 ?_
      try simp only [Act.put, qq]
      refine qT 7 ?_
      try simp only [Act.put, qq]
      refine qT 8 ?_
      try simp only [Act.put, qq]
      obtain ⟨⟨_, _, _, _, _⟩, z0, z1, z2, z3, z4⟩ := HG.out.five
      have HFIN := h! (rMid_own HB.out HGL.out HG.out HD.out HA.out HW.out HCC.out)
      have HSF := h! (HSS.out _ HFIN.out.choose_spec.choose_spec.2.2.1)
      refine qR 10 fun K hK => ?_
      go_simp
      refine hK.out _ _ HSF.out (fun hHeld => ?_)
      clear hK
      try simp only [Act.put, qq]
      refine qT 11 ?_
      try simp only [Act.put, qq]
      refine wpAnyH_done (by kernel_rfl) ?_ _
      clear hHeld HSF z0 z1 z2 z3 z4
      go_wp2_with fail
      go_meet
      case rel => exact HFIN.out
   case rest =>
    clear HDO HSS
    obtain ⟨gx, yy, rfl, rfl, hb2, hgx, hdo, hv⟩ := hcut
    have hE : yy = DC.errD w ⟨kk, nn, aa, s⟩ := by rcases hdo with ⟨_, h⟩ | ⟨h, _⟩; (· exact h); (· exact absurd HMY.out h)
    have HS2 := h! (HS1.out.below hb2)
    have HX2 := h! (HX.out.below hb2 HX.out.lt)
    have HO2 := h! (HO.out.below hb2)
    have hlt6 : g6 < wr.heap.size := HX.out.lt
    clear hdo HS1 HX HO hb2
    rcases hv with ⟨hne, hz⟩ | ⟨rfl, hvar⟩
    ·have hr2 : DC.runF w (l.drop (k + 1)) = R := by
      have := HRN.out
      unfold DC.runF at this
      rwa [if_neg (by rw [← hE]; exact hne)] at this
     have HRR := h! (show RRel W W.heap.size g6 R l (k + 1) _ from ⟨HS2.out, HGN.out, w, ⟨A0, c0, A1, c1, A2, c2, A3, c3, A4, c4, HG6.out, HX2.out, HO2.out, HC6.out⟩, HMY.out, HPM.out, hr2⟩)
     have e0 : (yy == 0) = false := by simpa using hne
     clear hz hr2 hE hne HS2 HX2 HO2 HMY HPM HRN HG6 hlt6
     go_wp2_with fail
     go_roundw
     case rel => exact ⟨k + 1, by omega, by go_num, HRR⟩
     case measure => simp [intOf]; omega
    ·have hmay2 := DC.may_step HMY.out hE.symm
     have hpm2 := DC.pm_step HPM.out HMY.out hE.symm
     have hr2 : DC.runF (DC.aft w ⟨kk, nn, aa, s⟩) (l.drop (k + 1)) = R := by
      have := HRN.out
      unfold DC.runF at this
      rwa [if_pos hE.symm] at this
     generalize DC.aft w ⟨kk, nn, aa, s⟩ = wn at hvar hmay2 hpm2 hr2
     obtain ⟨B0, e0, B1, e1, B2, e2, B3, e3, B4, e4, _, hx9, ho9, hc9⟩ := hvar
     have HN3 := h! hx9
     have HO3 := h! ho9
     have HC3 := h! hc9
     have HM2 := h! hmay2
     have HP2 := h! hpm2
     have HR2 := h! hr2
     clear hr2 hE hmay2 hpm2 hx9 ho9 hc9 HO2 HMY HPM HRN HC6
     obtain ⟨⟨n0, n1, n2, n3, n4⟩, _⟩ := HN3.out.five
     obtain ⟨⟨_, _, _, _, _⟩, z0, z1, z2, z3, z4⟩ := HX2.out.five
     go_wp2_with fail
     go_roundw
     case rel =>
      have hres := res5 HX2.out (.slice B0 wn.ms.length e0) (.slice B1 wn.vs.length e1) (.slice B2 wn.ts.length e2) (.slice B3 wn.ml.length e3) (.slice B4 wn.ch.length e4)
      refine ⟨k + 1, by omega, by go_num, h! ⟨⟨far_setCells HGN.out [_, _, _, _, _] 0 HS2.out.br, hres.2.2 _ _ HS2.out.bl HG6.out, HS2.out.hr⟩, HGN.out, wn, ⟨B0, e0, B1, e1, B2, e2, B3, e3, B4, e4, HG6.out, hres.1, HO3.out.kept hres.2.1, HC3.out⟩, HM2.out, HP2.out, HR2.out⟩⟩
     case measure => simp [intOf]; omega
  ·obtain rfl : k = l.length := by omega
   obtain ⟨hs, _, w, hvar, _, _, hrun⟩ := HR.out
   rw [List.drop_length] at hrun
   unfold DC.runF at hrun
   have hw := h! (hrun.trans HRQ.out)
   clear hrun
   obtain ⟨A0, c0, A1, c1, A2, c2, A3, c3, A4, c4, hg6, hx6, ho6, hc6⟩ := hvar
   obtain ⟨⟨x0, x1, x2, x3, x4⟩, _⟩ := hx6.five
   have HS2 := h! hs
   obtain ⟨⟨_, _, _, _, _⟩, z0, z1, z2, z3, z4⟩ := HS2.out.br.five
   have HO := h! ho6
   clear HR hs hx6 ho6 HL HF
   go_wp2_with fail
   have hres := res5 HS2.out.br (.slice A0 w.ms.length c0) (.slice A1 w.vs.length c1) (.slice A2 w.ts.length c2) (.slice A3 w.ml.length c3) (.slice A4 w.ch.length c4)
   obtain ⟨⟨s0, s1, s2, s3, s4⟩, _⟩ := hres.1.five
   exact bodyPost_ret (v := .tuple #[.agg #[.slice A0 w.ms.length c0, .slice A1 w.vs.length c1, .slice A2 w.ts.length c2, .slice A3 w.ml.length c3, .slice A4 w.ch.length c4], .int .i64 0]) (by simp [results, Tryz.results19, go_sem, s0, s1, s2, s3, s4]) rfl ⟨_, rfl, hres.2.2 _ _ HS2.out.bl HS2.out.hr, .inr ⟨rfl, by rw [← hw.out]; exact HO.out.kept hres.2.1⟩⟩
def orZero (y : Int) (w : DC.Wd) : DC.Wd := if y = 0 then w else DC.zero
def VRet (w : DC.Wd) (y : Int) (W : World) (e : Ending) (W' : World) : Prop :=
 ∃ A0 c0 A1 c1 A2 c2 A3 c3 A4 c4, e = .returned (.tuple #[.agg #[.slice A0 w.ms.length c0, .slice A1 w.vs.length c1, .slice A2 w.ts.length c2, .slice A3 w.ml.length c3, .slice A4 w.ch.length c4], .int .i64 y]) ∧ Below W.heap.size W W' ∧ WIk W' (.agg #[.slice A0 w.ms.length c0, .slice A1 w.vs.length c1, .slice A2 w.ts.length c2, .slice A3 w.ml.length c3, .slice A4 w.ch.length c4]) w
theorem wik_zero (W : World) : WIk W zeroW DC.zero := fun W' _ =>
 ⟨none, 0, none, 0, none, 0, none, 0, none, 0, [], rfl, ⟨rfl, fun h => absurd h (Nat.lt_irrefl 0)⟩, ⟨rfl, fun h => absurd h (Nat.lt_irrefl 0)⟩, ⟨rfl, fun h => absurd h (Nat.lt_irrefl 0)⟩, ⟨[], rfl, rfl, fun i t h => by cases h⟩, ⟨rfl, fun h => absurd h (Nat.lt_irrefl 0)⟩, ⟨rfl, fun h => absurd h (Nat.lt_irrefl 0)⟩⟩
theorem fit_zeroW : WFit DC.zero := ⟨by decide, by decide, by decide, by decide, by decide, (by intro v h; cases h), (by intro v h; cases h), (by intro v h; cases h), (by intro v h; cases h)⟩
theorem vret_mk {w : DC.Wd} {y : Int} {v : Value} {W W' : World} (hb : Below W.heap.size W W') (h : (y ≠ 0 ∧ v = zeroW) ∨ (y = 0 ∧ WIk W' v w)) : VRet (orZero y w) y W (.returned (.tuple #[v, .int .i64 y])) W' := by
 unfold orZero
 rcases h with ⟨h, rfl⟩ | ⟨h, k⟩
 ·rw [if_neg h]
  exact ⟨none, 0, none, 0, none, 0, none, 0, none, 0, rfl, hb, wik_zero W'⟩
 ·rw [if_pos h]
  obtain ⟨A0, c0, A1, c1, A2, c2, A3, c3, A4, c4, rfl⟩ := k.form
  exact ⟨A0, c0, A1, c1, A2, c2, A3, c3, A4, c4, rfl, hb, k⟩
theorem NewRet.vret {ms : List Int} {y : Int} {W W' : World} {e : Ending} (h : NewRet ms y W e W') : VRet (orZero y (DC.start ms)) y W e W' := by
 obtain ⟨v, rfl, hb, h⟩ := h
 exact vret_mk hb (h.imp id (fun h => ⟨h.1, h.2.wik⟩))
theorem RunRet.vret {ms : List Int} {l : List DC.Mv} {y : Int} {W W' : World} {e : Ending} (h : RunRet ms l y W e W') : VRet (orZero y (DC.runF (DC.start ms) l)) y W e W' := by
 obtain ⟨v, rfl, hb, h⟩ := h
 exact vret_mk hb (h.imp id (fun h => ⟨h.1, h.2.wik⟩))
theorem RRunRet.vret {ms : List Int} {l : List DC.Mv} {y : Int} {W W' : World} {e : Ending} (h : RRunRet ms l y W e W') : VRet (orZero y (DC.runF (DC.start ms) l)) y W e W' := by
 obtain ⟨v, rfl, hb, h⟩ := h
 exact vret_mk hb h
theorem fit_new {ms : List Int} {y : Int} (h : QM.ChkIs ms y) : WFit (orZero y (DC.start ms)) := by
 unfold orZero
 split
 ·rename_i e
  subst e
  have hmay : QM.may ms = true := by rcases QM.chkIs_cases h with ⟨_, h⟩ | ⟨_, h⟩; (· exact h); (· omega)
  exact fit_may (DC.may_begin hmay) (DC.pm_start ms)
 ·exact fit_zeroW
theorem may_run : ∀ (l : List DC.Mv) (w : DC.Wd), DC.May w → DC.May (DC.runF w l)
 | [], w, h => h
 | m :: l, w, h => by
  unfold DC.runF
  refine may_run l _ ?_
  split
  ·rename_i e
   exact DC.may_step h e
  ·exact h
theorem fit_run {ms : List Int} {l : List DC.Mv} {y : Int} (h : RunIs ms l y) : WFit (orZero y (DC.runF (DC.start ms) l)) := by
 unfold orZero
 split
 ·rename_i e
  subst e
  have hmay : QM.may ms = true := by
   rcases h with ⟨_, h⟩ | ⟨_, _, h⟩ | ⟨h, _⟩
   ·exact absurd rfl h
   ·exact absurd h (by decide)
   ·rcases QM.chkIs_cases h with ⟨_, h⟩ | ⟨_, h⟩; (· exact h); (· omega)
  exact fit_may (may_run l _ (DC.may_begin hmay)) (DC.pm_run l _ (DC.pm_start ms) (DC.may_begin hmay))
 ·exact fit_zeroW
def LVar (W : World) (g : Nat) (w : DC.Wd) (A0 A1 A2 A3 A4 : Option Addr) (c0 c1 c2 c3 c4 : Nat) : Prop := Box W g 28 #[.slice A0 w.ms.length c0, .slice A1 w.vs.length c1, .slice A2 w.ts.length c2, .slice A3 w.ml.length c3, .slice A4 w.ch.length c4] ∧ WIk W (.agg #[.slice A0 w.ms.length c0, .slice A1 w.vs.length c1, .slice A2 w.ts.length c2, .slice A3 w.ml.length c3, .slice A4 w.ch.length c4]) w
theorem LVar.below {W W' : World} {g : Nat} {w : DC.Wd} {A0 A1 A2 A3 A4 : Option Addr} {c0 c1 c2 c3 c4 : Nat} (h : LVar W g w A0 A1 A2 A3 A4 c0 c1 c2 c3 c4) (hb : Below W.heap.size W W') : LVar W' g w A0 A1 A2 A3 A4 c0 c1 c2 c3 c4 :=
 ⟨h.1.below hb h.1.lt, h.2.below hb⟩
theorem LVar.new {W : World} {w : DC.Wd} {A0 A1 A2 A3 A4 : Option Addr} {c0 c1 c2 c3 c4 : Nat} (h : WIk W (.agg #[.slice A0 w.ms.length c0, .slice A1 w.vs.length c1, .slice A2 w.ts.length c2, .slice A3 w.ml.length c3, .slice A4 w.ch.length c4]) w) : LVar (W.alloc (.cells #[.slice A0 w.ms.length c0, .slice A1 w.vs.length c1, .slice A2 w.ts.length c2, .slice A3 w.ml.length c3, .slice A4 w.ch.length c4] 28)) W.heap.size w A0 A1 A2 A3 A4 c0 c1 c2 c3 c4 :=
 ⟨Box.new _ _ _, h.below ((Below.refl _ _).alloc n! _)⟩
end Go.Proofs.YtiiobafcgdelmaaGreat.PD
namespace Go.Proofs.YtiiobafcgdelmaaGreat.PD
open Go.RowKit Go.Joins Go.ChangeShapes Go.WideShapes Go.Deep
def MvsArg (w : World) (A : Option Addr) (n c : Nat) (l : List DC.Mv) : Prop := RdG w 4 A n (flat vmove l) ∧ l.length = n ∧ n ≤ maxLen ∧ ∀ m ∈ l, MvFit m
instance : Inhabited DC.Mv := ⟨⟨0, 0, 0, .empty⟩⟩
section
variable {H : Type} {enc : TypeId × Value → H} {w : World} {spare : Nat → Bool} {held : Bool} {base : Nat}
end
end Go.Proofs.YtiiobafcgdelmaaGreat.PD
namespace Go.Proofs.YtiiobafcgdelmaaGreat.PD
open Go.RowKit Go.Shelf
def longF (l : List DC.Mv) : Bool := l.any (fun m => decide (2000 < m.v.size))
set_option maxRecDepth 100000 in
set_option maxHeartbeats 2000000 in
theorem llong_any (B : Option Addr) (m d : Nat) (l : List DC.Mv) (w : World) (hl : RdG w 4 B m (flat vmove l)) (hlen : l.length = m) (hm : m ≤ 9223372036854775807) (hF : ∀ x ∈ l, x.v.size ≤ maxLen) :
  Calls Tryz.prog 15 #[.slice B m d] w fun e w' => e = .returned (.bool (longF l)) ∧ w = w' := by
 obtain ⟨r, hrr⟩ : ∃ r, r = longF l := ⟨_, rfl⟩
 rw [← hrr]
 have HS := h! (show longF (l.drop 0) = r from hrr.symm)
 have HF := h! hF
 have HW := h! hl
 subst hlen
 clear hrr hF hl
 go_enter Tryz.func15, Tryz.ntmps15
 go_wp2_with fail
 go_loopw [3] (fun i wr => ∃ k : Nat, k ≤ l.length ∧ i = .int .i64 k ∧ w = wr ∧ Hid (longF (l.drop k) = r)) (fun i _ => l.length - (intOf i).toNat)
 case atStart => exact ⟨0, by omega, rfl, rfl, HS⟩
 case round =>
  clear HS
  obtain ⟨k, hk, rfl, rfl, HR⟩ := hrel
  by_cases hlt : k < l.length
  ·obtain ⟨bl, o, rfl, hbl, c0, c1, c2, c3⟩ := RdG.move HW.out hlt (List.getElem?_eq_getElem hlt)
   have hre := HR.out
   unfold longF at hre
   rw [List.drop_eq_getElem_cons hlt, List.any_cons] at hre
   have hfm := HF.out _ (List.getElem_mem hlt)
   generalize l[k] = x at c0 c1 c2 c3 hre hfm
   have hv63 : x.v.size ≤ 9223372036854775807 := by unfold maxLen at hfm; omega
   have i0 : (0 : Int) ≤ (k : Int) := by omega
   have i1 : (k : Int) < (l.length : Int) := by omega
   have e1 : (k : Int) ≤ 9223372036854775806 := by omega
   by_cases hx : 2000 < x.v.size
   ·rw [decide_eq_true hx, Bool.true_or] at hre
    have HRE := h! hre
    clear hre HR hfm
    go_wp2_with fail
    go_ret
    exact ⟨by rw [← HRE.out]; first | rfl | (simp; omega), rfl⟩
   ·rw [decide_eq_false hx, Bool.false_or] at hre
    have HRE := h! hre
    have hx' : x.v.size ≤ 2000 := by omega
    clear hre HR hfm hx
    go_wp2_with fail
    go_roundw
    case rel => exact ⟨k + 1, by omega, by go_num, trivial, HRE⟩
    case measure => simp [intOf]; omega
  ·obtain rfl : k = l.length := by omega
   have hd : false = r := by have := HR.out; rw [List.drop_length] at this; exact this
   have HD := h! hd
   clear hd HR
   go_wp2_with fail
   go_ret
   exact ⟨by rw [← HD.out]; rfl, rfl⟩
end Go.Proofs.YtiiobafcgdelmaaGreat.PD
