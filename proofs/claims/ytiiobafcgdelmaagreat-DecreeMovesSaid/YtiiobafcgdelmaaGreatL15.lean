/- Contracts of functions of towncrier, layers 5 to 9, and of the document's own ones, part 15; each as its theorem says. -/
import Derived.Test.YtiiobafcgdelmaaGreatL01
import Derived.Test.YtiiobafcgdelmaaGreatL14
import Derived.Test.YtiiobafcgdelmaaGreatL13
import Derived.Test.YtiiobafcgdelmaaGreatL04
import Derived.Test.YtiiobafcgdelmaaGreatL03
set_option linter.unusedVariables false
set_option linter.unusedSimpArgs false
namespace Go.Proofs.YtiiobafcgdelmaaGreat.PD
open Go.RowKit Go.Shelf
def accF (w : DC.Wd) (n k x : Int) : DC.Wd :=
 if AM.errA (DC.getT w n) k x = 0 then ⟨w.ms, w.vs, w.ts.set n.toNat (AM.acc (DC.getT w n) k x), w.ml, w.ch ++ DC.found n (DC.getT w n).ph (AM.acc (DC.getT w n) k x)⟩ else w
def AcPost (base g : Nat) (w : DC.Wd) (n k x : Int) (W : World) (e : Ending) (W' : World) : Prop :=
 e = .returned (.tuple #[]) ∧ WdAt W' base g (accF w n k x) ∧ Kept isTk W W' ∧ Below base W W'
set_option maxRecDepth 100000 in
set_option maxHeartbeats 8000000 in
theorem accepted_any (base g i : Nat) (w : DC.Wd) (k x : Int) (W : World) (H : WdAt W base g w) (h0 : DC.May0 w) (hi : i < 6) (hbase : base ≤ W.heap.size) (hch : w.ch.length ≤ 1900) :
  Calls Tryz.prog 83 #[.pointer (some ⟨g, 0, none⟩), .int .i64 (i : Int), .int .i64 k, .int .i64 x] W (AcPost base g w (i : Int) k x W) := by
 have hn : DC.isNode (i : Int) := by unfold DC.isNode; omega
 have LT6 := h! h0.tl
 have hTt : w.ts[i]? = some (DC.getT w (i : Int)) := by have := DC.getT_at h0.tl hn; rwa [Int.toNat_natCast] at this
 have F := fit_mayT (h0.try_ hn)
 obtain ⟨tt, htt⟩ : ∃ tt, tt = DC.getT w (i : Int) := ⟨_, rfl⟩
 rw [← htt] at hTt F
 obtain ⟨a, ha⟩ : ∃ a, a = AM.acc tt k x := ⟨_, rfl⟩
 obtain ⟨er, her⟩ : ∃ er, er = AM.errA tt k x := ⟨_, rfl⟩
 have hA : er ≠ 0 → accF w (i : Int) k x = w := fun e => by unfold accF; rw [← htt, ← her, if_neg e]
 have hB : er = 0 → accF w (i : Int) k x = ⟨w.ms, w.vs, w.ts.set i a, w.ml, w.ch ++ DC.found (i : Int) tt.ph a⟩ := fun e => by unfold accF; rw [← htt, ← her, if_pos e, ← ha, Int.toNat_natCast]
 obtain ⟨q, c, x2, y2, z2, hown, hcell⟩ := H.try_ hTt
 have HPA := h! (accd_any _ tt k x W hown.is F)
 rw [← her, ← ha] at HPA
 obtain ⟨t0, t1, t2, t3, t4, t5, t6, t7⟩ := hcell W (Below.refl _ _)
 have HWD := h! H
 have HA := h! hA
 have HB := h! hB
 have HBS := h! hbase
 have HCH := h! hch
 have HI := h! hi
 have hi0 : (0 : Int) ≤ (i : Int) := by omega
 have hi1 : (i : Int) < (w.ts.length : Int) := by have := LT6.out; omega
 have mixed : Tryz.prog.follows Departure.mixedOrders = true := by kernel_rfl
 have e0 : 0 ≤ tt.ph := F.p1
 have e255 : tt.ph ≤ 255 := F.p2
 clear hA hB hcell hown F hTt h0 hn hbase hch htt ha her H hi
 go_enter Tryz.func83, Tryz.ntmps83
 go_wp2_with fail
 refine HPA.out.mono ?_
 rintro e w4 ⟨v, rfl, own, hr⟩
 obtain ⟨A5, c5, D5, q5, C5, f5, rfl⟩ := own.form
 clear HPA t0 t1 t2 t3 t4 t5 t6 t7
 have hal := hr.alloc hr.size (.cells #[.int .u8 a.ph, .int .i64 a.ba, .slice A5 a.ms.length c5, .string a.wi, .string a.va, .slice D5 a.ps.length q5, .slice C5 a.ac.length f5] 57)
 have S1 : Hid (TkS W base g w w4.heap.size a A5 c5 D5 q5 C5 f5 (w4.alloc (.cells #[.int .u8 a.ph, .int .i64 a.ba, .slice A5 a.ms.length c5, .string a.wi, .string a.va, .slice D5 a.ps.length q5, .slice C5 a.ac.length f5] 57))) :=
  h! ⟨HWD.out.below hal, ⟨Box.new _ _ _, (own.alloc _).mono HBS.out⟩, Kept.of_below hal, hal.mono HBS.out⟩
 clear hal own hr HWD
 by_cases he : er = 0
 rotate_left
 ·have e1 : (er != 0) = true := by simpa using he
  have HF : Hid (AcPost base g w (i : Int) k x W (.returned (.tuple #[])) (w4.alloc (.cells #[.int .u8 a.ph, .int .i64 a.ba, .slice A5 a.ms.length c5, .string a.wi, .string a.va, .slice D5 a.ps.length q5, .slice C5 a.ac.length f5] 57))) := h! ⟨rfl, by rw [HA.out he]; exact S1.out.1, S1.out.2.2.1, S1.out.2.2.2⟩
  clear he S1
  go_wp2_with fail
  go_end0
  exact HF.out
 have HE := h! (HB.out he)
 subst he
 clear HA HB
 go_upto_region 3 with (fail)
 generalize w4.alloc (.cells #[.int .u8 a.ph, .int .i64 a.ba, .slice A5 a.ms.length c5, .string a.wi, .string a.va, .slice D5 a.ps.length q5, .slice C5 a.ac.length f5] 57) = u at S1 ⊢
 generalize w4.heap.size = gM at S1 ⊢
 obtain ⟨q2, c2, hq2, hq2l, d2, hthere, hst, hfar⟩ := (show WdAt u.drew base g w from S1.out.1).storeT LT6.out HI.out
 obtain ⟨hs1, hs2, hs3, hs4⟩ := hst a _ _ _ _ _ _ _ S1.out.2.1.2
 have hxM := hfar gM _ (show Box u.drew gM _ _ from S1.out.2.1.1) rfl (.int .u8 a.ph) (.int .i64 a.ba) (.slice A5 a.ms.length c5) (.string a.wi) (.string a.va) (.slice D5 a.ps.length q5) (.slice C5 a.ac.length f5)
 have NX : Hid (TkS W base g ⟨w.ms, w.vs, w.ts.set i a, w.ml, w.ch⟩ gM a A5 c5 D5 q5 C5 f5 (putAt7 u.drew q2 (i * 7) (.int .u8 a.ph) (.int .i64 a.ba) (.slice A5 a.ms.length c5) (.string a.wi) (.string a.va) (.slice D5 a.ps.length q5) (.slice C5 a.ac.length f5))) :=
  h! ⟨hs1, ⟨hxM, (hs2.at_ (show AtOwn u.drew base _ _ from S1.out.2.1.2) (by unfold isA; decide) (by unfold isA; decide))⟩, (S1.out.2.2.1.more ((Below.refl _ _).drew)).trans (hs2.mono fun _ h => tk_of_a h), below_more (bmore S1.out.2.2.2 ((Below.refl _ _).drew) HBS.out) hs3⟩
 obtain ⟨⟨s0, s1, s2, s3, s4, s5, s6⟩, _⟩ := (show Box u.drew gM _ _ from S1.out.2.1.1).seven
 obtain ⟨⟨r0, r1, r2, r3, r4, r5, r6⟩, _⟩ := hxM.seven
 clear hst hfar hs1 hs2 hs3 hxM S1 hq2 hq2l
 go_cut [41] (fun _ wx => TkS W base g ⟨w.ms, w.vs, w.ts.set i a, w.ml, w.ch⟩ gM a A5 c5 D5 q5 C5 f5 wx)
 case first =>
  have hS0 : u.drew.cell? ⟨g, 2, none⟩ = some (.slice (some ⟨q2, 0, none⟩) w.ts.length c2) ∧ u.drew.cell? ⟨gM, 0, none⟩ = some (.int .u8 a.ph) ∧ u.drew.cell? ⟨gM, 1, none⟩ = some (.int .i64 a.ba) ∧ u.drew.cell? ⟨gM, 2, none⟩ = some (.slice A5 a.ms.length c5) ∧ u.drew.cell? ⟨gM, 3, none⟩ = some (.string a.wi) ∧ u.drew.cell? ⟨gM, 4, none⟩ = some (.string a.va) ∧ u.drew.cell? ⟨gM, 5, none⟩ = some (.slice D5 a.ps.length q5) ∧ u.drew.cell? ⟨gM, 6, none⟩ = some (.slice C5 a.ac.length f5) := ⟨d2, s0, s1, s2, s3, s4, s5, s6⟩
  have hS1 := And.intro hs4 (And.intro r0 (And.intro r1 (And.intro r2 (And.intro r3 (And.intro r4 (And.intro r5 r6))))))
  clear r0 r1 r2 r3 r4 r5 r6 s0 s1 s2 s3 s4 s5 s6 d2 hs4
  refine wp_region_held_drew (S := fun w' => w'.cell? ⟨g, 2, none⟩ = some (.slice (some ⟨q2, 0, none⟩) w.ts.length c2) ∧ w'.cell? ⟨gM, 0, none⟩ = some (.int .u8 a.ph) ∧ w'.cell? ⟨gM, 1, none⟩ = some (.int .i64 a.ba) ∧ w'.cell? ⟨gM, 2, none⟩ = some (.slice A5 a.ms.length c5) ∧ w'.cell? ⟨gM, 3, none⟩ = some (.string a.wi) ∧ w'.cell? ⟨gM, 4, none⟩ = some (.string a.va) ∧ w'.cell? ⟨gM, 5, none⟩ = some (.slice D5 a.ps.length q5) ∧ w'.cell? ⟨gM, 6, none⟩ = some (.slice C5 a.ac.length f5)) (by kernel_rfl) hS0 (fun hHeld => ?_)
  refine qT 0 ?_
  try simp only [Act.put, qq]
  refine qT 1 ?_
  try simp only [Act.put, qq]
  refine qT 2 ?_
  try simp only [Act.put, qq]
  refine qT 3 ?_
  try simp only [Act.put, qq]
  refine qT 4 ?_
  try simp only [Act.put, qq]
  refine qT 5 ?_
  try simp only [Act.put, qq]
  refine qT 6 ?_
  try simp only [Act.put, qq]
  refine qR 7 fun K hK => ?_
  refine step_store_mid rfl 57 _ _ rfl q2 (i * 7) #[.int .u8 a.ph, .int .i64 a.ba, .slice A5 a.ms.length c5, .string a.wi, .string a.va, .slice D5 a.ps.length q5, .slice C5 a.ac.length f5] (by simp [Act.eval, Act.put]) (by simp [Act.eval, Act.put]) hthere (by kernel_rfl) (by simp [Value.oneCell']) ?_
  refine hK.out _ _ (hS1) (fun hHeld => ?_)
  clear hK
  try simp only [Act.put, qq]
  refine wpAnyH_done (by kernel_rfl) ?_ _
  go_wp2_with fail
  go_meet
  case rel => exact NX.out
 case rest =>
  clear NX hthere r0 r1 r2 r3 r4 r5 r6 s0 s1 s2 s3 s4 s5 s6 d2 hs4
  have S2 := h! hcut
  clear hcut
  obtain ⟨⟨s0, s1, s2, s3, s4, s5, s6⟩, _⟩ := S2.out.2.1.1.seven
  have hpost : DC.found (i : Int) tt.ph a = [] → Hid (AcPost base g w (i : Int) k x W (.returned (.tuple #[])) wc) := fun hf => h! ⟨rfl, by rw [HE.out, hf, List.append_nil]; exact S2.out.1, S2.out.2.2.1, S2.out.2.2.2⟩
  by_cases hw : tt.ph = 3
  ·have HF := hpost (by unfold DC.found; rw [if_neg (by omega)])
   have e1 : (tt.ph != 3) = false := by simpa using hw
   clear hpost hw s1 s2 s3 s4 s5 s6
   go_wp2_with fail
   go_end0
   exact HF.out
  have e1 : (tt.ph != 3) = true := by simpa using hw
  by_cases h3 : a.ph = 3
  rotate_left
  ·have HF := hpost (by unfold DC.found; rw [if_neg (fun h => h3 h.2)])
   have e2 : (a.ph == 3) = false := by simpa using h3
   clear hpost h3 hw s1 s2 s3 s4 s5 s6
   go_wp2_with fail
   go_end0
   exact HF.out
  have e2 : (a.ph == 3) = true := by simpa using h3
  have HC := h! (show DC.found (i : Int) tt.ph a = [⟨(i : Int), a.va⟩] by unfold DC.found; rw [if_pos ⟨hw, h3⟩])
  clear hpost hw h3 s1 s2 s3 s5 s6
  obtain ⟨i0, hi0', hz0, hz1, hz2⟩ := info_parts info_choice
  obtain ⟨A0, c0, A1, c1, A2, c2', A3, c3, A4, c4, xs, hgb, hx, o0, o1, o2, ht, o3, o4⟩ := S2.out.1
  obtain ⟨ML, hML⟩ : ∃ ML, ML = w.ch.length := ⟨_, rfl⟩
  simp only at hx o0 o1 o2 ht o3 o4
  rw [← hML] at hx o4
  have hMl : ML ≤ 1900 := by rw [hML]; exact HCH.out
  have HX := h! hx
  have H0 := h! o0
  have H1 := h! o1
  have H2 := h! o2
  have H3 := h! o3
  have H4 := h! o4
  have HTS := h! ht
  have HML := h! hML
  have HGB := h! hgb
  have HBW := h! (show base ≤ wc.heap.size from Nat.le_trans HBS.out S2.out.2.2.2.size)
  obtain ⟨⟨g0, g1, g2, g3, g4⟩, _⟩ := hx.five
  clear hx o0 o1 o2 o3 o4 ht hML hgb
  have hal : Below wc.heap.size wc (wc.alloc (.cells #[.int .i64 (i : Int), .string a.va] 53)) := b!
  have O4a := h! (own_below3 H4.out hal)
  have HR2 := h! (rdG_box (s := 2) (n := 1) (Box.new wc 53 #[.int .i64 (i : Int), .string a.va]) rfl rfl)
  have hbz : base ≤ (wc.alloc (.cells #[.int .i64 (i : Int), .string a.va] 53)).heap.size := by have := HBW.out; have := hal.size; omega
  have XA := h! (HX.out.below hal HX.out.lt)
  obtain ⟨⟨y0, y1, y2, y3, y4⟩, _⟩ := XA.out.five
  have xm := (S2.out.2.1.1.below hal S2.out.2.1.1.lt).cell 4
  simp only [List.getElem?_toArray, List.getElem?_cons_succ, List.getElem?_cons_zero] at xm
  clear hal
  go_upto_region 5 with (fail)
  go_region_law_o (refine step_append_h rfl (.tmp 52) (.tmp 57) 26 rfl base 53 i0 _ 2 24 Tryz.underlying26 hi0' hz0 hz1 hz2 rfl (by omega) (.slice A4 ML c4) ML _ (by simp [Act.eval, Act.put]) O4a.out (some ⟨wc.heap.size, 0, none⟩) 1 1 _ (by simp [Act.eval, Act.put]) HR2.out (by intro x hx; simp at hx; rcases hx with rfl | rfl <;> rfl) (by unfold maxLen; omega) (by omega) hbz ?_; intro v9 w9 o9 g9 hob9; obtain ⟨A9, c9, rfl, _, _⟩ := own_form o9; obtain ⟨_, z0, z1, z2, z3, z4⟩ := (XA.out.drew.grown g9 (fun e => by obtain ⟨_, cur, hc⟩ := own_block O4a.out e.symm; have := XA.out; rw [Box] at this hc; rw [hc] at this; injection this with this; injection this with _ this; exact absurd this (by decide))).five)
  all_goals
   have hq := WdAt.addC (w := ⟨w.ms, w.vs, w.ts.set i a, w.ml, w.ch⟩) (c := ⟨(i : Int), a.va⟩) HML.out.symm HBW.out HGB.out HX.out H0.out H1.out H2.out HTS.out H3.out H4.out g9 o9
   have HF : Hid (AcPost base g w (i : Int) k x W (.returned (.tuple #[])) (w9.setCell ⟨g, 4, none⟩ (.slice A9 (ML + 1) c9))) := h! ⟨rfl, by rw [HE.out, HC.out]; exact hq.1, S2.out.2.2.1.trans (hq.2.1.mono fun _ h => tk_of_wc h), below_more S2.out.2.2.2 hq.2.2⟩
   clear hq o9 g9 hob9
   clear g0 g1 g2 g3 g4 y0 y1 y2 y3 y4 s0 s4 xm
   go_wp2_with fail
   go_end0
   exact HF.out
end Go.Proofs.YtiiobafcgdelmaaGreat.PD
namespace Go.Proofs.YtiiobafcgdelmaaGreat.VP
open Go.RowKit
def BoolIs (B : Prop) (w : World) (e : Ending) (w' : World) : Prop := ∃ x : Bool, (x = true ↔ B) ∧ e = .returned (.bool x) ∧ Below w.heap.size w w'
theorem bool_ret {x y : Bool} {B : Prop} {w w' : World} (h : x = true ↔ B) (hb : Below w.heap.size w w') (e : y = x) : BoolIs B w (.returned (.bool y)) w' := ⟨x, h, by rw [e], hb⟩
theorem str_none (s : ByteArray) : s.toList.isEmpty = true ↔ s = .empty := by
 rw [List.isEmpty_iff, ByteArray.toList_eq]
 constructor
 ·intro h
  obtain ⟨⟨l⟩⟩ := s
  simp at h
  rw [h]; rfl
 ·rintro rfl; rfl
set_option maxRecDepth 100000 in
set_option maxHeartbeats 1000000 in
theorem isPromise_any (p b : Int) (s : ByteArray) (w : World) (h1 : -9223372036854775808 ≤ p) (h2 : p ≤ 9223372036854775807) :
  Calls Tryz.prog 89 #[.agg #[.int .i64 p, .int .i64 b, .string s]] w (BoolIs (VM.okP p) w) := by
 have hb0 : Below w.heap.size w (w.alloc (.cells #[.int .i64 p, .int .i64 b, .string s] 59)) := b!
 have HB0 := h! hb0; clear hb0
 by_cases hz : p = 0
 ·subst hz
  go_enter Tryz.func89, Tryz.ntmps89
  go_wp2_with fail
  go_ret
  exact ⟨true, by simp [VM.okP], rfl, HB0.out⟩
 ·by_cases hg : BM.good p
  ·have HO := h! (show BM.OfIs p (p / 8) (p % 8) 0 from .inl ⟨hg, rfl, rfl, rfl⟩)
   have HG := h! (show VM.okP p from .inr hg); clear hg
   go_enter Tryz.func89, Tryz.ntmps89
   go_wp2_with fail
   refine (check_any HO.out h1 h2 _).mono ?_
   rintro e w1 ⟨rfl, rfl⟩
   go_wp2_with fail
   go_ret
   exact ⟨true, ⟨fun _ => HG.out, fun _ => rfl⟩, rfl, HB0.out⟩
  ·have HO := h! (show BM.OfIs p 0 0 50 from .inr ⟨hg, rfl, rfl, rfl⟩)
   have HG := h! (show ¬ VM.okP p from fun h => h.elim hz hg); clear hg
   have hz' : (p == 0) = false := by simpa using hz
   go_enter Tryz.func89, Tryz.ntmps89
   go_wp2_with fail
   refine (check_any HO.out h1 h2 _).mono ?_
   rintro e w1 ⟨rfl, rfl⟩
   go_wp2_with fail
   go_ret
   exact ⟨false, ⟨fun h => (by cases h), fun h => absurd h HG.out⟩, rfl, HB0.out⟩
set_option maxRecDepth 100000 in
set_option maxHeartbeats 1000000 in
theorem isAcc_any (p b : Int) (s : ByteArray) (w : World) (h1 : -9223372036854775808 ≤ b) (h2 : b ≤ 9223372036854775807) (hs : s.size ≤ maxLen) :
  Calls Tryz.prog 90 #[.agg #[.int .i64 p, .int .i64 b, .string s]] w (BoolIs (VM.okA p b s) w) := by
 unfold maxLen at hs
 have hb0 : Below w.heap.size w (w.alloc (.cells #[.int .i64 p, .int .i64 b, .string s] 59)) := b!
 have HB0 := h! hb0; clear hb0
 by_cases hz : b = 0
 ·subst hz
  go_enter Tryz.func90, Tryz.ntmps90
  go_wp2_with fail
  go_ret
  refine bool_ret (x := s.toList.isEmpty) ?_ HB0.out rfl
  rw [str_none]
  exact ⟨fun h => .inl ⟨rfl, h⟩, fun h => h.elim (fun h => h.2) (fun h => absurd rfl h.1)⟩
 ·by_cases hg : BM.good b
  ·have HO := h! (show BM.OfIs b (b / 8) (b % 8) 0 from .inl ⟨hg, rfl, rfl, rfl⟩)
   by_cases hp : b ≤ p
   ·go_enter Tryz.func90, Tryz.ntmps90
    go_wp2_with fail
    refine (check_any HO.out h1 h2 _).mono ?_
    rintro e w1 ⟨rfl, rfl⟩
    go_wp2_with fail
    go_ret
    refine bool_ret (x := decide ((s.size : Int) ≤ 1024)) ?_ HB0.out rfl
    rw [decide_eq_true_iff]
    exact ⟨fun h => .inr ⟨hz, hg, hp, by omega⟩, fun h => h.elim (fun h => absurd h.1 hz) (fun h => by have := h.2.2.2; omega)⟩
   ·go_enter Tryz.func90, Tryz.ntmps90
    go_wp2_with fail
    refine (check_any HO.out h1 h2 _).mono ?_
    rintro e w1 ⟨rfl, rfl⟩
    go_wp2_with fail
    go_ret
    refine bool_ret (x := false) ?_ HB0.out rfl
    exact ⟨fun h => (by cases h), fun h => h.elim (fun h => absurd h.1 hz) (fun h => by have := h.2.2.1; omega)⟩
  ·have HO := h! (show BM.OfIs b 0 0 50 from .inr ⟨hg, rfl, rfl, rfl⟩)
   have HG := h! (show ¬ VM.okA p b s from fun h => h.elim (fun h => hz h.1) (fun h => hg h.2.1)); clear hg
   have hz' : (b == 0) = false := by simpa using hz
   go_enter Tryz.func90, Tryz.ntmps90
   go_wp2_with fail
   refine (check_any HO.out h1 h2 _).mono ?_
   rintro e w1 ⟨rfl, rfl⟩
   go_wp2_with fail
   go_ret
   exact ⟨false, ⟨fun h => (by cases h), fun h => absurd h HG.out⟩, rfl, HB0.out⟩
theorem vote_cells {w w1 : World} {T : TypeId} {p b : Int} {s : ByteArray} (hb : Below (w.alloc (.cells #[.int .i64 p, .int .i64 b, .string s] T)).heap.size (w.alloc (.cells #[.int .i64 p, .int .i64 b, .string s] T)) w1) :
  w1.cell? ⟨w.heap.size, 0, none⟩ = some (.int .i64 p) ∧ w1.cell? ⟨w.heap.size, 1, none⟩ = some (.int .i64 b) ∧ w1.cell? ⟨w.heap.size, 2, none⟩ = some (.string s) := by
 refine ⟨?_, ?_, ?_⟩
 ·rw [hb.cell (p := ⟨w.heap.size, 0, none⟩) (by simp)]; simp
 ·rw [hb.cell (p := ⟨w.heap.size, 1, none⟩) (by simp)]; simp
 ·rw [hb.cell (p := ⟨w.heap.size, 2, none⟩) (by simp)]; simp
theorem below_put1 {B g k : Nat} {a w : World} (h : Below B a w) (hg : B ≤ g) (x : Value) : Below B a (w.setCell ⟨g, k, none⟩ x) := h.setCell hg x
def IntIs (x : Int) (w : World) (e : Ending) (w' : World) : Prop := e = .returned (.int .i64 x) ∧ Below w.heap.size w w'
def ChkIs (p b : Int) (s : ByteArray) (e : Int) : Prop := (VM.may p b s ∧ e = 0) ∨ (¬ VM.may p b s ∧ e = 8)
theorem chkIs_ex (p b : Int) (s : ByteArray) : ∃ e, ChkIs p b s e := by
 by_cases h : VM.may p b s
 ·exact ⟨_, .inl ⟨h, rfl⟩⟩
 ·exact ⟨_, .inr ⟨h, rfl⟩⟩
set_option maxRecDepth 100000 in
set_option maxHeartbeats 1000000 in
theorem vcheck_any {p b : Int} {s : ByteArray} {e : Int} (w : World) (hp1 : -9223372036854775808 ≤ p) (hp2 : p ≤ 9223372036854775807) (h1 : -9223372036854775808 ≤ b) (h2 : b ≤ 9223372036854775807) (hs : s.size ≤ maxLen) (h : ChkIs p b s e) :
  Calls Tryz.prog 65 #[.agg #[.int .i64 p, .int .i64 b, .string s]] w (IntIs e w) := by
 have hb0 : Below w.heap.size w (w.alloc (.cells #[.int .i64 p, .int .i64 b, .string s] 59)) := b!
 have HB0 := h! hb0; clear hb0
 have HC := h! h; clear h
 go_enter Tryz.func65, Tryz.ntmps65
 go_wp2_with fail
 refine (isPromise_any p b s _ hp1 hp2).mono ?_
 rintro e w1 ⟨x, hx, rfl, hb1⟩
 obtain ⟨c0, c1, c2⟩ := vote_cells hb1
 have HB1 := h! (bmore HB0.out hb1 (by simp)); clear hb1 HB0
 have HX := h! hx; clear hx
 cases x
 ·go_wp2_with fail
  go_ret
  rcases HC.out with ⟨hm, rfl⟩ | ⟨hm, rfl⟩
  ·exact absurd (HX.out.2 hm.1) (by decide)
  ·exact ⟨rfl, HB1.out⟩
 ·go_wp2_with fail
  refine (isAcc_any p b s _ h1 h2 hs).mono ?_
  rintro e w2 ⟨y, hy, rfl, hb2⟩
  have HB2 := h! (bmore HB1.out hb2 n!); clear hb2 HB1 c0 c1 c2
  have HY := h! hy; clear hy
  cases y
  ·go_wp2_with fail
   go_ret
   rcases HC.out with ⟨hm, rfl⟩ | ⟨hm, rfl⟩
   ·exact absurd (HY.out.2 hm.2) (by decide)
   ·exact ⟨rfl, HB2.out⟩
  ·go_wp2_with fail
   go_ret
   rcases HC.out with ⟨hm, rfl⟩ | ⟨hm, rfl⟩
   ·exact ⟨rfl, HB2.out⟩
   ·exact absurd ⟨HX.out.1 (by trivial), HY.out.1 (by trivial)⟩ hm
set_option maxRecDepth 100000 in
set_option maxHeartbeats 1000000 in
theorem wrong_any {p b : Int} {s : ByteArray} {k : Int} {v : ByteArray} {e : Int} (w : World) (hp1 : -9223372036854775808 ≤ p) (hp2 : p ≤ 9223372036854775807) (h1 : -9223372036854775808 ≤ b) (h2 : b ≤ 9223372036854775807) (hs : s.size ≤ maxLen)
  (hk1 : -9223372036854775808 ≤ k) (hk2 : k ≤ 9223372036854775807) (hv : v.size ≤ maxLen) (h : VM.WrongIs p b s k v e) :
  Calls Tryz.prog 98 #[.agg #[.int .i64 p, .int .i64 b, .string s], .int .i64 k, .string v] w (IntIs e w) := by
 have hb0 : Below w.heap.size w (w.alloc (.cells #[.int .i64 p, .int .i64 b, .string s] 59)) := b!
 have HB0 := h! hb0; clear hb0
 have HC := h! h; clear h
 obtain ⟨y, hy⟩ := chkIs_ex p b s
 have HY := h! hy; clear hy
 have hv' : v.size ≤ 9223372036854775807 := by unfold maxLen at hv; omega
 go_enter Tryz.func98, Tryz.ntmps98
 go_wp2_with fail
 refine (vcheck_any _ hp1 hp2 h1 h2 hs HY.out).mono ?_
 rintro e w1 ⟨rfl, hb1⟩
 obtain ⟨c0, c1, c2⟩ := vote_cells hb1
 have HB1 := h! (bmore HB0.out hb1 (by simp)); clear hb1 HB0 hs hv
 rcases HY.out with ⟨hm, rfl⟩ | ⟨hm, rfl⟩
 ·have HM := h! hm; clear hm
  by_cases hg : BM.good k
  ·have HO := h! (show BM.OfIs k (k / 8) (k % 8) 0 from .inl ⟨hg, rfl, rfl, rfl⟩)
   have HG := h! hg; clear hg
   rcases (show v.size ≤ 1024 ∨ 1024 < v.size by omega) with hl | hl
   ·rcases (show p ≤ k ∨ k < p by omega) with hp | hp
    ·obtain rfl : e = 0 := by
      rcases HC.out with ⟨h, _⟩ | ⟨_, h, _⟩ | ⟨_, _, h, _⟩ | ⟨_, _, _, h, _⟩ | ⟨_, _, _, _, h⟩
      ·exact absurd HM.out h
      ·exact absurd HG.out h
      ·omega
      ·omega
      ·exact h
     go_wp2_with fail
     refine (check_any HO.out hk1 hk2 _).mono ?_
     rintro e w2 ⟨rfl, rfl⟩
     go_wp2_with fail
     go_ret
     exact ⟨rfl, HB1.out⟩
    ·obtain rfl : e = 70 := by
      rcases HC.out with ⟨h, _⟩ | ⟨_, h, _⟩ | ⟨_, _, h, _⟩ | ⟨_, _, _, _, h⟩ | ⟨_, _, _, h, _⟩
      ·exact absurd HM.out h
      ·exact absurd HG.out h
      ·omega
      ·exact h
      ·omega
     go_wp2_with fail
     refine (check_any HO.out hk1 hk2 _).mono ?_
     rintro e w2 ⟨rfl, rfl⟩
     go_wp2_with fail
     go_ret
     exact ⟨rfl, HB1.out⟩
   ·obtain rfl : e = 3 := by
     rcases HC.out with ⟨h, _⟩ | ⟨_, h, _⟩ | ⟨_, _, _, h⟩ | ⟨_, _, h, _, _⟩ | ⟨_, _, h, _, _⟩
     ·exact absurd HM.out h
     ·exact absurd HG.out h
     ·exact h
     ·omega
     ·omega
    go_wp2_with fail
    refine (check_any HO.out hk1 hk2 _).mono ?_
    rintro e w2 ⟨rfl, rfl⟩
    go_wp2_with fail
    go_ret
    exact ⟨rfl, HB1.out⟩
  ·have HO := h! (show BM.OfIs k 0 0 50 from .inr ⟨hg, rfl, rfl, rfl⟩)
   obtain rfl : e = 50 := by
    rcases HC.out with ⟨h, _⟩ | ⟨_, _, h⟩ | ⟨_, h, _⟩ | ⟨_, h, _⟩ | ⟨_, h, _⟩
    ·exact absurd HM.out h
    ·exact h
    ·exact absurd h hg
    ·exact absurd h hg
    ·exact absurd h hg
   clear hg
   go_wp2_with fail
   refine (check_any HO.out hk1 hk2 _).mono ?_
   rintro e w2 ⟨rfl, rfl⟩
   go_wp2_with fail
   go_ret
   exact ⟨rfl, HB1.out⟩
 ·obtain rfl : e = 8 := by
   rcases HC.out with ⟨_, h⟩ | ⟨h, _⟩ | ⟨h, _⟩ | ⟨h, _⟩ | ⟨h, _⟩
   ·exact h
   ·exact absurd h hm
   ·exact absurd h hm
   ·exact absurd h hm
   ·exact absurd h hm
  clear hm
  go_wp2_with fail
  go_ret
  exact ⟨rfl, HB1.out⟩
def VoteAns (x y : Int) (t : ByteArray) (e : Int) (w : World) (E : Ending) (w' : World) : Prop := E = .returned (.tuple #[.agg #[.int .i64 x, .int .i64 y, .string t], .int .i64 e]) ∧ Below w.heap.size w w'
theorem vote_cells2 {w w1 : World} {T : TypeId} {p b x y : Int} {s t : ByteArray} (hb : Below ((w.alloc (.cells #[.int .i64 p, .int .i64 b, .string s] T)).alloc (.cells #[.int .i64 x, .int .i64 y, .string t] T)).heap.size ((w.alloc (.cells #[.int .i64 p, .int .i64 b, .string s] T)).alloc (.cells #[.int .i64 x, .int .i64 y, .string t] T)) w1) :
  w1.cell? ⟨w.heap.size, 0, none⟩ = some (.int .i64 p) ∧
  w1.cell? ⟨w.heap.size, 1, none⟩ = some (.int .i64 b) ∧
  w1.cell? ⟨w.heap.size, 2, none⟩ = some (.string s) ∧
  w1.frozen? ⟨w.heap.size, 0, none⟩ = false ∧
  w1.frozen? ⟨w.heap.size, 1, none⟩ = false ∧
  w1.frozen? ⟨w.heap.size, 2, none⟩ = false ∧
  w1.cell? ⟨w.heap.size + 1, 0, none⟩ = some (.int .i64 x) ∧
  w1.cell? ⟨w.heap.size + 1, 1, none⟩ = some (.int .i64 y) ∧
  w1.cell? ⟨w.heap.size + 1, 2, none⟩ = some (.string t) ∧
  w1.frozen? ⟨w.heap.size + 1, 0, none⟩ = false ∧
  w1.frozen? ⟨w.heap.size + 1, 1, none⟩ = false ∧
  w1.frozen? ⟨w.heap.size + 1, 2, none⟩ = false := by
 refine ⟨?_, ?_, ?_, ?_, ?_, ?_, ?_, ?_, ?_, ?_, ?_, ?_⟩
 ·rw [hb.cell (p := ⟨w.heap.size, 0, none⟩) (by simp; omega)]; simp
 ·rw [hb.cell (p := ⟨w.heap.size, 1, none⟩) (by simp; omega)]; simp
 ·rw [hb.cell (p := ⟨w.heap.size, 2, none⟩) (by simp; omega)]; simp
 ·rw [hb.frozen (p := ⟨w.heap.size, 0, none⟩) (by simp; omega)]; simp
 ·rw [hb.frozen (p := ⟨w.heap.size, 1, none⟩) (by simp; omega)]; simp
 ·rw [hb.frozen (p := ⟨w.heap.size, 2, none⟩) (by simp; omega)]; simp
 ·rw [hb.cell (p := ⟨w.heap.size + 1, 0, none⟩) (by simp)]; simp
 ·rw [hb.cell (p := ⟨w.heap.size + 1, 1, none⟩) (by simp)]; simp
 ·rw [hb.cell (p := ⟨w.heap.size + 1, 2, none⟩) (by simp)]; simp
 ·rw [hb.frozen (p := ⟨w.heap.size + 1, 0, none⟩) (by simp)]; simp
 ·rw [hb.frozen (p := ⟨w.heap.size + 1, 1, none⟩) (by simp)]; simp
 ·rw [hb.frozen (p := ⟨w.heap.size + 1, 2, none⟩) (by simp)]; simp
set_option maxRecDepth 100000 in
set_option maxHeartbeats 1000000 in
theorem prep_any {p b : Int} {s : ByteArray} {k x y : Int} {t : ByteArray} {e : Int} (w : World) (hp1 : -9223372036854775808 ≤ p) (hp2 : p ≤ 9223372036854775807) (h1 : -9223372036854775808 ≤ b) (h2 : b ≤ 9223372036854775807) (hs : s.size ≤ maxLen)
  (hk1 : -9223372036854775808 ≤ k) (hk2 : k ≤ 9223372036854775807) (h : VM.PrepIs p b s k x y t e) :
  Calls Tryz.prog 76 #[.agg #[.int .i64 p, .int .i64 b, .string s], .int .i64 k] w (VoteAns x y t e w) := by
 have hb0 : Below w.heap.size w ((w.alloc (.cells #[.int .i64 p, .int .i64 b, .string s] 59)).alloc (.cells #[.int .i64 0, .int .i64 0, .string .empty] 59)) := ((Below.refl _ _).alloc n! _).alloc (by simp) _
 have HB0 := h! hb0; clear hb0
 obtain ⟨hw, hc⟩ := h
 have HW := h! hw; clear hw
 go_enter Tryz.func76, Tryz.ntmps76
 go_wp2_with fail
 refine (wrong_any _ hp1 hp2 h1 h2 hs hk1 hk2 (by decide) HW.out).mono ?_
 rintro e w1 ⟨rfl, hb1⟩
 obtain ⟨c0, c1, c2, e0, e1, e2, d0, d1, d2, f0, f1, f2⟩ := vote_cells2 hb1
 have HB1 := h! (bmore HB0.out hb1 (by simp)); clear hb1 HB0 hs HW
 rcases hc with ⟨he, rfl, rfl, rfl⟩ | ⟨rfl, rfl, rfl, rfl⟩
 ·go_wp2_with fail
  exact bodyPost_ret (v := .tuple #[.agg #[.int .i64 0, .int .i64 0, .string .empty], .int .i64 e]) (by simp [results, Tryz.results76, go_sem, d0, d1, d2]; rfl) rfl ⟨rfl, below_put3 HB1.out (by omega) _ _ _⟩
 ·go_wp2_with fail
  exact bodyPost_ret (v := .tuple #[.agg #[.int .i64 x, .int .i64 y, .string t], .int .i64 0]) (by simp [results, Tryz.results76, go_sem, d0, d1, d2]) rfl ⟨rfl, below_put3 (below_put1 HB1.out (by omega) _) (by omega) _ _ _⟩
set_option maxRecDepth 100000 in
set_option maxHeartbeats 1000000 in
theorem acc_any {p b : Int} {s : ByteArray} {k : Int} {v : ByteArray} {x y : Int} {t : ByteArray} {e : Int} (w : World) (hp1 : -9223372036854775808 ≤ p) (hp2 : p ≤ 9223372036854775807) (h1 : -9223372036854775808 ≤ b) (h2 : b ≤ 9223372036854775807) (hs : s.size ≤ maxLen)
  (hk1 : -9223372036854775808 ≤ k) (hk2 : k ≤ 9223372036854775807) (hv : v.size ≤ maxLen) (h : VM.AccIs p b s k v x y t e) :
  Calls Tryz.prog 82 #[.agg #[.int .i64 p, .int .i64 b, .string s], .int .i64 k, .string v] w (VoteAns x y t e w) := by
 have hb0 : Below w.heap.size w ((w.alloc (.cells #[.int .i64 p, .int .i64 b, .string s] 59)).alloc (.cells #[.int .i64 0, .int .i64 0, .string .empty] 59)) := ((Below.refl _ _).alloc n! _).alloc (by simp) _
 have HB0 := h! hb0; clear hb0
 obtain ⟨hw, hc⟩ := h
 have HW := h! hw; clear hw
 go_enter Tryz.func82, Tryz.ntmps82
 go_wp2_with fail
 refine (wrong_any _ hp1 hp2 h1 h2 hs hk1 hk2 hv HW.out).mono ?_
 rintro e w1 ⟨rfl, hb1⟩
 obtain ⟨c0, c1, c2, e0, e1, e2, d0, d1, d2, f0, f1, f2⟩ := vote_cells2 hb1
 have HB1 := h! (bmore HB0.out hb1 (by simp)); clear hb1 HB0 hs hv HW
 rcases hc with ⟨he, rfl, rfl, rfl⟩ | ⟨rfl, rfl, rfl, rfl⟩
 ·go_wp2_with fail
  exact bodyPost_ret (v := .tuple #[.agg #[.int .i64 0, .int .i64 0, .string .empty], .int .i64 e]) (by simp [results, Tryz.results82, go_sem, d0, d1, d2]; rfl) rfl ⟨rfl, below_put3 HB1.out (by omega) _ _ _⟩
 ·go_wp2_with fail
  exact bodyPost_ret (v := .tuple #[.agg #[.int .i64 y, .int .i64 y, .string t], .int .i64 0]) (by simp [results, Tryz.results82, go_sem, d0, d1, d2]) rfl ⟨rfl, below_put3 (below_put3 HB1.out (by omega) _ _ _) (by omega) _ _ _⟩
end Go.Proofs.YtiiobafcgdelmaaGreat.VP
namespace VM
theorem prep_good {p b : Int} {s : ByteArray} {k x y : Int} {t : ByteArray} {e : Int} (h : PrepIs p b s k x y t e) (hm : may p b s) (hk : BM.good k) (hp : p ≤ k) : x = k ∧ y = b ∧ t = s ∧ e = 0 := by
 obtain ⟨hw, h⟩ := h
 have he : e = 0 := by
  rcases hw with ⟨n, _⟩ | ⟨_, n, _⟩ | ⟨_, _, n, _⟩ | ⟨_, _, _, n, _⟩ | ⟨_, _, _, _, h⟩
  ·exact absurd hm n
  ·exact absurd hk n
  ·exact absurd n (by decide)
  ·omega
  ·exact h
 rcases h with h | ⟨_, h1, h2, h3⟩
 ·exact absurd he h.1
 ·exact ⟨h1, h2, h3, he⟩
theorem prep_old {p b : Int} {s : ByteArray} {k x y : Int} {t : ByteArray} {e : Int} (h : PrepIs p b s k x y t e) (hm : may p b s) (hk : BM.good k) (hp : k < p) : e = 70 ∧ zero x y t := by
 obtain ⟨hw, h⟩ := h
 have he : e = 70 := by
  rcases hw with ⟨n, _⟩ | ⟨_, n, _⟩ | ⟨_, _, n, _⟩ | ⟨_, _, _, _, n⟩ | ⟨_, _, _, h, _⟩
  ·exact absurd hm n
  ·exact absurd hk n
  ·exact absurd n (by decide)
  ·exact n
  ·omega
 rcases h with h | h
 ·exact ⟨he, h.2⟩
 ·omega
theorem acc_good {p b : Int} {s : ByteArray} {k : Int} {v : ByteArray} {x y : Int} {t : ByteArray} {e : Int} (h : AccIs p b s k v x y t e) (hm : may p b s) (hk : BM.good k) (hv : v.size ≤ 1024) (hp : p ≤ k) : k = x ∧ x = y ∧ v = t ∧ e = 0 := by
 obtain ⟨hw, h⟩ := h
 have he : e = 0 := by
  rcases hw with ⟨n, _⟩ | ⟨_, n, _⟩ | ⟨_, _, n, _⟩ | ⟨_, _, _, n, _⟩ | ⟨_, _, _, _, h⟩
  ·exact absurd hm n
  ·exact absurd hk n
  ·omega
  ·omega
  ·exact h
 rcases h with h | ⟨_, h1, h2, h3⟩
 ·exact absurd he h.1
 ·exact ⟨h1.symm, by rw [h1, h2], h3.symm, he⟩
theorem acc_old {p b : Int} {s : ByteArray} {k : Int} {v : ByteArray} {x y : Int} {t : ByteArray} {e : Int} (h : AccIs p b s k v x y t e) (_ : may p b s) (_ : BM.good k) (hp : k < p) : e ≠ 0 ∧ zero x y t := by
 obtain ⟨hw, h⟩ := h
 have he : e ≠ 0 := by rintro rfl; have := (wrong_zero.1 hw).2.2.2; omega
 rcases h with h | h
 ·exact ⟨he, h.2⟩
 ·omega
end VM
