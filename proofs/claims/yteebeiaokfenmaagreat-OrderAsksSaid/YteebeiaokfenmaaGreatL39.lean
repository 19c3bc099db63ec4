/- Contracts of functions, L39: each as its theorem says. -/
import Derived.Test.YteebeiaokfenmaaGreatL38
import Derived.Test.YteebeiaokfenmaaGreatL44
set_option linter.unusedVariables false
set_option linter.unusedSimpArgs false
set_option maxRecDepth 100000
set_option maxHeartbeats 16000000
namespace Go.Proofs.YteebeiaokfenmaaGreat
namespace KP
open Go.RowKit CP TP LP SP
open CM (Mg Cm)
open TM (Sp)
open KM (Wt Sk)
def HoL (r : Int) (P : Prop) (w : World) (e : Ending) (w' : World) : Prop := ∃ b : Bool, e = .returned (.tuple #[.bool b, .int .i64 r]) ∧ (b = true ↔ r = 0 ∧ P) ∧ Below w.heap.size w w'
def HoQ (ls : List (List ByteArray)) : World → Ending → World → Prop := HoL (allE ls) (OM.honest (cmL ls))
theorem hoL_no {r : Int} {P : Prop} {w w' : World} (h : ¬ (r = 0 ∧ P)) (hb : Below w.heap.size w w') : HoL r P w (.returned (.tuple #[.bool false, .int .i64 r])) w' := ⟨false, rfl, ⟨fun k => (by cases k), fun k => absurd k h⟩, hb⟩
theorem hoL_is {P : Prop} {b : Bool} {w w' : World} (h : b = true ↔ P) (hb : Below w.heap.size w w') : HoL 0 P w (.returned (.tuple #[.bool b, .int .i64 0])) w' := ⟨b, rfl, ⟨fun k => ⟨rfl, h.1 k⟩, fun k => h.2 k.2⟩, hb⟩
theorem cmL_len (ls : List (List ByteArray)) : (cmL ls).length = ls.length := by unfold cmL; rw [List.length_map]
theorem cmL_few {ls : List (List ByteArray)} (h : allE ls = 0) : ∀ l ∈ cmL ls, l.length ≤ 200 := fun l hl => by
 obtain ⟨x, hx, rfl⟩ := List.mem_map.1 hl
 exact (log_may ((allE_zero h).2.2 x hx)).2
theorem phonest16_any (A : Option Addr) (n c : Nat) (ls : List (List ByteArray)) (w : World) (h : LogsIs w A n c ls) (hs : ∀ l ∈ ls, ∀ t ∈ l, t.size ≤ maxLen) : Calls Tryz.prog 13 #[.slice A n c] w (HoQ ls w) := by
 have HP := h! (playersOf_any A n c ls w h hs)
 have HZ := h! (fun h0 => allE_zero (ls := ls) h0)
 have HFW := h! (fun h0 => cmL_few (ls := ls) h0)
 have HLN := h! (cmL_len ls)
 unfold HoQ
 obtain ⟨L, hL⟩ : ∃ L, L = cmL ls := ⟨_, rfl⟩
 rw [← hL] at HP HZ HFW HLN ⊢
 obtain ⟨r, hr⟩ : ∃ r, r = allE ls := ⟨_, rfl⟩
 rw [← hr] at HP HZ HFW ⊢
 obtain ⟨PH, hPH⟩ : ∃ PH, PH = OM.honest L := ⟨_, rfl⟩
 rw [← hPH]
 have HPH := h! hPH
 clear h hs hL hr hPH
 go_enter Tryz.func13, Tryz.ntmps13
 go_wp2_with fail
 refine (HP.out).mono ?_
 rintro e w2 ⟨hb, ⟨h0, rfl⟩ | ⟨h0, A2, c2, rfl, hps, _, _⟩⟩
 ·have hk : (r == 0) = false := by simpa using h0
  have HF := h! (hoL_no (P := PH) (w := w) (w' := w2) (fun k => absurd k.1 h0) hb)
  clear hb h0 HP HZ HFW
  go_wp2_with fail
  go_ret2
  exact HF.out
 ·subst h0
  have HLg := h! (HZ.out rfl).1
  have h4 : ls.length ≤ 4 := (HZ.out rfl).2.1
  have hpsB : PsIs w2 A2 L := hps
  have HTA := h! (show Calls Tryz.prog 37 #[.slice A2 ls.length c2] w2 (fun e w' => ∃ A', e = .returned (.slice A' ls.length ls.length) ∧ AlIs w' A' L ∧ Below w2.heap.size w2 w') from by
   have := tellAll_any A2 c2 L w2 hpsB HLg.out (HFW.out rfl)
   rwa [HLN.out] at this)
  have HB2 := h! hb
  have HFF := h! (HFW.out rfl)
  have hn63 : ls.length ≤ 9223372036854775807 := by omega
  clear hb hps hpsB HP HZ HFW
  go_wp2_with fail
  refine (HTA.out).mono ?_
  rintro e w3 ⟨A3, rfl, hal, hb3⟩
  have HO := h! (show Calls Tryz.prog 38 #[.slice A3 ls.length ls.length] w3 (fun e w' => ∃ b : Bool, e = .returned (.bool b) ∧ (b = true ↔ OM.oneB L) ∧ Below w3.heap.size w3 w') from by
   have := areOne_any A3 L w3 hal HLg.out
   rwa [HLN.out] at this)
  have HFn := h! (fun W (hb : Below w3.heap.size w3 W) => show Calls Tryz.prog 39 #[.slice A3 ls.length ls.length] W (fun e w' => ∃ b : Bool, e = .returned (.bool b) ∧ (b = true ↔ OM.finB L) ∧ Below W.heap.size W w') from by
   have := areFinal_any A3 L W (hal.below hb) HLg.out HFF.out
   rwa [HLN.out] at this)
  have HB3 := h! (bmore HB2.out hb3 n!)
  have HIF := h! (show PH ↔ OM.oneB L ∧ OM.finB L by rw [HPH.out]; exact OM.honest_iff HLg.out)
  clear hb3 hal HTA
  go_wp2_with fail
  refine (HO.out).mono ?_
  rintro e w4 ⟨b1, rfl, h1, hb4⟩
  have HB4 := h! (bmore HB3.out hb4 n!)
  have H34 := h! hb4
  have H1 := h! h1
  clear HO h1 hb4
  rcases b1 with _ | _
  ·have HF := h! (hoL_no (r := 0) (P := PH) (w := w) (w' := w4) (fun k => absurd (H1.out.2 (HIF.out.1 k.2).1) (by decide)) HB4.out)
   clear HFn
   go_wp2_with fail
   go_ret2
   exact HF.out
  ·go_wp2_with fail
   refine (HFn.out _ H34.out).mono ?_
   rintro e w5 ⟨b2, rfl, h2, hb5⟩
   have HF := h! (hoL_is (P := PH) (b := b2) (w := w) (w' := w5) ⟨fun k => HIF.out.2 ⟨H1.out.1 (by trivial), h2.1 k⟩, fun k => h2.2 (HIF.out.1 k).2⟩ (bmore HB4.out hb5 n!))
   clear HFn h2 hb5
   go_wp2_with fail
   go_ret2
   exact HF.out
def finR (ls : List (List ByteArray)) (m : Mg) : Int × Bool × Int := if allE ls ≠ 0 then (0, false, allE ls) else if CM.mgOk m then ((OM.lastF (cmL ls) m).1, (OM.lastF (cmL ls) m).2, 0) else (0, false, 8)
def F3Q (R : Int × Bool × Int) (w : World) (e : Ending) (w' : World) : Prop := e = .returned (.tuple #[.int .i64 R.1, .bool R.2.1, .int .i64 R.2.2]) ∧ Below w.heap.size w w'
theorem f3q {R : Int × Bool × Int} {a c : Int} {b : Bool} {w w' : World} (h : R = (a, b, c)) (hb : Below w.heap.size w w') : F3Q R w (.returned (.tuple #[.int .i64 a, .bool b, .int .i64 c])) w' := by rw [h]; exact ⟨rfl, hb⟩
theorem pfinal16_any (A : Option Addr) (n c : Nat) (ls : List (List ByteArray)) (vm : Value) (m : Mg) (w : World) (h : LogsIs w A n c ls) (hs : ∀ l ∈ ls, ∀ t ∈ l, t.size ≤ maxLen) (hm : MgIs w vm m) (hf : MgFit m) :
  Calls Tryz.prog 11 #[.slice A n c, vm] w (F3Q (finR ls m) w) := by
 have HP := h! (fun W (hb : Below w.heap.size w W) => playersOf_any A n c ls W (h.below hb) hs)
 have HZ := h! (fun h0 => allE_zero (ls := ls) h0)
 have HFW := h! (fun h0 => cmL_few (ls := ls) h0)
 have HLN := h! (cmL_len ls)
 have HCK := h! (fun W (hb : Below w.heap.size w W) => pcheckMg_any m vm W (hm.below hb) hf)
 have HMM := h! (fun W (hb : Below w.heap.size w W) => hm.below hb)
 unfold finR
 obtain ⟨L, hL⟩ : ∃ L, L = cmL ls := ⟨_, rfl⟩
 rw [← hL] at HP HZ HFW HLN ⊢
 obtain ⟨r, hr⟩ : ∃ r, r = allE ls := ⟨_, rfl⟩
 rw [← hr] at HP HZ HFW ⊢
 obtain ⟨R, hR⟩ : ∃ R, R = (if r ≠ 0 then (0, false, r) else if CM.mgOk m then ((OM.lastF L m).1, (OM.lastF L m).2, 0) else (0, false, 8) : Int × Bool × Int) := ⟨_, rfl⟩
 rw [← hR]
 have HR := h! hR
 have HID := h! hf.1
 obtain ⟨mm, hmm⟩ : ∃ mm, mm = m := ⟨_, rfl⟩
 rw [← hmm] at HCK HMM HR HID
 obtain ⟨A1, c1, rfl, _⟩ := hm
 clear h hs hL hr hR hf
 obtain ⟨ai, ag, at_, ak, ab⟩ := m
 unfold mcells at HCK HMM ⊢
 simp only at HCK HMM ⊢
 obtain ⟨ec, hec⟩ : ∃ ec : Int, ec = if CM.mgOk mm then 0 else 120 := ⟨_, rfl⟩
 rw [← hec] at HCK
 have HE := h! hec
 clear hmm hec
 obtain ⟨p3, hp3⟩ : ∃ p3, w.heap.size = p3 := ⟨_, rfl⟩
 have HB := h! (show Below w.heap.size w (w.alloc (.cells #[.int .i64 ai, .slice A1 ag.length c1, .int .i64 at_, .string ak, .string ab] 33)) from (Below.refl _ _).alloc n! _)
 have X := h! (Box.new_at (w := w) (t := 33) (cs := #[.int .i64 ai, .slice A1 ag.length c1, .int .i64 at_, .string ak, .string ab]) p3 hp3)
 go_enter Tryz.func11, Tryz.ntmps11
 go_upto_region 1 with (fail)
 generalize w.alloc (.cells #[.int .i64 ai, .slice A1 ag.length c1, .int .i64 at_, .string ak, .string ab] 33) = w1 at HB X ⊢
 clear hp3
 go_wp2_with fail
 refine (HP.out _ HB.out).mono ?_
 rintro e w2 ⟨hb, ⟨h0, rfl⟩ | ⟨h0, A2, c2, rfl, hps, _, _⟩⟩
 ·have hk : (r == 0) = false := by simpa using h0
  have HF := h! (show R = (0, false, r) by rw [HR.out, if_pos h0])
  have HB2 := h! (bmore HB.out hb n!)
  clear hb h0 HP HZ HFW
  go_wp2_with fail
  go_ret3
  exact f3q HF.out HB2.out
 ·subst h0
  have HLg := h! (HZ.out rfl).1
  have h4 : ls.length ≤ 4 := (HZ.out rfl).2.1
  have HTA := h! (fun W (hb : Below w2.heap.size w2 W) => show Calls Tryz.prog 37 #[.slice A2 ls.length c2] W (fun e w' => ∃ A', e = .returned (.slice A' ls.length ls.length) ∧ AlIs w' A' L ∧ Below W.heap.size W w') from by
   have := tellAll_any A2 c2 L W (hps.below hb) HLg.out (HFW.out rfl)
   rwa [HLN.out] at this)
  have HB2 := h! (bmore HB.out hb n!)
  have X2 := h! (X.out.below hb X.out.lt)
  clear hb hps HP HZ HFW
  have s0 := X2.out.cell 0
  have s1 := X2.out.cell 1
  have s2 := X2.out.cell 2
  have s3 := X2.out.cell 3
  have s4 := X2.out.cell 4
  simp at s0 s1 s2 s3 s4
  go_wp2_with fail
  refine (HCK.out _ HB2.out).mono ?_
  rintro e w3 ⟨rfl, hb3⟩
  have HB3 := h! (bmore HB2.out hb3 n!)
  have H23 := h! hb3
  have X3 := h! (X2.out.below hb3 X2.out.lt)
  clear s0 s1 s2 s3 s4 hb3 HCK
  by_cases hok : CM.mgOk mm
  rotate_left
  ·have he : ec = 120 := by rw [HE.out, if_neg hok]
   subst he
   have HF := h! (show R = (0, false, 8) by rw [HR.out, if_neg (fun k => k rfl), if_neg hok])
   clear hok
   go_wp2_with fail
   go_ret3
   exact f3q HF.out HB3.out
  ·have he : ec = 0 := by rw [HE.out, if_pos hok]
   subst he
   have HF := h! (show R = ((OM.lastF L mm).1, (OM.lastF L mm).2, 0) by rw [HR.out, if_neg (fun k => k rfl), if_pos hok])
   obtain ⟨R2, hR2⟩ : ∃ R2, R2 = OM.lastF L mm := ⟨_, rfl⟩
   rw [← hR2] at HF
   have HGS := h! (fun x hx => ((OM.mg_groups hok).2 x hx).1)
   have KT := h! (fun W A3 (hal : AlIs W A3 L) (hb : Below w.heap.size w W) => show Calls Tryz.prog 36 #[.slice A3 ls.length ls.length, .agg #[.int .i64 ai, .slice A1 ag.length c1, .int .i64 at_, .string ak, .string ab]] W (fun e w' => e = .returned (.tuple #[.int .i64 R2.1, .bool R2.2]) ∧ Below W.heap.size W w') from by
    have := finalTime_any A3 ls.length L _ mm W hal HLg.out (HMM.out W hb) HGS.out HID.out
    rw [HLN.out, ← hR2] at this
    exact this)
   clear hok hR2 HMM
   go_upto_region 6 with (fail)
   have HSS := h! (fun (w' : World) (h : Below w3.heap.size w3 w') => show w'.cell? ⟨p3, 0, none⟩ = some (.int .i64 ai) ∧ w'.cell? ⟨p3, 1, none⟩ = some (.slice A1 ag.length c1) ∧ w'.cell? ⟨p3, 2, none⟩ = some (.int .i64 at_) ∧ w'.cell? ⟨p3, 3, none⟩ = some (.string ak) ∧ w'.cell? ⟨p3, 4, none⟩ = some (.string ab) from by
    have hx := X3.out.below h X3.out.lt
    exact ⟨hx.cell 0, hx.cell 1, hx.cell 2, hx.cell 3, hx.cell 4⟩)
   have bb1 : Below w3.heap.size w3 w3.drew := (Below.refl _ _).drew
   obtain ⟨ud, hud⟩ : ∃ ud, ud = w3.drew := ⟨_, rfl⟩
   refine wp_region_held_drew (S := fun w' => w'.cell? ⟨p3, 0, none⟩ = some (.int .i64 ai) ∧ w'.cell? ⟨p3, 1, none⟩ = some (.slice A1 ag.length c1) ∧ w'.cell? ⟨p3, 2, none⟩ = some (.int .i64 at_) ∧ w'.cell? ⟨p3, 3, none⟩ = some (.string ak) ∧ w'.cell? ⟨p3, 4, none⟩ = some (.string ab)) (by kernel_rfl) (HSS.out _ bb1) (fun hHeld => ?_)
   rw [← hud] at bb1 hHeld ⊢
   clear hud
   refine qT 0 ?_; try simp only [Act.put, qq]
   refine qT 2 ?_; try simp only [Act.put, qq]
   refine qR 1 fun K hK => ?_
   go_simp
   refine (HTA.out _ (bmore H23.out bb1 n!)).mono ?_
   rintro e w5 ⟨A3, rfl, hal, hb5⟩
   have bb5 := bmore bb1 hb5 n!
   have HAL := h! hal
   clear hal hb5
   refine hK.out _ _ (HSS.out _ bb5) (fun hHeld => ?_)
   clear hK
   try simp only [Act.put, qq]
   refine qR 3 fun K hK => ?_
   go_simp
   refine (KT.out w5 A3 HAL.out (bmore HB3.out bb5 n!)).mono ?_
   rintro e w6 ⟨rfl, hb6⟩
   have bb6 := bmore bb5 hb6 n!
   clear hb6
   refine hK.out _ _ (HSS.out _ bb6) (fun hHeld => ?_)
   clear hK
   try simp only [Act.put, qq]
   refine qT 4 ?_; try simp only [Act.put, qq]
   refine qT 5 ?_; try simp only [Act.put, qq]
   refine qT 6 ?_; try simp only [Act.put, qq]
   refine qT 7 ?_; try simp only [Act.put, qq]
   refine qT 8 ?_; try simp only [Act.put, qq]
   refine wpAnyH_done (by kernel_rfl) ?_ _
   go_wp2_with fail
   go_ret3
   exact f3q HF.out (bmore HB3.out bb6 n!)
end KP
namespace KP
open Go.RowKit CP TP LP
open CM (Mg Cm)
open TM (Sp)
open KM (Wt Sk)
def StpMid (w w1 : World) (R : Sk × List Mg × Bool) (u9 u10 u11 : Value) (wx : World) : Prop :=
 ∃ p9 A n c B d E m f, u9 = .pointer (some ⟨p9, 0, none⟩) ∧ u10 = .slice E m f ∧ u11 = .bool R.2.2 ∧ w1.heap.size ≤ p9 ∧ Box wx p9 39 #[.int .i64 R.1.c, .slice A n c, .slice B R.1.ds.length d] ∧ KO KW wx w1.heap.size 78 (.slice A n c) R.1.ws ∧
  wx.ownsRow w1.heap.size 46 2 (.slice B R.1.ds.length d) R.1.ds.length (flat spc R.1.ds) ∧ KO KM_ wx w1.heap.size 33 (.slice E m f) R.2.1 ∧ Below w1.heap.size w1 wx
theorem info_step : (Tryz.prog.info? 137).map (fun i => (i.zero, i.size, i.bytes)) = some (some (.agg #[.int .u8 0, .int .i64 0, .slice none 0 0, .int .i64 0, .string ⟨#[]⟩, .string ⟨#[]⟩, .int .i64 0, .int .i64 0, .slice none 0 0, .int .i64 0, .int .i64 0, .int .i64 0, .int .i64 0, .slice none 0 0, .slice none 0 0, .int .i64 0, .slice none 0 0, .slice none 0 0, .slice none 0 0]), 19, 280) := by kernel_rfl
structure StEl (W : World) (b : Nat) (g : Int) (cs : List Cm) (j : Nat) (xs : List Value) : Prop where
 ex : ∃ (x : Cm) (A : Option Addr) (c : Nat) (B : Option Addr) (d : Nat) (A5 : Option Addr) (n5 a5 : Nat) (B5 : Option Addr) (m5 b5 : Nat) (A6 : Option Addr) (n6 a6 : Nat) (B6 : Option Addr) (m6 b6 : Nat) (E : Option Addr) (m f : Nat), cs[j]? = some x ∧
  xs = (scells A c B d x (stA g cs j).c (.slice A5 n5 a5) (.slice B5 m5 b5) (stA g cs (j + 1)).c (.slice A6 n6 a6) (.slice B6 m6 b6) (.slice E m f)).toList ∧ RowGe W b A c x.m.gs ∧ RowGe W b B d x.ms ∧
  SkO W b (vsk (stA g cs j).c (.slice A5 n5 a5) (.slice B5 m5 b5)) (stA g cs j) ∧ SkO W b (vsk (stA g cs (j + 1)).c (.slice A6 n6 a6) (.slice B6 m6 b6)) (stA g cs (j + 1)) ∧ KO KM_ W b 33 (.slice E m f) (OM.one (stA g cs j) g x).2
theorem StEl.kept {S : TypeId → Prop} {W W' : World} {b : Nat} {g : Int} {cs : List Cm} {j : Nat} {xs : List Value} (h : StEl W b g cs j xs) (k : Kept S W W') (h1 : ¬ S 3) (h2 : ¬ S 78) (h3 : ¬ S 46) (h4 : ¬ S 33) : StEl W' b g cs j xs := by
 obtain ⟨x, A, c, B, d, A5, n5, a5, B5, m5, b5, A6, n6, a6, B6, m6, b6, E, m, f, k1, k2, k3, k4, k5, k6, k7⟩ := h.ex
 exact ⟨x, A, c, B, d, A5, n5, a5, B5, m5, b5, A6, n6, a6, B6, m6, b6, E, m, f, k1, k2, rowGe_kept k h1 k3, rowGe_kept k h1 k4, sko_kept k5 k h1 h2 h3, sko_kept k6 k h1 h2 h3, k7.kept k h1 h4⟩
def StO (W : World) (b : Nat) (g : Int) (cs : List Cm) (v : Value) (k : Nat) : Prop := ∃ xs : List (List Value), xs.length = k ∧ W.ownsRow b 137 19 v k (flat (fun l => l) xs) ∧ ∀ j l, xs[j]? = some l → StEl W b g cs j l
theorem StO.kept {S : TypeId → Prop} {W W' : World} {b : Nat} {g : Int} {cs : List Cm} {v : Value} {k : Nat} (h : StO W b g cs v k) (q : Kept S W W') (h1 : ¬ S 3) (h2 : ¬ S 78) (h3 : ¬ S 46) (h4 : ¬ S 33) (h5 : ¬ S 137) : StO W' b g cs v k := by
 obtain ⟨xs, k1, k2, k3⟩ := h
 exact ⟨xs, k1, q.own k2 h5, fun j l hl => (k3 j l hl).kept q h1 h2 h3 h4⟩
theorem Kept.no {W W' : World} (h : Below W.heap.size W W') : Kept (fun _ => False) W W' := Kept.of_below h
theorem StO.below {W W' : World} {b : Nat} {g : Int} {cs : List Cm} {v : Value} {k : Nat} (h : StO W b g cs v k) (hb : Below W.heap.size W W') : StO W' b g cs v k := h.kept (Kept.no hb) id id id id id
structure SsR (w : World) (g : Int) (cs : List Cm) (sv : Value) (q k : Nat) (A5 : Option Addr) (n5 a5 : Nat) (B5 : Option Addr) (m5 b5 : Nat) (u : Value) (wr : World) : Prop where
 bl : Below w.heap.size w wr
 bq : w.heap.size ≤ q
 cm : CmsO wr w.heap.size sv cs
 bx : Box wr q 39 #[.int .i64 (stA g cs k).c, .slice A5 n5 a5, .slice B5 m5 b5]
 sk : SkO wr w.heap.size (vsk (stA g cs k).c (.slice A5 n5 a5) (.slice B5 m5 b5)) (stA g cs k)
 st : StO wr w.heap.size g cs u k
theorem cmsO_kept16 {S : TypeId → Prop} {w w' : World} {b : Nat} {v : Value} {cs : List Cm} (h : CmsO w b v cs) (k : Kept S w w') (hi : ¬ S 3) (hc : ¬ S 91) : CmsO w' b v cs := by
 obtain ⟨l, h1, h2, h3⟩ := h
 refine ⟨l, h1, k.own h2 hc, fun e he => ?_⟩
 obtain ⟨g1, g2, g3, g4, g5, g6⟩ := h3 e he
 have r1 := rowGe_kept k hi (⟨g1, fun ad e hn => (g3 ad e hn).1, g5⟩ : RowGe w b e.A e.c e.x.m.gs)
 have r2 := rowGe_kept k hi (⟨g2, fun ad e hn => (g4 ad e hn).1, g6⟩ : RowGe w b e.B e.d e.x.ms)
 exact ⟨r1.1, r2.1, g3, g4, r1.3, r2.3⟩
theorem SsR.below {w : World} {g : Int} {cs : List Cm} {sv : Value} {q k : Nat} {A5 : Option Addr} {n5 a5 : Nat} {B5 : Option Addr} {m5 b5 : Nat} {u : Value} {wr W : World} (h : SsR w g cs sv q k A5 n5 a5 B5 m5 b5 u wr) (hb : Below wr.heap.size wr W) : SsR w g cs sv q k A5 n5 a5 B5 m5 b5 u W :=
 ⟨bmore h.bl hb n!, h.bq, h.cm.below hb, h.bx.below hb h.bx.lt, h.sk.below hb, h.st.below hb⟩
theorem SsR.put {w : World} {g : Int} {cs : List Cm} {sv : Value} {q k : Nat} {A5 : Option Addr} {n5 a5 : Nat} {B5 : Option Addr} {m5 b5 : Nat} {u : Value} {wr : World} {p : Nat} {x y z : Value} (h : SsR w g cs sv q k A5 n5 a5 B5 m5 b5 u wr) {a b c : Value} (hp : Box wr p 39 #[a, b, c]) (hpq : q ≠ p) (hwp : w.heap.size ≤ p) :
  SsR w g cs sv q k A5 n5 a5 B5 m5 b5 u (((wr.setCell ⟨p, 0, none⟩ x).setCell ⟨p, 1, none⟩ y).setCell ⟨p, 2, none⟩ z) := by
 have k3 := kept_put3 hp x y z
 exact ⟨below_put3 h.bl hwp x y z, h.bq, cmsO_kept16 h.cm k3 (by decide) (by decide), h.bx.putFar3 hpq x y z, sko_kept h.sk k3 (by decide) (by decide) (by decide), h.st.kept k3 (by decide) (by decide) (by decide) (by decide) (by decide)⟩
theorem SsR.next {w : World} {g : Int} {cs : List Cm} {sv : Value} {q k : Nat} {A5 : Option Addr} {n5 a5 : Nat} {B5 : Option Addr} {m5 b5 : Nat} {u v2 : Value} {W w7 : World} {A8 : Option Addr} {n8 a8 : Nat} {B8 : Option Addr} {m8 b8 : Nat} {xs : List (List Value)} {el : List Value} (h : SsR w g cs sv q k A5 n5 a5 B5 m5 b5 u W)
  (hs : SkO W w.heap.size (vsk (stA g cs (k + 1)).c (.slice A8 n8 a8) (.slice B8 m8 b8)) (stA g cs (k + 1))) (he : StEl W w.heap.size g cs k el) (hx : xs.length = k) (ho : W.ownsRow w.heap.size 137 19 u k (flat (fun l => l) xs)) (hel : ∀ j l, xs[j]? = some l → StEl W w.heap.size g cs j l)
  (ho7 : w7.ownsRow w.heap.size 137 19 v2 (k + 1) (flat (fun l => l) xs ++ el)) (hg : W.grownBy w7 u.ownBlock) :
  SsR w g cs sv q (k + 1) A8 n8 a8 B8 m8 b8 v2 (((w7.setCell ⟨q, 0, none⟩ (.int .i64 (stA g cs (k + 1)).c)).setCell ⟨q, 1, none⟩ (.slice A8 n8 a8)).setCell ⟨q, 2, none⟩ (.slice B8 m8 b8)) := by
 have k2 : Kept (fun e => e = 137) W w7 := Kept.grown ho rfl hg
 have bq7 := k2.box _ _ _ (by decide) h.bx
 have k3 := kept_put3 bq7 (.int .i64 (stA g cs (k + 1)).c) (.slice A8 n8 a8) (.slice B8 m8 b8)
 have hb7 : Below w.heap.size w w7 := h.bl.grown hg h.bl.size fun j hj => (own_block ho hj).1
 refine ⟨below_put3 hb7 h.bq _ _ _, h.bq, cmsO_kept16 (cmsO_kept16 h.cm k2 (by decide) (by decide)) k3 (by decide) (by decide), bq7.put3 _ _ _, sko_kept (sko_kept hs k2 (by decide) (by decide) (by decide)) k3 (by decide) (by decide) (by decide), ?_⟩
 refine ⟨xs ++ [el], by simp [hx], ?_, fun j l hl => ?_⟩
 ·have := k3.own ho7 (by decide)
  rw [flat_append, flat_one]
  exact this
 ·have key : ∀ j l, StEl W w.heap.size g cs j l → StEl (((w7.setCell ⟨q, 0, none⟩ (.int .i64 (stA g cs (k + 1)).c)).setCell ⟨q, 1, none⟩ (.slice A8 n8 a8)).setCell ⟨q, 2, none⟩ (.slice B8 m8 b8)) w.heap.size g cs j l := fun j l hh =>
   (hh.kept k2 (by decide) (by decide) (by decide) (by decide)).kept k3 (by decide) (by decide) (by decide) (by decide)
  by_cases hj : j < xs.length
  ·rw [List.getElem?_append_left hj] at hl
   exact key j l (hel j l hl)
  ·have hjl := (List.getElem?_eq_some_iff.1 hl).1
   rw [List.length_append, List.length_singleton] at hjl
   obtain rfl : j = xs.length := by omega
   rw [List.getElem?_append_right n!] at hl
   simp at hl
   subst hl
   rw [hx]
   exact key k _ he
end KP
end Go.Proofs.YteebeiaokfenmaaGreat
