/-
  The walk of StableNames: the limits and errors have their numbers, and the chapter's examples are so; over contracts of the program's functions. No input.
-/
import Derived.Test.YtohiemdodffhoaaKStableBackW
import Derived.Test.YtohiemdodffhoaaStA
import Derived.Test.YtohiemdodffhoaaQq
import Derived.Deep.DeepCutAuto
namespace Go.Proofs.Ytohiemdodffhoaa.SP
open Go.RowKit Go.Shelf
open SM (Sn Sb Vo)
set_option linter.unusedVariables false
set_option linter.unusedSimpArgs false
set_option maxRecDepth 100000

def nmA : ByteArray := ⟨#[97]⟩
def nmB : ByteArray := ⟨#[98]⟩
def nmD : List RM.Rc := [⟨1, 1, 3, 17, ⟨#[]⟩⟩, ⟨3, 1, 1, 0, nmA⟩]
def nm0 : Sb := (aftF (SM.newF 2).1 true exL).1
def nm1 : Sb := (aftF (SM.newF 2).1 true nmD).1
def nm2 : Sb := (SM.appF nm1 ⟨3, 1, 2, 0, nmB⟩).1
def nm3 : Sb := (SM.appF nm2 ⟨3, 1, 3, 0, exX⟩).1
def nmT : List ByteArray := [⟨#[2, 1, 3, 17, 1, 120]⟩, ⟨#[1, 1, 3, 25]⟩]
theorem nm_ok : (aftF (SM.newF 2).1 true nmD).2 = true := by decide +kernel
theorem nm_may : SM.may nm0 := by decide +kernel
theorem nm_img : imgOf nm0 = nmT := by decide +kernel
theorem nm_f : (SM.appF nm1 ⟨3, 1, 3, 0, exX⟩).2 = 8 := by decide +kernel
theorem nm_g : (SM.appF nm1 ⟨3, 1, 2, 0, nmB⟩).2 = 0 := by decide +kernel
theorem nm_h : (SM.appF nm2 ⟨3, 1, 3, 0, exX⟩).2 = 0 := by decide +kernel
theorem nm_v : nm3.votes.length = 0 := by decide +kernel
theorem nm_i : (SM.appF nm3 ⟨1, 1, 2, 25, ⟨#[]⟩⟩).2 = 8 := by decide +kernel
theorem nm_j : (SM.appF nm3 ⟨1, 2, 2, 25, ⟨#[]⟩⟩).2 = 6 := by decide +kernel
theorem nm_k : (SM.newF 5).2 = 2 := by decide +kernel
theorem nm_m : (SM.appF nm0 ⟨1, 1, 3, 24, ⟨#[]⟩⟩).2 = 70 := by decide +kernel
def nmW : ByteArray := ⟨#[119, 104, 97, 116]⟩
theorem nm_n : (SM.replayF 1 (tb [nmW])).2 = 8 := by decide +kernel
theorem nmD_fit : ∀ r ∈ nmD, RcFit r := by
  intro x hx
  unfold nmD at hx
  simp only [List.mem_cons, List.not_mem_nil, or_false] at hx
  rcases hx with rfl | rfl <;> decide
theorem nm0_fit : Fit nm0 := fit_aft2 exL
theorem nm1_fit : Fit nm1 := fit_aft2 nmD
theorem nm2_fit : Fit nm2 := fit_app _ _
theorem nm3_fit : Fit nm3 := fit_app _ _
/-- a variable that holds one -/
structure NmV (w : World) (g : Nat) (A : Option Addr) (c : Nat) (B : Option Addr) (d : Nat) (y : Sb) : Prop where
  bx : Box w g 25 #[.slice A y.logs.length c, .slice B y.votes.length d]
  st : StTy w (.agg #[.slice A y.logs.length c, .slice B y.votes.length d]) y
theorem NmV.below {w w' : World} {g : Nat} {A : Option Addr} {c : Nat} {B : Option Addr} {d : Nat} {y : Sb} (h : NmV w g A c B d y) (hb : Below w.heap.size w w') : NmV w' g A c B d y := ⟨h.bx.below hb h.bx.lt, h.st.below hb⟩
theorem nmv_new {w : World} {A : Option Addr} {c : Nat} {B : Option Addr} {d : Nat} {y : Sb} (h : StTy w (.agg #[.slice A y.logs.length c, .slice B y.votes.length d]) y) :
    NmV (w.alloc (.cells #[.slice A y.logs.length c, .slice B y.votes.length d] 25)) w.heap.size A c B d y := ⟨Box.new _ _ _, h.below ((Below.refl _ _).alloc (Nat.le_refl _) _)⟩
/-- such a variable stored into, another one stays -/
theorem NmV.store {w : World} {g q : Nat} {A F : Option Addr} {c f : Nat} {B G : Option Addr} {d h : Nat} {y z : Sb} (H : NmV w g A c B d y) (K : NmV w q F f G h z) (hq : q ≠ g) {A' B' : Option Addr} {c' d' : Nat} {y' : Sb} (hs : StTy w (.agg #[.slice A' y'.logs.length c', .slice B' y'.votes.length d']) y') :
    NmV ((w.setCell ⟨g, 0, none⟩ (.slice A' y'.logs.length c')).setCell ⟨g, 1, none⟩ (.slice B' y'.votes.length d')) g A' c' B' d' y' ∧ NmV ((w.setCell ⟨g, 0, none⟩ (.slice A' y'.logs.length c')).setCell ⟨g, 1, none⟩ (.slice B' y'.votes.length d')) q F f G h z := by
  have b1 := H.bx.stored 0 (.slice A' y'.logs.length c')
  have k2 : Kept isSt w ((w.setCell ⟨g, 0, none⟩ (.slice A' y'.logs.length c')).setCell ⟨g, 1, none⟩ (.slice B' y'.votes.length d')) := (Kept.set (S := isSt) H.bx rfl _).trans (Kept.set (S := isSt) b1 rfl _)
  exact ⟨⟨by simpa using b1.stored 1 (.slice B' y'.votes.length d'), hs.kept k2 (by unfold isSt; decide) (by unfold isSt; decide) (by unfold isSt; decide)⟩,
    ⟨(K.bx.far (p := ⟨g, 0, none⟩) (by show q ≠ g; exact hq) _).far (p := ⟨g, 1, none⟩) (by show q ≠ g; exact hq) _, K.st.kept k2 (by unfold isSt; decide) (by unfold isSt; decide) (by unfold isSt; decide)⟩⟩
def NmE (w : World) (z : Int) (u v : Value) (wx : World) : Prop := v = .int .i64 z ∧ Below w.heap.size w wx
/-- the variable of an answer stored into, wherever it was made -/
theorem nm_put {w wc : World} {g : Nat} (h : Below w.heap.size w wc) (hg : w.heap.size ≤ g) (a b : Value) : Below w.heap.size w ((wc.setCell ⟨g, 0, none⟩ a).setCell ⟨g, 1, none⟩ b) := (h.setCell (p := ⟨g, 0, none⟩) hg a).setCell (p := ⟨g, 1, none⟩) hg b
theorem rd_box1 {w : World} {g n : Nat} {t : TypeId} {cs : Array Value} {xs : List Value} (h : Box w g t cs) (hx : cs.toList = xs) (hn : xs.length = n) : Rd w (some ⟨g, 0, none⟩) n xs := by
  have := rdG_box (s := 1) (n := n) h hx (by omega)
  exact ⟨hn, this.2⟩
def NmS (w6 : World) (g : Nat) (z : Int) (y : Sb) (v : Value) (wx : World) : Prop := v = .int .i64 z ∧ Below w6.heap.size w6 wx ∧ ∃ A c B d, NmV wx g A c B d y
theorem nm_st {w6 wb : World} {g : Nat} {A F : Option Addr} {c f : Nat} {B G : Option Addr} {d h : Nat} {x y : Sb} (hb : Below w6.heap.size w6 wb) (hg : w6.heap.size ≤ g) (hx : Box wb g 25 #[.slice A x.logs.length c, .slice B x.votes.length d]) (hs : StTy wb (.agg #[.slice F y.logs.length f, .slice G y.votes.length h]) y) :
    Below w6.heap.size w6 ((wb.setCell ⟨g, 0, none⟩ (.slice F y.logs.length f)).setCell ⟨g, 1, none⟩ (.slice G y.votes.length h)) ∧ NmV ((wb.setCell ⟨g, 0, none⟩ (.slice F y.logs.length f)).setCell ⟨g, 1, none⟩ (.slice G y.votes.length h)) g F f G h y := by
  have b1 := hx.stored 0 (.slice F y.logs.length f)
  have k2 : Kept isSt wb ((wb.setCell ⟨g, 0, none⟩ (.slice F y.logs.length f)).setCell ⟨g, 1, none⟩ (.slice G y.votes.length h)) := (Kept.set (S := isSt) hx rfl _).trans (Kept.set (S := isSt) b1 rfl _)
  exact ⟨(hb.setCell (p := ⟨g, 0, none⟩) hg _).setCell (p := ⟨g, 1, none⟩) hg _, ⟨by simpa using b1.stored 1 (.slice G y.votes.length h), hs.kept k2 (by unfold isSt; decide) (by unfold isSt; decide) (by unfold isSt; decide)⟩⟩
theorem nm_self {A B : Option Addr} {ca cb : Nat} {l : List ByteArray} {w : World} (h1 : Rd w A l.length (tc l)) (h2 : Rd w B l.length (tc l)) (hm : l.length ≤ maxLen) :
    Calls Try.prog 18 #[.slice A l.length ca, .slice B l.length cb] w fun e w' => e = .returned (.bool true) ∧ Below w.heap.size w w' :=
  (rsametexts_any A B l.length l.length ca cb l l w h1 h2 hm hm).mono fun e w' h => ⟨by rw [h.1]; simp, by obtain ⟨q, rfl⟩ := h.2; exact below_drewN (Below.refl _ _) q⟩
set_option maxHeartbeats 64000000 in
theorem stableNames_of (NP : NewP) (AP : AppP) (TP : AtP) (IP : ImgP) (PR : RepP) (w : World) :
    Calls Try.prog 3 #[] w fun e w' => e = .returned (.bool true) ∧ Below w.heap.size w w' := by
  go_enter Try.func3, Try.ntmps3
  have HB := Lib.hid (Below.refl w.heap.size w)
  have HG := Lib.hid (Nat.le_refl w.heap.size)
  go_wp2_with fail
  refine (lprom_any 1 3 17 _).mono ?_
  rintro e w1 ⟨rfl, hb⟩
  replace HB := Lib.hid (bmore HB.out hb (Nat.le_refl _))
  clear hb
  go_wp2_with fail
  refine (lacc_any 1 3 17 exX _).mono ?_
  rintro e w2 ⟨rfl, hb⟩
  replace HB := Lib.hid (bmore HB.out hb (Nat.le_refl _))
  clear hb
  go_wp2_with fail
  refine (lprom_any 1 3 25 _).mono ?_
  rintro e w3 ⟨rfl, hb⟩
  replace HB := Lib.hid (bmore HB.out hb (Nat.le_refl _))
  clear hb
  go_wp2_with fail
  have hal : Below w3.heap.size w3 (w3.alloc (.cells #[.int .u8 1, .int .i64 1, .int .i64 3, .int .i64 17, .string ⟨#[]⟩, .int .u8 2, .int .i64 1, .int .i64 3, .int .i64 17, .string ⟨#[120]⟩, .int .u8 1, .int .i64 1, .int .i64 3, .int .i64 25, .string ⟨#[]⟩] 29)) := (Below.refl _ _).alloc (Nat.le_refl _) _
  have hrl : RdG (w3.alloc (.cells #[.int .u8 1, .int .i64 1, .int .i64 3, .int .i64 17, .string ⟨#[]⟩, .int .u8 2, .int .i64 1, .int .i64 3, .int .i64 17, .string ⟨#[120]⟩, .int .u8 1, .int .i64 1, .int .i64 3, .int .i64 25, .string ⟨#[]⟩] 29)) 5 (some ⟨w3.heap.size, 0, none⟩) 3 (flat RP.vrec exL) := rdG_box (Box.new _ _ _) rfl rfl
  refine (after_any NP AP w3.heap.size 0 3 3 exL _ hrl rfl (by decide) ex_fit).mono ?_
  rintro e w4 ⟨v, rfl, hst, hb⟩
  rw [show (aftF (SM.newF 2).1 true exL).1 = nm0 from rfl] at hst
  rw [ex_ok]
  obtain ⟨A0, c0, B0, d0, rfl⟩ := ty_slices hst
  replace HB := Lib.hid (bmore (bmore HB.out hal (Nat.le_refl _)) hb (Nat.le_refl _))
  have V0 := Lib.hid (nmv_new hst)
  have hb2 : Below w4.heap.size w4 (w4.alloc (.cells #[.slice A0 nm0.logs.length c0, .slice B0 nm0.votes.length d0] 25)) := (Below.refl _ _).alloc (Nat.le_refl _) _
  replace HB := Lib.hid (bmore HB.out hb2 (Nat.le_refl _))
  clear hal hrl hb hst hb2
  go_upto_region 2 with (fail)
  generalize w4.alloc (.cells #[.slice A0 nm0.logs.length c0, .slice B0 nm0.votes.length d0] 25) = w5 at HB V0 ⊢
  generalize w4.heap.size = g0 at V0 ⊢
  obtain ⟨x0, x1, _, _⟩ := V0.out.bx.two
  go_wp2_with fail
  clear x0 x1
  refine (IP _ nm0 w5 V0.out.st.is nm0_fit).mono ?_
  rintro e w6 ⟨C, cl, rfl, hrd, _, _, hb⟩
  rw [if_pos nm_may, nm_img]
  rw [nm_img] at hrd
  have RI := Lib.hid hrd
  replace HB := Lib.hid (bmore HB.out hb (Nat.le_refl _))
  replace V0 := Lib.hid (V0.out.below hb)
  have HB6 := Lib.hid (Below.refl w6.heap.size w6)
  clear hrd hb
  go_wp2_with fail
  refine (lprom_any 1 3 17 _).mono ?_
  rintro e w7 ⟨rfl, hb⟩
  replace HB6 := Lib.hid (bmore HB6.out hb (Nat.le_refl _))
  clear hb
  go_wp2_with fail
  refine (ldec_any 1 1 nmA _).mono ?_
  rintro e w8 ⟨rfl, hb⟩
  replace HB6 := Lib.hid (bmore HB6.out hb (Nat.le_refl _))
  clear hb
  go_wp2_with fail
  have hal : Below w8.heap.size w8 (w8.alloc (.cells #[.int .u8 1, .int .i64 1, .int .i64 3, .int .i64 17, .string ⟨#[]⟩, .int .u8 3, .int .i64 1, .int .i64 1, .int .i64 0, .string ⟨#[97]⟩] 29)) := (Below.refl _ _).alloc (Nat.le_refl _) _
  have hrl : RdG (w8.alloc (.cells #[.int .u8 1, .int .i64 1, .int .i64 3, .int .i64 17, .string ⟨#[]⟩, .int .u8 3, .int .i64 1, .int .i64 1, .int .i64 0, .string ⟨#[97]⟩] 29)) 5 (some ⟨w8.heap.size, 0, none⟩) 2 (flat RP.vrec nmD) := rdG_box (Box.new _ _ _) rfl rfl
  refine (after_any NP AP w8.heap.size 0 2 2 nmD _ hrl rfl (by decide) nmD_fit).mono ?_
  rintro e w9 ⟨v, rfl, hst, hb⟩
  rw [show (aftF (SM.newF 2).1 true nmD).1 = nm1 from rfl] at hst
  rw [nm_ok]
  obtain ⟨A1, c1, B1, d1, rfl⟩ := ty_slices hst
  have hbb := bmore hal hb (Nat.le_refl _)
  have V1 := Lib.hid (nmv_new hst)
  have hb2 : Below w9.heap.size w9 (w9.alloc (.cells #[.slice A1 nm1.logs.length c1, .slice B1 nm1.votes.length d1] 25)) := (Below.refl _ _).alloc (Nat.le_refl _) _
  have hb3 := bmore hbb hb2 (Nat.le_refl _)
  have HGB := Lib.hid (show w6.heap.size ≤ w9.heap.size by have := HB6.out.size; have := hbb.size; omega)
  replace HB6 := Lib.hid (bmore HB6.out hb3 (Nat.le_refl _))
  clear hal hrl hb hst hb2 hb3 hbb
  go_upto_region 4 with (fail)
  generalize w9.alloc (.cells #[.slice A1 nm1.logs.length c1, .slice B1 nm1.votes.length d1] 25) = wr at HB6 V1 ⊢
  generalize w9.heap.size = g1 at V1 HGB ⊢
  go_upto_region 4 with (fail)
  go_cut [7, 8] (fun u v wx => NmE wr 8 u v wx)
  case first =>
    have HSS := Lib.hid (fun (w' : World) (h : Below wr.heap.size wr w') => (⟨(V1.out.below h).bx.cell 0, (V1.out.below h).bx.cell 1⟩ : (w'.cell? ⟨g1, 0, none⟩ = some (.slice A1 nm1.logs.length c1) ∧ w'.cell? ⟨g1, 1, none⟩ = some (.slice B1 nm1.votes.length d1))))
    have HAP := Lib.hid (fun (U : World) (hU : Below wr.heap.size wr U) => AP (.agg #[.slice A1 nm1.logs.length c1, .slice B1 nm1.votes.length d1]) nm1 3 1 3 0 exX U (V1.out.st.below hU).is nm1_fit (by decide) (by decide) (by decide))
    have bb1 : Below wr.heap.size wr wr.drew := (Below.refl _ _).drew
    obtain ⟨ud, hud⟩ : ∃ ud, ud = wr.drew := ⟨_, rfl⟩
    refine wp_region_held_drew (S := fun w' => (w'.cell? ⟨g1, 0, none⟩ = some (.slice A1 nm1.logs.length c1) ∧ w'.cell? ⟨g1, 1, none⟩ = some (.slice B1 nm1.votes.length d1))) (by kernel_rfl) (HSS.out _ bb1) (fun hHeld => ?_)
    rw [← hud] at bb1 hHeld ⊢
    clear hud
    refine qT 0 ?_; try simp only [Act.put, qq]
    refine wpAnyH_ready (rs := [1, 6]) (by kernel_rfl) (by simp) ?_
    refine AllReadyH.cons rfl (fun K hK => ?_) (AllReadyH.cons rfl (fun K hK => ?_) AllReadyH.nil)
    · skip
      go_simp
      refine (ldec_any 1 3 exX _).mono ?_
      rintro e wa ⟨rfl, ha⟩
      have bb2 := bmore bb1 ha (Nat.le_refl _)
      refine hK.out _ _ (HSS.out _ bb2) (fun hHeld => ?_)
      clear hK ha
      try simp only [Act.put, qq]
      refine wpAnyH_ready (rs := [2, 6]) (by kernel_rfl) (by simp) ?_
      refine AllReadyH.cons rfl (fun K hK => ?_) (AllReadyH.cons rfl (fun K hK => ?_) AllReadyH.nil)
      · skip
        go_simp
        refine (HAP.out _ bb2).mono ?_
        rintro e wb ⟨v6, rfl, hs6, hb6⟩
        obtain ⟨A6, c6, B6, d6, rfl⟩ := ty_slices hs6
        rw [nm_f]
        have bb4 := bmore bb2 hb6 (Nat.le_refl _)
        refine hK.out _ _ (HSS.out _ bb4) (fun hHeld => ?_)
        clear hK
        try simp only [Act.put, qq]
        refine qT 3 ?_; try simp only [Act.put, qq]
        refine qT 4 ?_; try simp only [Act.put, qq]
        refine qT 5 ?_; try simp only [Act.put, qq]
        refine wpAnyH_ready (rs := [6]) (by kernel_rfl) (by simp) ?_
        refine AllReadyH.cons rfl (fun K hK => ?_) AllReadyH.nil
        go_simp
        have bb5 : Below wr.heap.size wr (wb.alloc (.cells #[.slice none 0 0, .slice none 0 0] 25)) := bb4.alloc bb4.size _
        refine hK.out _ _ (HSS.out _ bb5) (fun hHeld => ?_)
        clear hK
        try simp only [Act.put, qq]
        refine wpAnyH_ready (rs := [7]) (by kernel_rfl) (by simp) ?_
        refine AllReadyH.cons rfl (fun K hK => ?_) AllReadyH.nil
        skip
        go_simp
        refine hK.out _ _ (HSS.out _ ?_) (fun hHeld => ?_)
        · first | exact bb5 | exact nm_put bb5 bb4.size _ _ | exact bb4.alloc bb4.size _
        clear hK
        try simp only [Act.put, qq]
        refine qT 8 ?_; try simp only [Act.put, qq]
        refine wpAnyH_done (by kernel_rfl) ?_ _
        clear hHeld
        go_wp2_with fail
        go_meet
        case rel => first | exact ⟨rfl, nm_put bb5 bb4.size _ _⟩ | exact ⟨rfl, bb4.alloc bb4.size _⟩ | exact ⟨rfl, bb5⟩
      · skip
        go_simp
        have bb3 : Below wr.heap.size wr (wa.alloc (.cells #[.slice none 0 0, .slice none 0 0] 25)) := bb2.alloc bb2.size _
        have BX := Lib.hid (Box.new wa 25 #[.slice none 0 0, .slice none 0 0])
        have HSZ := Lib.hid bb2.size
        refine hK.out _ _ (HSS.out _ bb3) (fun hHeld => ?_)
        clear hK
        try simp only [Act.put, qq]
        generalize wa.alloc (.cells #[.slice none 0 0, .slice none 0 0] 25) = wc at bb3 BX hHeld ⊢
        generalize wa.heap.size = gz at BX HSZ ⊢
        refine wpAnyH_ready (rs := [2]) (by kernel_rfl) (by simp) ?_
        refine AllReadyH.cons rfl (fun K hK => ?_) AllReadyH.nil
        go_simp
        refine (HAP.out _ bb3).mono ?_
        rintro e wb ⟨v6, rfl, hs6, hb6⟩
        obtain ⟨A6, c6, B6, d6, rfl⟩ := ty_slices hs6
        rw [nm_f]
        have bb4 := bmore bb3 hb6 (Nat.le_refl _)
        refine hK.out _ _ (HSS.out _ bb4) (fun hHeld => ?_)
        clear hK
        try simp only [Act.put, qq]
        refine qT 3 ?_; try simp only [Act.put, qq]
        refine qT 4 ?_; try simp only [Act.put, qq]
        refine qT 5 ?_; try simp only [Act.put, qq]
        refine wpAnyH_ready (rs := [7]) (by kernel_rfl) (by simp) ?_
        refine AllReadyH.cons rfl (fun K hK => ?_) AllReadyH.nil
        obtain ⟨q0, q1, q2, q3⟩ := (BX.out.below hb6 BX.out.lt).two
        go_simp
        refine hK.out _ _ (HSS.out _ ?_) (fun hHeld => ?_)
        · first | exact bb4 | exact nm_put bb4 HSZ.out _ _ | exact bb4.alloc bb4.size _
        clear hK
        try simp only [Act.put, qq]
        refine qT 8 ?_; try simp only [Act.put, qq]
        refine wpAnyH_done (by kernel_rfl) ?_ _
        clear hHeld
        go_wp2_with fail
        go_meet
        case rel => first | exact ⟨rfl, nm_put bb4 HSZ.out _ _⟩ | exact ⟨rfl, bb4.alloc bb4.size _⟩ | exact ⟨rfl, bb4⟩
    · skip
      go_simp
      have bb0 : Below wr.heap.size wr (ud.alloc (.cells #[.slice none 0 0, .slice none 0 0] 25)) := bb1.alloc bb1.size _
      have BX := Lib.hid (Box.new ud 25 #[.slice none 0 0, .slice none 0 0])
      have HSZ := Lib.hid bb1.size
      refine hK.out _ _ (HSS.out _ bb0) (fun hHeld => ?_)
      clear hK
      try simp only [Act.put, qq]
      generalize ud.alloc (.cells #[.slice none 0 0, .slice none 0 0] 25) = wc at bb0 BX hHeld ⊢
      generalize ud.heap.size = gz at BX HSZ ⊢
      refine wpAnyH_ready (rs := [1]) (by kernel_rfl) (by simp) ?_
      refine AllReadyH.cons rfl (fun K hK => ?_) AllReadyH.nil
      go_simp
      refine (ldec_any 1 3 exX _).mono ?_
      rintro e wa ⟨rfl, ha⟩
      have bb2 := bmore bb0 ha (Nat.le_refl _)
      replace BX := Lib.hid (BX.out.below ha BX.out.lt)
      refine hK.out _ _ (HSS.out _ bb2) (fun hHeld => ?_)
      clear hK ha
      try simp only [Act.put, qq]
      refine wpAnyH_ready (rs := [2]) (by kernel_rfl) (by simp) ?_
      refine AllReadyH.cons rfl (fun K hK => ?_) AllReadyH.nil
      go_simp
      refine (HAP.out _ bb2).mono ?_
      rintro e wb ⟨v6, rfl, hs6, hb6⟩
      obtain ⟨A6, c6, B6, d6, rfl⟩ := ty_slices hs6
      rw [nm_f]
      have bb4 := bmore bb2 hb6 (Nat.le_refl _)
      refine hK.out _ _ (HSS.out _ bb4) (fun hHeld => ?_)
      clear hK
      try simp only [Act.put, qq]
      refine qT 3 ?_; try simp only [Act.put, qq]
      refine qT 4 ?_; try simp only [Act.put, qq]
      refine qT 5 ?_; try simp only [Act.put, qq]
      refine wpAnyH_ready (rs := [7]) (by kernel_rfl) (by simp) ?_
      refine AllReadyH.cons rfl (fun K hK => ?_) AllReadyH.nil
      obtain ⟨q0, q1, q2, q3⟩ := (BX.out.below hb6 BX.out.lt).two
      go_simp
      refine hK.out _ _ (HSS.out _ ?_) (fun hHeld => ?_)
      · first | exact bb4 | exact nm_put bb4 HSZ.out _ _ | exact bb4.alloc bb4.size _
      clear hK
      try simp only [Act.put, qq]
      refine qT 8 ?_; try simp only [Act.put, qq]
      refine wpAnyH_done (by kernel_rfl) ?_ _
      clear hHeld
      go_wp2_with fail
      go_meet
      case rel => first | exact ⟨rfl, nm_put bb4 HSZ.out _ _⟩ | exact ⟨rfl, bb4.alloc bb4.size _⟩ | exact ⟨rfl, bb4⟩
  case rest =>
    obtain ⟨rfl, hcb⟩ := hcut
    replace HB6 := Lib.hid (bmore HB6.out hcb (Nat.le_refl _))
    replace V1 := Lib.hid (V1.out.below hcb)
    clear hcb
    go_upto_region 5 with (fail)
    go_cut [9] (fun v wx => NmS w6 g1 0 nm2 v wx)
    case first =>
      have HAP := Lib.hid (fun (U : World) (hU : Below wc.heap.size wc U) => AP (.agg #[.slice A1 nm1.logs.length c1, .slice B1 nm1.votes.length d1]) nm1 3 1 2 0 nmB U (V1.out.st.below hU).is nm1_fit (by decide) (by decide) (by decide))
      have bb1 : Below wc.heap.size wc wc.drew := (Below.refl _ _).drew
      obtain ⟨ud, hud⟩ : ∃ ud, ud = wc.drew := ⟨_, rfl⟩
      refine wp_region_held_drew (S := fun w' => True) (by kernel_rfl) trivial (fun hHeld => ?_)
      rw [← hud] at bb1 ⊢
      clear hud
      refine wpAnyH_ready (rs := [0, 1]) (by kernel_rfl) (by simp) ?_
      refine AllReadyH.cons rfl (fun K hK => ?_) (AllReadyH.cons rfl (fun K hK => ?_) AllReadyH.nil)
      · skip
        obtain ⟨q0, q1, q2, q3⟩ := (V1.out.below bb1).bx.two
        go_simp
        refine hK.out _ _ trivial (fun hHeld => ?_)
        clear hK q0 q1 q2 q3
        try simp only [Act.put, qq]
        refine wpAnyH_ready (rs := [1]) (by kernel_rfl) (by simp) ?_
        refine AllReadyH.cons rfl (fun K hK => ?_) AllReadyH.nil
        go_simp
        refine (ldec_any 1 2 nmB _).mono ?_
        rintro e wa ⟨rfl, ha⟩
        have bb2 := bmore bb1 ha (Nat.le_refl _)
        refine hK.out _ _ trivial (fun hHeld => ?_)
        clear hK ha
        try simp only [Act.put, qq]
        refine wpAnyH_ready (rs := [2]) (by kernel_rfl) (by simp) ?_
        refine AllReadyH.cons rfl (fun K hK => ?_) AllReadyH.nil
        go_simp
        refine (HAP.out _ bb2).mono ?_
        rintro e wb ⟨v6, rfl, hs6, hb6⟩
        rw [nm_g]
        obtain ⟨A6, c6, B6, d6, rfl⟩ := ty_slices hs6
        have bb4 := bmore bb2 hb6 (Nat.le_refl _)
        refine hK.out _ _ trivial (fun hHeld => ?_)
        clear hK
        try simp only [Act.put, qq]
        refine qT 3 ?_; try simp only [Act.put, qq]
        refine qT 4 ?_; try simp only [Act.put, qq]
        refine qT 5 ?_; try simp only [Act.put, qq]
        refine wpAnyH_ready (rs := [6]) (by kernel_rfl) (by simp) ?_
        refine AllReadyH.cons rfl (fun K hK => ?_) AllReadyH.nil
        obtain ⟨q0, q1, q2, q3⟩ := (V1.out.below bb4).bx.two
        go_simp
        have FN := Lib.hid (nm_st (y := nm2) (HB6.out.trans (bb4.mono HB6.out.size)) HGB.out (V1.out.below bb4).bx hs6)
        refine hK.out _ _ trivial (fun hHeld => ?_)
        clear hK q0 q1 q2 q3
        try simp only [Act.put, qq]
        refine qT 7 ?_; try simp only [Act.put, qq]
        refine wpAnyH_done (by kernel_rfl) ?_ _
        clear hHeld
        go_wp2_with fail
        go_meet
        case rel => exact ⟨rfl, FN.out.1, _, _, _, _, FN.out.2⟩
      · skip
        go_simp
        refine (ldec_any 1 2 nmB _).mono ?_
        rintro e wa ⟨rfl, ha⟩
        have bb2 := bmore bb1 ha (Nat.le_refl _)
        refine hK.out _ _ trivial (fun hHeld => ?_)
        clear hK ha
        try simp only [Act.put, qq]
        refine wpAnyH_ready (rs := [0]) (by kernel_rfl) (by simp) ?_
        refine AllReadyH.cons rfl (fun K hK => ?_) AllReadyH.nil
        obtain ⟨q0, q1, q2, q3⟩ := (V1.out.below bb2).bx.two
        go_simp
        refine hK.out _ _ trivial (fun hHeld => ?_)
        clear hK q0 q1 q2 q3
        try simp only [Act.put, qq]
        refine wpAnyH_ready (rs := [2]) (by kernel_rfl) (by simp) ?_
        refine AllReadyH.cons rfl (fun K hK => ?_) AllReadyH.nil
        go_simp
        refine (HAP.out _ bb2).mono ?_
        rintro e wb ⟨v6, rfl, hs6, hb6⟩
        rw [nm_g]
        obtain ⟨A6, c6, B6, d6, rfl⟩ := ty_slices hs6
        have bb4 := bmore bb2 hb6 (Nat.le_refl _)
        refine hK.out _ _ trivial (fun hHeld => ?_)
        clear hK
        try simp only [Act.put, qq]
        refine qT 3 ?_; try simp only [Act.put, qq]
        refine qT 4 ?_; try simp only [Act.put, qq]
        refine qT 5 ?_; try simp only [Act.put, qq]
        refine wpAnyH_ready (rs := [6]) (by kernel_rfl) (by simp) ?_
        refine AllReadyH.cons rfl (fun K hK => ?_) AllReadyH.nil
        obtain ⟨q0, q1, q2, q3⟩ := (V1.out.below bb4).bx.two
        go_simp
        have FN := Lib.hid (nm_st (y := nm2) (HB6.out.trans (bb4.mono HB6.out.size)) HGB.out (V1.out.below bb4).bx hs6)
        refine hK.out _ _ trivial (fun hHeld => ?_)
        clear hK q0 q1 q2 q3
        try simp only [Act.put, qq]
        refine qT 7 ?_; try simp only [Act.put, qq]
        refine wpAnyH_done (by kernel_rfl) ?_ _
        clear hHeld
        go_wp2_with fail
        go_meet
        case rel => exact ⟨rfl, FN.out.1, _, _, _, _, FN.out.2⟩
    case rest =>
      obtain ⟨rfl, hcb, A1, c1, B1, d1, hV1⟩ := hcut
      replace HB6 := Lib.hid hcb
      have V1 := Lib.hid hV1
      clear hcb hV1
      go_upto_region 6 with (fail)
      go_cut [10] (fun v wx => NmS w6 g1 0 nm3 v wx)
      case first =>
        have HAP := Lib.hid (fun (U : World) (hU : Below wc.heap.size wc U) => AP (.agg #[.slice A1 nm2.logs.length c1, .slice B1 nm2.votes.length d1]) nm2 3 1 3 0 exX U (V1.out.st.below hU).is nm2_fit (by decide) (by decide) (by decide))
        have bb1 : Below wc.heap.size wc wc.drew := (Below.refl _ _).drew
        obtain ⟨ud, hud⟩ : ∃ ud, ud = wc.drew := ⟨_, rfl⟩
        refine wp_region_held_drew (S := fun w' => True) (by kernel_rfl) trivial (fun hHeld => ?_)
        rw [← hud] at bb1 ⊢
        clear hud
        refine wpAnyH_ready (rs := [0, 1]) (by kernel_rfl) (by simp) ?_
        refine AllReadyH.cons rfl (fun K hK => ?_) (AllReadyH.cons rfl (fun K hK => ?_) AllReadyH.nil)
        · skip
          obtain ⟨q0, q1, q2, q3⟩ := (V1.out.below bb1).bx.two
          go_simp
          refine hK.out _ _ trivial (fun hHeld => ?_)
          clear hK q0 q1 q2 q3
          try simp only [Act.put, qq]
          refine wpAnyH_ready (rs := [1]) (by kernel_rfl) (by simp) ?_
          refine AllReadyH.cons rfl (fun K hK => ?_) AllReadyH.nil
          go_simp
          refine (ldec_any 1 3 exX _).mono ?_
          rintro e wa ⟨rfl, ha⟩
          have bb2 := bmore bb1 ha (Nat.le_refl _)
          refine hK.out _ _ trivial (fun hHeld => ?_)
          clear hK ha
          try simp only [Act.put, qq]
          refine wpAnyH_ready (rs := [2]) (by kernel_rfl) (by simp) ?_
          refine AllReadyH.cons rfl (fun K hK => ?_) AllReadyH.nil
          go_simp
          refine (HAP.out _ bb2).mono ?_
          rintro e wb ⟨v6, rfl, hs6, hb6⟩
          rw [nm_h]
          obtain ⟨A6, c6, B6, d6, rfl⟩ := ty_slices hs6
          have bb4 := bmore bb2 hb6 (Nat.le_refl _)
          refine hK.out _ _ trivial (fun hHeld => ?_)
          clear hK
          try simp only [Act.put, qq]
          refine qT 3 ?_; try simp only [Act.put, qq]
          refine qT 4 ?_; try simp only [Act.put, qq]
          refine qT 5 ?_; try simp only [Act.put, qq]
          refine wpAnyH_ready (rs := [6]) (by kernel_rfl) (by simp) ?_
          refine AllReadyH.cons rfl (fun K hK => ?_) AllReadyH.nil
          obtain ⟨q0, q1, q2, q3⟩ := (V1.out.below bb4).bx.two
          go_simp
          have FN := Lib.hid (nm_st (y := nm3) (HB6.out.trans (bb4.mono HB6.out.size)) HGB.out (V1.out.below bb4).bx hs6)
          refine hK.out _ _ trivial (fun hHeld => ?_)
          clear hK q0 q1 q2 q3
          try simp only [Act.put, qq]
          refine qT 7 ?_; try simp only [Act.put, qq]
          refine wpAnyH_done (by kernel_rfl) ?_ _
          clear hHeld
          go_wp2_with fail
          go_meet
          case rel => exact ⟨rfl, FN.out.1, _, _, _, _, FN.out.2⟩
        · skip
          go_simp
          refine (ldec_any 1 3 exX _).mono ?_
          rintro e wa ⟨rfl, ha⟩
          have bb2 := bmore bb1 ha (Nat.le_refl _)
          refine hK.out _ _ trivial (fun hHeld => ?_)
          clear hK ha
          try simp only [Act.put, qq]
          refine wpAnyH_ready (rs := [0]) (by kernel_rfl) (by simp) ?_
          refine AllReadyH.cons rfl (fun K hK => ?_) AllReadyH.nil
          obtain ⟨q0, q1, q2, q3⟩ := (V1.out.below bb2).bx.two
          go_simp
          refine hK.out _ _ trivial (fun hHeld => ?_)
          clear hK q0 q1 q2 q3
          try simp only [Act.put, qq]
          refine wpAnyH_ready (rs := [2]) (by kernel_rfl) (by simp) ?_
          refine AllReadyH.cons rfl (fun K hK => ?_) AllReadyH.nil
          go_simp
          refine (HAP.out _ bb2).mono ?_
          rintro e wb ⟨v6, rfl, hs6, hb6⟩
          rw [nm_h]
          obtain ⟨A6, c6, B6, d6, rfl⟩ := ty_slices hs6
          have bb4 := bmore bb2 hb6 (Nat.le_refl _)
          refine hK.out _ _ trivial (fun hHeld => ?_)
          clear hK
          try simp only [Act.put, qq]
          refine qT 3 ?_; try simp only [Act.put, qq]
          refine qT 4 ?_; try simp only [Act.put, qq]
          refine qT 5 ?_; try simp only [Act.put, qq]
          refine wpAnyH_ready (rs := [6]) (by kernel_rfl) (by simp) ?_
          refine AllReadyH.cons rfl (fun K hK => ?_) AllReadyH.nil
          obtain ⟨q0, q1, q2, q3⟩ := (V1.out.below bb4).bx.two
          go_simp
          have FN := Lib.hid (nm_st (y := nm3) (HB6.out.trans (bb4.mono HB6.out.size)) HGB.out (V1.out.below bb4).bx hs6)
          refine hK.out _ _ trivial (fun hHeld => ?_)
          clear hK q0 q1 q2 q3
          try simp only [Act.put, qq]
          refine qT 7 ?_; try simp only [Act.put, qq]
          refine wpAnyH_done (by kernel_rfl) ?_ _
          clear hHeld
          go_wp2_with fail
          go_meet
          case rel => exact ⟨rfl, FN.out.1, _, _, _, _, FN.out.2⟩
      case rest =>
        obtain ⟨rfl, hcb, A1, c1, B1, d1, hV1⟩ := hcut
        replace HB6 := Lib.hid hcb
        have V1 := Lib.hid hV1
        clear hcb hV1
        go_upto_region 7 with (fail)
        go_cut [11, 12] (fun u v wx => NmE wc 8 u v wx)
        case first =>
          have HSS := Lib.hid (fun (w' : World) (h : Below wc.heap.size wc w') => (⟨(V1.out.below h).bx.cell 0, (V1.out.below h).bx.cell 1⟩ : (w'.cell? ⟨g1, 0, none⟩ = some (.slice A1 nm3.logs.length c1) ∧ w'.cell? ⟨g1, 1, none⟩ = some (.slice B1 nm3.votes.length d1))))
          have HAP := Lib.hid (fun (U : World) (hU : Below wc.heap.size wc U) => AP (.agg #[.slice A1 nm3.logs.length c1, .slice B1 nm3.votes.length d1]) nm3 1 1 2 25 ⟨#[]⟩ U (V1.out.st.below hU).is nm3_fit (by decide) (by decide) (by decide))
          have bb1 : Below wc.heap.size wc wc.drew := (Below.refl _ _).drew
          obtain ⟨ud, hud⟩ : ∃ ud, ud = wc.drew := ⟨_, rfl⟩
          refine wp_region_held_drew (S := fun w' => (w'.cell? ⟨g1, 0, none⟩ = some (.slice A1 nm3.logs.length c1) ∧ w'.cell? ⟨g1, 1, none⟩ = some (.slice B1 nm3.votes.length d1))) (by kernel_rfl) (HSS.out _ bb1) (fun hHeld => ?_)
          rw [← hud] at bb1 hHeld ⊢
          clear hud
          refine qT 0 ?_; try simp only [Act.put, qq]
          refine wpAnyH_ready (rs := [1, 6]) (by kernel_rfl) (by simp) ?_
          refine AllReadyH.cons rfl (fun K hK => ?_) (AllReadyH.cons rfl (fun K hK => ?_) AllReadyH.nil)
          · skip
            go_simp
            refine (lprom_any 1 2 25 _).mono ?_
            rintro e wa ⟨rfl, ha⟩
            have bb2 := bmore bb1 ha (Nat.le_refl _)
            refine hK.out _ _ (HSS.out _ bb2) (fun hHeld => ?_)
            clear hK ha
            try simp only [Act.put, qq]
            refine wpAnyH_ready (rs := [2, 6]) (by kernel_rfl) (by simp) ?_
            refine AllReadyH.cons rfl (fun K hK => ?_) (AllReadyH.cons rfl (fun K hK => ?_) AllReadyH.nil)
            · skip
              go_simp
              refine (HAP.out _ bb2).mono ?_
              rintro e wb ⟨v6, rfl, hs6, hb6⟩
              obtain ⟨A6, c6, B6, d6, rfl⟩ := ty_slices hs6
              rw [nm_i]
              have bb4 := bmore bb2 hb6 (Nat.le_refl _)
              refine hK.out _ _ (HSS.out _ bb4) (fun hHeld => ?_)
              clear hK
              try simp only [Act.put, qq]
              refine qT 3 ?_; try simp only [Act.put, qq]
              refine qT 4 ?_; try simp only [Act.put, qq]
              refine qT 5 ?_; try simp only [Act.put, qq]
              refine wpAnyH_ready (rs := [6]) (by kernel_rfl) (by simp) ?_
              refine AllReadyH.cons rfl (fun K hK => ?_) AllReadyH.nil
              go_simp
              have bb5 : Below wc.heap.size wc (wb.alloc (.cells #[.slice none 0 0, .slice none 0 0] 25)) := bb4.alloc bb4.size _
              refine hK.out _ _ (HSS.out _ bb5) (fun hHeld => ?_)
              clear hK
              try simp only [Act.put, qq]
              refine wpAnyH_ready (rs := [7]) (by kernel_rfl) (by simp) ?_
              refine AllReadyH.cons rfl (fun K hK => ?_) AllReadyH.nil
              skip
              go_simp
              refine hK.out _ _ (HSS.out _ ?_) (fun hHeld => ?_)
              · first | exact bb5 | exact nm_put bb5 bb4.size _ _ | exact bb4.alloc bb4.size _
              clear hK
              try simp only [Act.put, qq]
              refine qT 8 ?_; try simp only [Act.put, qq]
              refine wpAnyH_done (by kernel_rfl) ?_ _
              clear hHeld
              go_wp2_with fail
              go_meet
              case rel => first | exact ⟨rfl, nm_put bb5 bb4.size _ _⟩ | exact ⟨rfl, bb4.alloc bb4.size _⟩ | exact ⟨rfl, bb5⟩
            · skip
              go_simp
              have bb3 : Below wc.heap.size wc (wa.alloc (.cells #[.slice none 0 0, .slice none 0 0] 25)) := bb2.alloc bb2.size _
              have BX := Lib.hid (Box.new wa 25 #[.slice none 0 0, .slice none 0 0])
              have HSZ := Lib.hid bb2.size
              refine hK.out _ _ (HSS.out _ bb3) (fun hHeld => ?_)
              clear hK
              try simp only [Act.put, qq]
              generalize wa.alloc (.cells #[.slice none 0 0, .slice none 0 0] 25) = wc at bb3 BX hHeld ⊢
              generalize wa.heap.size = gz at BX HSZ ⊢
              refine wpAnyH_ready (rs := [2]) (by kernel_rfl) (by simp) ?_
              refine AllReadyH.cons rfl (fun K hK => ?_) AllReadyH.nil
              go_simp
              refine (HAP.out _ bb3).mono ?_
              rintro e wb ⟨v6, rfl, hs6, hb6⟩
              obtain ⟨A6, c6, B6, d6, rfl⟩ := ty_slices hs6
              rw [nm_i]
              have bb4 := bmore bb3 hb6 (Nat.le_refl _)
              refine hK.out _ _ (HSS.out _ bb4) (fun hHeld => ?_)
              clear hK
              try simp only [Act.put, qq]
              refine qT 3 ?_; try simp only [Act.put, qq]
              refine qT 4 ?_; try simp only [Act.put, qq]
              refine qT 5 ?_; try simp only [Act.put, qq]
              refine wpAnyH_ready (rs := [7]) (by kernel_rfl) (by simp) ?_
              refine AllReadyH.cons rfl (fun K hK => ?_) AllReadyH.nil
              obtain ⟨q0, q1, q2, q3⟩ := (BX.out.below hb6 BX.out.lt).two
              go_simp
              refine hK.out _ _ (HSS.out _ ?_) (fun hHeld => ?_)
              · first | exact bb4 | exact nm_put bb4 HSZ.out _ _ | exact bb4.alloc bb4.size _
              clear hK
              try simp only [Act.put, qq]
              refine qT 8 ?_; try simp only [Act.put, qq]
              refine wpAnyH_done (by kernel_rfl) ?_ _
              clear hHeld
              go_wp2_with fail
              go_meet
              case rel => first | exact ⟨rfl, nm_put bb4 HSZ.out _ _⟩ | exact ⟨rfl, bb4.alloc bb4.size _⟩ | exact ⟨rfl, bb4⟩
          · skip
            go_simp
            have bb0 : Below wc.heap.size wc (ud.alloc (.cells #[.slice none 0 0, .slice none 0 0] 25)) := bb1.alloc bb1.size _
            have BX := Lib.hid (Box.new ud 25 #[.slice none 0 0, .slice none 0 0])
            have HSZ := Lib.hid bb1.size
            refine hK.out _ _ (HSS.out _ bb0) (fun hHeld => ?_)
            clear hK
            try simp only [Act.put, qq]
            generalize ud.alloc (.cells #[.slice none 0 0, .slice none 0 0] 25) = wc at bb0 BX hHeld ⊢
            generalize ud.heap.size = gz at BX HSZ ⊢
            refine wpAnyH_ready (rs := [1]) (by kernel_rfl) (by simp) ?_
            refine AllReadyH.cons rfl (fun K hK => ?_) AllReadyH.nil
            go_simp
            refine (lprom_any 1 2 25 _).mono ?_
            rintro e wa ⟨rfl, ha⟩
            have bb2 := bmore bb0 ha (Nat.le_refl _)
            replace BX := Lib.hid (BX.out.below ha BX.out.lt)
            refine hK.out _ _ (HSS.out _ bb2) (fun hHeld => ?_)
            clear hK ha
            try simp only [Act.put, qq]
            refine wpAnyH_ready (rs := [2]) (by kernel_rfl) (by simp) ?_
            refine AllReadyH.cons rfl (fun K hK => ?_) AllReadyH.nil
            go_simp
            refine (HAP.out _ bb2).mono ?_
            rintro e wb ⟨v6, rfl, hs6, hb6⟩
            obtain ⟨A6, c6, B6, d6, rfl⟩ := ty_slices hs6
            rw [nm_i]
            have bb4 := bmore bb2 hb6 (Nat.le_refl _)
            refine hK.out _ _ (HSS.out _ bb4) (fun hHeld => ?_)
            clear hK
            try simp only [Act.put, qq]
            refine qT 3 ?_; try simp only [Act.put, qq]
            refine qT 4 ?_; try simp only [Act.put, qq]
            refine qT 5 ?_; try simp only [Act.put, qq]
            refine wpAnyH_ready (rs := [7]) (by kernel_rfl) (by simp) ?_
            refine AllReadyH.cons rfl (fun K hK => ?_) AllReadyH.nil
            obtain ⟨q0, q1, q2, q3⟩ := (BX.out.below hb6 BX.out.lt).two
            go_simp
            refine hK.out _ _ (HSS.out _ ?_) (fun hHeld => ?_)
            · first | exact bb4 | exact nm_put bb4 HSZ.out _ _ | exact bb4.alloc bb4.size _
            clear hK
            try simp only [Act.put, qq]
            refine qT 8 ?_; try simp only [Act.put, qq]
            refine wpAnyH_done (by kernel_rfl) ?_ _
            clear hHeld
            go_wp2_with fail
            go_meet
            case rel => first | exact ⟨rfl, nm_put bb4 HSZ.out _ _⟩ | exact ⟨rfl, bb4.alloc bb4.size _⟩ | exact ⟨rfl, bb4⟩
        case rest =>
          obtain ⟨rfl, hcb⟩ := hcut
          replace HB6 := Lib.hid (bmore HB6.out hcb (Nat.le_refl _))
          replace V1 := Lib.hid (V1.out.below hcb)
          clear hcb
          go_upto_region 8 with (fail)
          go_cut [13, 14] (fun u v wx => NmE wc 6 u v wx)
          case first =>
            have HSS := Lib.hid (fun (w' : World) (h : Below wc.heap.size wc w') => (⟨(V1.out.below h).bx.cell 0, (V1.out.below h).bx.cell 1⟩ : (w'.cell? ⟨g1, 0, none⟩ = some (.slice A1 nm3.logs.length c1) ∧ w'.cell? ⟨g1, 1, none⟩ = some (.slice B1 nm3.votes.length d1))))
            have HAP := Lib.hid (fun (U : World) (hU : Below wc.heap.size wc U) => AP (.agg #[.slice A1 nm3.logs.length c1, .slice B1 nm3.votes.length d1]) nm3 1 2 2 25 ⟨#[]⟩ U (V1.out.st.below hU).is nm3_fit (by decide) (by decide) (by decide))
            have bb1 : Below wc.heap.size wc wc.drew := (Below.refl _ _).drew
            obtain ⟨ud, hud⟩ : ∃ ud, ud = wc.drew := ⟨_, rfl⟩
            refine wp_region_held_drew (S := fun w' => (w'.cell? ⟨g1, 0, none⟩ = some (.slice A1 nm3.logs.length c1) ∧ w'.cell? ⟨g1, 1, none⟩ = some (.slice B1 nm3.votes.length d1))) (by kernel_rfl) (HSS.out _ bb1) (fun hHeld => ?_)
            rw [← hud] at bb1 hHeld ⊢
            clear hud
            refine qT 0 ?_; try simp only [Act.put, qq]
            refine wpAnyH_ready (rs := [1, 6]) (by kernel_rfl) (by simp) ?_
            refine AllReadyH.cons rfl (fun K hK => ?_) (AllReadyH.cons rfl (fun K hK => ?_) AllReadyH.nil)
            · skip
              go_simp
              refine (lprom_any 2 2 25 _).mono ?_
              rintro e wa ⟨rfl, ha⟩
              have bb2 := bmore bb1 ha (Nat.le_refl _)
              refine hK.out _ _ (HSS.out _ bb2) (fun hHeld => ?_)
              clear hK ha
              try simp only [Act.put, qq]
              refine wpAnyH_ready (rs := [2, 6]) (by kernel_rfl) (by simp) ?_
              refine AllReadyH.cons rfl (fun K hK => ?_) (AllReadyH.cons rfl (fun K hK => ?_) AllReadyH.nil)
              · skip
                go_simp
                refine (HAP.out _ bb2).mono ?_
                rintro e wb ⟨v6, rfl, hs6, hb6⟩
                obtain ⟨A6, c6, B6, d6, rfl⟩ := ty_slices hs6
                rw [nm_j]
                have bb4 := bmore bb2 hb6 (Nat.le_refl _)
                refine hK.out _ _ (HSS.out _ bb4) (fun hHeld => ?_)
                clear hK
                try simp only [Act.put, qq]
                refine qT 3 ?_; try simp only [Act.put, qq]
                refine qT 4 ?_; try simp only [Act.put, qq]
                refine qT 5 ?_; try simp only [Act.put, qq]
                refine wpAnyH_ready (rs := [6]) (by kernel_rfl) (by simp) ?_
                refine AllReadyH.cons rfl (fun K hK => ?_) AllReadyH.nil
                go_simp
                have bb5 : Below wc.heap.size wc (wb.alloc (.cells #[.slice none 0 0, .slice none 0 0] 25)) := bb4.alloc bb4.size _
                refine hK.out _ _ (HSS.out _ bb5) (fun hHeld => ?_)
                clear hK
                try simp only [Act.put, qq]
                refine wpAnyH_ready (rs := [7]) (by kernel_rfl) (by simp) ?_
                refine AllReadyH.cons rfl (fun K hK => ?_) AllReadyH.nil
                skip
                go_simp
                refine hK.out _ _ (HSS.out _ ?_) (fun hHeld => ?_)
                · first | exact bb5 | exact nm_put bb5 bb4.size _ _ | exact bb4.alloc bb4.size _
                clear hK
                try simp only [Act.put, qq]
                refine qT 8 ?_; try simp only [Act.put, qq]
                refine wpAnyH_done (by kernel_rfl) ?_ _
                clear hHeld
                go_wp2_with fail
                go_meet
                case rel => first | exact ⟨rfl, nm_put bb5 bb4.size _ _⟩ | exact ⟨rfl, bb4.alloc bb4.size _⟩ | exact ⟨rfl, bb5⟩
              · skip
                go_simp
                have bb3 : Below wc.heap.size wc (wa.alloc (.cells #[.slice none 0 0, .slice none 0 0] 25)) := bb2.alloc bb2.size _
                have BX := Lib.hid (Box.new wa 25 #[.slice none 0 0, .slice none 0 0])
                have HSZ := Lib.hid bb2.size
                refine hK.out _ _ (HSS.out _ bb3) (fun hHeld => ?_)
                clear hK
                try simp only [Act.put, qq]
                generalize wa.alloc (.cells #[.slice none 0 0, .slice none 0 0] 25) = wc at bb3 BX hHeld ⊢
                generalize wa.heap.size = gz at BX HSZ ⊢
                refine wpAnyH_ready (rs := [2]) (by kernel_rfl) (by simp) ?_
                refine AllReadyH.cons rfl (fun K hK => ?_) AllReadyH.nil
                go_simp
                refine (HAP.out _ bb3).mono ?_
                rintro e wb ⟨v6, rfl, hs6, hb6⟩
                obtain ⟨A6, c6, B6, d6, rfl⟩ := ty_slices hs6
                rw [nm_j]
                have bb4 := bmore bb3 hb6 (Nat.le_refl _)
                refine hK.out _ _ (HSS.out _ bb4) (fun hHeld => ?_)
                clear hK
                try simp only [Act.put, qq]
                refine qT 3 ?_; try simp only [Act.put, qq]
                refine qT 4 ?_; try simp only [Act.put, qq]
                refine qT 5 ?_; try simp only [Act.put, qq]
                refine wpAnyH_ready (rs := [7]) (by kernel_rfl) (by simp) ?_
                refine AllReadyH.cons rfl (fun K hK => ?_) AllReadyH.nil
                obtain ⟨q0, q1, q2, q3⟩ := (BX.out.below hb6 BX.out.lt).two
                go_simp
                refine hK.out _ _ (HSS.out _ ?_) (fun hHeld => ?_)
                · first | exact bb4 | exact nm_put bb4 HSZ.out _ _ | exact bb4.alloc bb4.size _
                clear hK
                try simp only [Act.put, qq]
                refine qT 8 ?_; try simp only [Act.put, qq]
                refine wpAnyH_done (by kernel_rfl) ?_ _
                clear hHeld
                go_wp2_with fail
                go_meet
                case rel => first | exact ⟨rfl, nm_put bb4 HSZ.out _ _⟩ | exact ⟨rfl, bb4.alloc bb4.size _⟩ | exact ⟨rfl, bb4⟩
            · skip
              go_simp
              have bb0 : Below wc.heap.size wc (ud.alloc (.cells #[.slice none 0 0, .slice none 0 0] 25)) := bb1.alloc bb1.size _
              have BX := Lib.hid (Box.new ud 25 #[.slice none 0 0, .slice none 0 0])
              have HSZ := Lib.hid bb1.size
              refine hK.out _ _ (HSS.out _ bb0) (fun hHeld => ?_)
              clear hK
              try simp only [Act.put, qq]
              generalize ud.alloc (.cells #[.slice none 0 0, .slice none 0 0] 25) = wc at bb0 BX hHeld ⊢
              generalize ud.heap.size = gz at BX HSZ ⊢
              refine wpAnyH_ready (rs := [1]) (by kernel_rfl) (by simp) ?_
              refine AllReadyH.cons rfl (fun K hK => ?_) AllReadyH.nil
              go_simp
              refine (lprom_any 2 2 25 _).mono ?_
              rintro e wa ⟨rfl, ha⟩
              have bb2 := bmore bb0 ha (Nat.le_refl _)
              replace BX := Lib.hid (BX.out.below ha BX.out.lt)
              refine hK.out _ _ (HSS.out _ bb2) (fun hHeld => ?_)
              clear hK ha
              try simp only [Act.put, qq]
              refine wpAnyH_ready (rs := [2]) (by kernel_rfl) (by simp) ?_
              refine AllReadyH.cons rfl (fun K hK => ?_) AllReadyH.nil
              go_simp
              refine (HAP.out _ bb2).mono ?_
              rintro e wb ⟨v6, rfl, hs6, hb6⟩
              obtain ⟨A6, c6, B6, d6, rfl⟩ := ty_slices hs6
              rw [nm_j]
              have bb4 := bmore bb2 hb6 (Nat.le_refl _)
              refine hK.out _ _ (HSS.out _ bb4) (fun hHeld => ?_)
              clear hK
              try simp only [Act.put, qq]
              refine qT 3 ?_; try simp only [Act.put, qq]
              refine qT 4 ?_; try simp only [Act.put, qq]
              refine qT 5 ?_; try simp only [Act.put, qq]
              refine wpAnyH_ready (rs := [7]) (by kernel_rfl) (by simp) ?_
              refine AllReadyH.cons rfl (fun K hK => ?_) AllReadyH.nil
              obtain ⟨q0, q1, q2, q3⟩ := (BX.out.below hb6 BX.out.lt).two
              go_simp
              refine hK.out _ _ (HSS.out _ ?_) (fun hHeld => ?_)
              · first | exact bb4 | exact nm_put bb4 HSZ.out _ _ | exact bb4.alloc bb4.size _
              clear hK
              try simp only [Act.put, qq]
              refine qT 8 ?_; try simp only [Act.put, qq]
              refine wpAnyH_done (by kernel_rfl) ?_ _
              clear hHeld
              go_wp2_with fail
              go_meet
              case rel => first | exact ⟨rfl, nm_put bb4 HSZ.out _ _⟩ | exact ⟨rfl, bb4.alloc bb4.size _⟩ | exact ⟨rfl, bb4⟩
          case rest =>
            obtain ⟨rfl, hcb⟩ := hcut
            replace HB6 := Lib.hid (bmore HB6.out hcb (Nat.le_refl _))
            replace V1 := Lib.hid (V1.out.below hcb)
            clear hcb
            have hv5 := NP 5 wc
            rw [nm_k] at hv5
            have CN := Lib.hid hv5
            clear hv5
            go_wp2_with fail
            refine (CN.out).mono ?_
            rintro e wn ⟨vn, rfl, hsn, hbn⟩
            obtain ⟨An, cn, Bn, dn, rfl⟩ := ty_slices hsn
            have hba : Below wn.heap.size wn (wn.alloc (.cells #[.slice An (SM.newF 5).1.logs.length cn, .slice Bn (SM.newF 5).1.votes.length dn] 25)) := (Below.refl _ _).alloc (Nat.le_refl _) _
            have hbm := bmore hbn hba (Nat.le_refl _)
            replace HB6 := Lib.hid (bmore HB6.out hbm (Nat.le_refl _))
            replace V1 := Lib.hid (V1.out.below hbm)
            clear hsn hbn hba hbm CN
            go_upto_region 10 with (fail)
            generalize wn.alloc (.cells #[.slice An (SM.newF 5).1.logs.length cn, .slice Bn (SM.newF 5).1.votes.length dn] 25) = wm at HB6 V1 ⊢
            have V2 := Lib.hid (V0.out.below HB6.out)
            go_upto_region 10 with (fail)
            go_cut [17, 18] (fun u v wx => NmE wm 70 u v wx)
            case first =>
              have HSS := Lib.hid (fun (w' : World) (h : Below wm.heap.size wm w') => (⟨(V2.out.below h).bx.cell 0, (V2.out.below h).bx.cell 1⟩ : (w'.cell? ⟨g0, 0, none⟩ = some (.slice A0 nm0.logs.length c0) ∧ w'.cell? ⟨g0, 1, none⟩ = some (.slice B0 nm0.votes.length d0))))
              have HAP := Lib.hid (fun (U : World) (hU : Below wm.heap.size wm U) => AP (.agg #[.slice A0 nm0.logs.length c0, .slice B0 nm0.votes.length d0]) nm0 1 1 3 24 ⟨#[]⟩ U (V2.out.st.below hU).is nm0_fit (by decide) (by decide) (by decide))
              have bb1 : Below wm.heap.size wm wm.drew := (Below.refl _ _).drew
              obtain ⟨ud, hud⟩ : ∃ ud, ud = wm.drew := ⟨_, rfl⟩
              refine wp_region_held_drew (S := fun w' => (w'.cell? ⟨g0, 0, none⟩ = some (.slice A0 nm0.logs.length c0) ∧ w'.cell? ⟨g0, 1, none⟩ = some (.slice B0 nm0.votes.length d0))) (by kernel_rfl) (HSS.out _ bb1) (fun hHeld => ?_)
              rw [← hud] at bb1 hHeld ⊢
              clear hud
              refine qT 0 ?_; try simp only [Act.put, qq]
              refine wpAnyH_ready (rs := [1, 6]) (by kernel_rfl) (by simp) ?_
              refine AllReadyH.cons rfl (fun K hK => ?_) (AllReadyH.cons rfl (fun K hK => ?_) AllReadyH.nil)
              · skip
                go_simp
                refine (lprom_any 1 3 24 _).mono ?_
                rintro e wa ⟨rfl, ha⟩
                have bb2 := bmore bb1 ha (Nat.le_refl _)
                refine hK.out _ _ (HSS.out _ bb2) (fun hHeld => ?_)
                clear hK ha
                try simp only [Act.put, qq]
                refine wpAnyH_ready (rs := [2, 6]) (by kernel_rfl) (by simp) ?_
                refine AllReadyH.cons rfl (fun K hK => ?_) (AllReadyH.cons rfl (fun K hK => ?_) AllReadyH.nil)
                · skip
                  go_simp
                  refine (HAP.out _ bb2).mono ?_
                  rintro e wb ⟨v6, rfl, hs6, hb6⟩
                  obtain ⟨A6, c6, B6, d6, rfl⟩ := ty_slices hs6
                  rw [nm_m]
                  have bb4 := bmore bb2 hb6 (Nat.le_refl _)
                  refine hK.out _ _ (HSS.out _ bb4) (fun hHeld => ?_)
                  clear hK
                  try simp only [Act.put, qq]
                  refine qT 3 ?_; try simp only [Act.put, qq]
                  refine qT 4 ?_; try simp only [Act.put, qq]
                  refine qT 5 ?_; try simp only [Act.put, qq]
                  refine wpAnyH_ready (rs := [6]) (by kernel_rfl) (by simp) ?_
                  refine AllReadyH.cons rfl (fun K hK => ?_) AllReadyH.nil
                  go_simp
                  have bb5 : Below wm.heap.size wm (wb.alloc (.cells #[.slice none 0 0, .slice none 0 0] 25)) := bb4.alloc bb4.size _
                  refine hK.out _ _ (HSS.out _ bb5) (fun hHeld => ?_)
                  clear hK
                  try simp only [Act.put, qq]
                  refine wpAnyH_ready (rs := [7]) (by kernel_rfl) (by simp) ?_
                  refine AllReadyH.cons rfl (fun K hK => ?_) AllReadyH.nil
                  skip
                  go_simp
                  refine hK.out _ _ (HSS.out _ ?_) (fun hHeld => ?_)
                  · first | exact bb5 | exact nm_put bb5 bb4.size _ _ | exact bb4.alloc bb4.size _
                  clear hK
                  try simp only [Act.put, qq]
                  refine qT 8 ?_; try simp only [Act.put, qq]
                  refine wpAnyH_done (by kernel_rfl) ?_ _
                  clear hHeld
                  go_wp2_with fail
                  go_meet
                  case rel => first | exact ⟨rfl, nm_put bb5 bb4.size _ _⟩ | exact ⟨rfl, bb4.alloc bb4.size _⟩ | exact ⟨rfl, bb5⟩
                · skip
                  go_simp
                  have bb3 : Below wm.heap.size wm (wa.alloc (.cells #[.slice none 0 0, .slice none 0 0] 25)) := bb2.alloc bb2.size _
                  have BX := Lib.hid (Box.new wa 25 #[.slice none 0 0, .slice none 0 0])
                  have HSZ := Lib.hid bb2.size
                  refine hK.out _ _ (HSS.out _ bb3) (fun hHeld => ?_)
                  clear hK
                  try simp only [Act.put, qq]
                  generalize wa.alloc (.cells #[.slice none 0 0, .slice none 0 0] 25) = wc at bb3 BX hHeld ⊢
                  generalize wa.heap.size = gz at BX HSZ ⊢
                  refine wpAnyH_ready (rs := [2]) (by kernel_rfl) (by simp) ?_
                  refine AllReadyH.cons rfl (fun K hK => ?_) AllReadyH.nil
                  go_simp
                  refine (HAP.out _ bb3).mono ?_
                  rintro e wb ⟨v6, rfl, hs6, hb6⟩
                  obtain ⟨A6, c6, B6, d6, rfl⟩ := ty_slices hs6
                  rw [nm_m]
                  have bb4 := bmore bb3 hb6 (Nat.le_refl _)
                  refine hK.out _ _ (HSS.out _ bb4) (fun hHeld => ?_)
                  clear hK
                  try simp only [Act.put, qq]
                  refine qT 3 ?_; try simp only [Act.put, qq]
                  refine qT 4 ?_; try simp only [Act.put, qq]
                  refine qT 5 ?_; try simp only [Act.put, qq]
                  refine wpAnyH_ready (rs := [7]) (by kernel_rfl) (by simp) ?_
                  refine AllReadyH.cons rfl (fun K hK => ?_) AllReadyH.nil
                  obtain ⟨q0, q1, q2, q3⟩ := (BX.out.below hb6 BX.out.lt).two
                  go_simp
                  refine hK.out _ _ (HSS.out _ ?_) (fun hHeld => ?_)
                  · first | exact bb4 | exact nm_put bb4 HSZ.out _ _ | exact bb4.alloc bb4.size _
                  clear hK
                  try simp only [Act.put, qq]
                  refine qT 8 ?_; try simp only [Act.put, qq]
                  refine wpAnyH_done (by kernel_rfl) ?_ _
                  clear hHeld
                  go_wp2_with fail
                  go_meet
                  case rel => first | exact ⟨rfl, nm_put bb4 HSZ.out _ _⟩ | exact ⟨rfl, bb4.alloc bb4.size _⟩ | exact ⟨rfl, bb4⟩
              · skip
                go_simp
                have bb0 : Below wm.heap.size wm (ud.alloc (.cells #[.slice none 0 0, .slice none 0 0] 25)) := bb1.alloc bb1.size _
                have BX := Lib.hid (Box.new ud 25 #[.slice none 0 0, .slice none 0 0])
                have HSZ := Lib.hid bb1.size
                refine hK.out _ _ (HSS.out _ bb0) (fun hHeld => ?_)
                clear hK
                try simp only [Act.put, qq]
                generalize ud.alloc (.cells #[.slice none 0 0, .slice none 0 0] 25) = wc at bb0 BX hHeld ⊢
                generalize ud.heap.size = gz at BX HSZ ⊢
                refine wpAnyH_ready (rs := [1]) (by kernel_rfl) (by simp) ?_
                refine AllReadyH.cons rfl (fun K hK => ?_) AllReadyH.nil
                go_simp
                refine (lprom_any 1 3 24 _).mono ?_
                rintro e wa ⟨rfl, ha⟩
                have bb2 := bmore bb0 ha (Nat.le_refl _)
                replace BX := Lib.hid (BX.out.below ha BX.out.lt)
                refine hK.out _ _ (HSS.out _ bb2) (fun hHeld => ?_)
                clear hK ha
                try simp only [Act.put, qq]
                refine wpAnyH_ready (rs := [2]) (by kernel_rfl) (by simp) ?_
                refine AllReadyH.cons rfl (fun K hK => ?_) AllReadyH.nil
                go_simp
                refine (HAP.out _ bb2).mono ?_
                rintro e wb ⟨v6, rfl, hs6, hb6⟩
                obtain ⟨A6, c6, B6, d6, rfl⟩ := ty_slices hs6
                rw [nm_m]
                have bb4 := bmore bb2 hb6 (Nat.le_refl _)
                refine hK.out _ _ (HSS.out _ bb4) (fun hHeld => ?_)
                clear hK
                try simp only [Act.put, qq]
                refine qT 3 ?_; try simp only [Act.put, qq]
                refine qT 4 ?_; try simp only [Act.put, qq]
                refine qT 5 ?_; try simp only [Act.put, qq]
                refine wpAnyH_ready (rs := [7]) (by kernel_rfl) (by simp) ?_
                refine AllReadyH.cons rfl (fun K hK => ?_) AllReadyH.nil
                obtain ⟨q0, q1, q2, q3⟩ := (BX.out.below hb6 BX.out.lt).two
                go_simp
                refine hK.out _ _ (HSS.out _ ?_) (fun hHeld => ?_)
                · first | exact bb4 | exact nm_put bb4 HSZ.out _ _ | exact bb4.alloc bb4.size _
                clear hK
                try simp only [Act.put, qq]
                refine qT 8 ?_; try simp only [Act.put, qq]
                refine wpAnyH_done (by kernel_rfl) ?_ _
                clear hHeld
                go_wp2_with fail
                go_meet
                case rel => first | exact ⟨rfl, nm_put bb4 HSZ.out _ _⟩ | exact ⟨rfl, bb4.alloc bb4.size _⟩ | exact ⟨rfl, bb4⟩
            case rest =>
              obtain ⟨rfl, hcb⟩ := hcut
              replace HB6 := Lib.hid (bmore HB6.out hcb (Nat.le_refl _))
              replace V1 := Lib.hid (V1.out.below hcb)
              clear hcb
              have hal : Below wc.heap.size wc (wc.alloc (.cells #[.string ⟨#[119, 104, 97, 116]⟩] 9)) := (Below.refl _ _).alloc (Nat.le_refl _) _
              have hrp := PR 1 (some ⟨wc.heap.size, 0, none⟩) 1 1 [nmW] (wc.alloc (.cells #[.string ⟨#[119, 104, 97, 116]⟩] 9)) (rd_box1 (Box.new _ _ _) rfl rfl) (by intro v hv; simp at hv; subst hv; decide) (by decide)
              unfold RpPost at hrp
              rw [nm_n] at hrp
              have CRP := Lib.hid hrp
              clear hrp
              go_wp2_with fail
              refine (CRP.out).mono ?_
              rintro e wp ⟨vp, rfl, hsp, hbp⟩
              obtain ⟨Ap, cp, Bp, dp, rfl⟩ := ty_slices hsp
              have hba : Below wp.heap.size wp (wp.alloc (.cells #[.slice Ap (SM.replayF 1 (tb [nmW])).1.logs.length cp, .slice Bp (SM.replayF 1 (tb [nmW])).1.votes.length dp] 25)) := (Below.refl _ _).alloc (Nat.le_refl _) _
              have hbm := bmore (bmore hal hbp (Nat.le_refl _)) hba (Nat.le_refl _)
              replace HB6 := Lib.hid (bmore HB6.out hbm (Nat.le_refl _))
              replace V1 := Lib.hid (V1.out.below hbm)
              clear hal hsp hbp hba hbm CRP
              go_upto_region 12 with (fail)
              generalize wp.alloc (.cells #[.slice Ap (SM.replayF 1 (tb [nmW])).1.logs.length cp, .slice Bp (SM.replayF 1 (tb [nmW])).1.votes.length dp] 25) = wq at HB6 V1 ⊢
              go_wp2_with fail
              refine (alive_any NP AP TP wq).mono ?_
              rintro e wa ⟨rfl, hb⟩
              replace HB6 := Lib.hid (bmore HB6.out hb (Nat.le_refl _))
              replace V1 := Lib.hid (V1.out.below hb)
              clear hb
              have hal : Below wa.heap.size wa (wa.alloc (.cells #[.string ⟨#[2, 1, 3, 17, 1, 120]⟩, .string ⟨#[1, 1, 3, 25]⟩] 9)) := (Below.refl _ _).alloc (Nat.le_refl _) _
              have CS := Lib.hid (nm_self (A := C) (ca := cl) (B := some ⟨wa.heap.size, 0, none⟩) (cb := 2) (l := nmT) ((RI.out.below HB6.out).below hal) (rd_box1 (Box.new _ _ _) rfl rfl) (by decide))
              replace HB6 := Lib.hid (bmore HB6.out hal (Nat.le_refl _))
              replace V1 := Lib.hid (V1.out.below hal)
              have hlT : nmT.length = 2 := rfl
              rw [hlT] at CS ⊢
              clear hal hlT
              go_wp2_with fail
              refine (CS.out).mono ?_
              rintro e wb ⟨rfl, hb⟩
              replace HB6 := Lib.hid (bmore HB6.out hb (Nat.le_refl _))
              replace V1 := Lib.hid (V1.out.below hb)
              clear hb CS
              obtain ⟨q0, q1, _, _⟩ := V1.out.bx.two
              rw [nm_v] at q1
              go_wp2_with fail
              go_ret
              exact ⟨rfl, bmore HB.out HB6.out (Nat.le_refl _)⟩
end Go.Proofs.Ytohiemdodffhoaa.SP
