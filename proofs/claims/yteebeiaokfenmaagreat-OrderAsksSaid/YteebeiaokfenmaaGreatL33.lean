/- Contracts of functions, L33: each as its theorem says. -/
import Derived.Test.YteebeiaokfenmaaGreatL30
import Derived.Test.YteebeiaokfenmaaGreatL31
import Derived.Test.YteebeiaokfenmaaGreatL32
import Derived.Test.YteebeiaokfenmaaGreatL24
import Derived.Test.YteebeiaokfenmaaGreatL20
set_option linter.unusedVariables false
set_option linter.unusedSimpArgs false
set_option maxRecDepth 100000
set_option maxHeartbeats 16000000
namespace Go.Proofs.YteebeiaokfenmaaGreat
namespace CP
open Go.RowKit
open CM (Mg Cm)
theorem may_kinds {k aid atm atp awh an : Int} {m : Mg} {ams : List Int} (h : CM.may ⟨k, m, aid, atm, ams, atp, awh, an⟩) : k = 0 ∨ k = 1 ∨ k = 2 ∨ k = 3 ∨ k = 4 ∨ k = 5 ∨ k = 6 := by
 by_cases hk : k ≠ 0 ∧ k ≠ 1 ∧ k ≠ 2 ∧ k ≠ 3 ∧ k ≠ 4 ∧ k ≠ 5 ∧ k ≠ 6
 ·exact absurd h (may_other hk)
 ·omega
theorem pwrite_any (x : Cm) (v : Value) (w : World) (h : CmIs w v x) (hf : CmFit x) :
  Calls Tryz.prog 42 #[v] w (WrIs x w) := by
 obtain ⟨A, c, P, q, rfl, r1, r3⟩ := h
 obtain ⟨k, ⟨mi, mg, mt, mk, mb⟩, aid, atm, ams, atp, awh, an⟩ := x
 simp only at r1 r3
 by_cases hm : CM.may ⟨k, ⟨mi, mg, mt, mk, mb⟩, aid, atm, ams, atp, awh, an⟩
 ·have fin : Calls Tryz.prog 42 #[.agg (ccells A c P q ⟨k, ⟨mi, mg, mt, mk, mb⟩, aid, atm, ams, atp, awh, an⟩)] w (fun e w' => e = .returned (.tuple #[.string ⟨(CM.wr ⟨k, ⟨mi, mg, mt, mk, mb⟩, aid, atm, ams, atp, awh, an⟩).toArray⟩, .int .i64 0]) ∧ Below w.heap.size w w') := by
   rcases may_kinds hm with rfl | rfl | rfl | rfl | rfl | rfl | rfl
   ·exact pwrite_0 mi mt mg mk mb aid atm ams atp awh an A c P q w r1 r3 hm hf
   ·exact pwrite_1 mi mt mg mk mb aid atm ams atp awh an A c P q w r1 r3 hm hf
   ·exact pwrite_2 mi mt mg mk mb aid atm ams atp awh an A c P q w r1 r3 hm hf
   ·exact pwrite_3 mi mt mg mk mb aid atm ams atp awh an A c P q w r1 r3 hm hf
   ·exact pwrite_4 mi mt mg mk mb aid atm ams atp awh an A c P q w r1 r3 hm hf
   ·exact pwrite_5 mi mt mg mk mb aid atm ams atp awh an A c P q w r1 r3 hm hf
   ·exact pwrite_6 mi mt mg mk mb aid atm ams atp awh an A c P q w r1 r3 hm hf
  refine fin.mono ?_
  rintro e w' ⟨rfl, hb⟩
  unfold WrIs
  rw [if_pos hm, if_pos hm]
  exact ⟨rfl, hb⟩
 ·have HM := h! hm
  have CC := h! (fun W (hb : Below w.heap.size w W) => pcheck_any ⟨k, ⟨mi, mg, mt, mk, mb⟩, aid, atm, ams, atp, awh, an⟩ (.agg (ccells A c P q ⟨k, ⟨mi, mg, mt, mk, mb⟩, aid, atm, ams, atp, awh, an⟩)) W ⟨A, c, P, q, rfl, r1.below hb, r3.below hb⟩ hf)
  rw [if_neg hm] at CC
  unfold ccells at CC
  simp only at CC
  show Calls _ _ #[.agg #[.int .u8 k, .int .i64 mi, .slice A mg.length c, .int .i64 mt, .string mk, .string mb, .int .i64 aid, .int .i64 atm, .slice P ams.length q, .int .i64 atp, .int .i64 awh, .int .i64 an]] _ _
  have hb0 : Below w.heap.size w (w.alloc (.cells #[.int .u8 k, .int .i64 mi, .slice A mg.length c, .int .i64 mt, .string mk, .string mb, .int .i64 aid, .int .i64 atm, .slice P ams.length q, .int .i64 atp, .int .i64 awh, .int .i64 an] 91)) := b!
  have HB := h! hb0
  clear hm r1 r3 hf hb0
  go_enter Tryz.func42, Tryz.ntmps42
  go_wp2_with fail
  refine (CC.out _ HB.out).mono ?_
  rintro e w1 ⟨rfl, hb1⟩
  have HB1 := h! (bmore HB.out hb1 (by simp))
  clear hb1 HB CC
  go_wp2_with fail
  go_ret2
  unfold WrIs
  rw [if_neg HM.out, if_neg HM.out]
  exact ⟨rfl, HB1.out⟩
end CP
namespace KP
open Go.RowKit CP TP
open CM (Mg Cm)
open TM (Sp)
open KM (Wt Sk)
def okD (s : Sk) (k : Nat) : Prop := ∀ x, s.ds[k]? = some x → TM.ok x ∧ 1 ≤ x.t ∧ x.t ≤ s.c
theorem areDn_iff {s : Sk} : KM.areDn s ↔ s.ds.length ≤ 200 ∧ (∀ k, k < s.ds.length → okD s k) ∧ TM.rises s.ds = true := by
 unfold KM.areDn
 constructor
 ·rintro ⟨h1, h2, h3⟩
  exact ⟨h1, fun k hk x hx => h2 x (List.mem_of_getElem? hx), h3⟩
 ·rintro ⟨h1, h2, h3⟩
  refine ⟨h1, fun x hx => ?_, h3⟩
  obtain ⟨k, hk, rfl⟩ := List.getElem_of_mem hx
  exact h2 k hk _ (List.getElem?_eq_getElem hk)
theorem not_areDn {s : Sk} {k : Nat} {x : Sp} (hx : s.ds[k]? = some x) (h : ¬ (TM.ok x ∧ 1 ≤ x.t ∧ x.t ≤ s.c)) : ¬ KM.areDn s := fun hw =>
 h ((areDn_iff.1 hw).2.1 k (List.getElem?_eq_some_iff.1 hx).1 x hx)
theorem okD_of {s : Sk} {k : Nat} {x : Sp} (hx : s.ds[k]? = some x) (h : TM.ok x ∧ 1 ≤ x.t ∧ x.t ≤ s.c) : okD s k := fun y hy => by
 rw [hx] at hy
 injection hy with hy
 rw [← hy]
 exact h
theorem areDone_any (v : Value) (s : Sk) (w : World) (h : SkIs w v s) (hf : SkFit s) : Calls Tryz.prog 130 #[v] w (IsB (decide (KM.areDn s)) w) := by
 obtain ⟨A, ca, B, cb, rfl, r1, d1⟩ := h
 have HI := h! (areDn_iff (s := s))
 have HNO := h! (fun k x => not_areDn (s := s) (k := k) (x := x))
 have HOK := h! (fun k x => okD_of (s := s) (k := k) (x := x))
 obtain ⟨ok, hok⟩ : ∃ ok : Nat → Prop, ok = okD s := ⟨_, rfl⟩
 rw [← hok] at HI HOK
 clear hok
 obtain ⟨R, hR⟩ : ∃ R, R = KM.areDn s := ⟨_, rfl⟩
 obtain ⟨b, hb⟩ : ∃ b, b = decide (KM.areDn s) := ⟨_, rfl⟩
 have HRB := h! (show (b = true ↔ R) by rw [hb, hR]; simp)
 rw [← hb]
 rw [← hR] at HI HNO
 clear hR hb
 have HW := h! hf.2.2
 have HP := h! (fun t w => ispast_any s.c t (.slice A s.ws.length ca) (.slice B s.ds.length cb) A B s.ws.length s.ds.length ca cb rfl rfl w)
 obtain ⟨sc, ws, ds⟩ := s
 simp only at r1 d1 HI HNO HOK HW HP
 obtain ⟨n, hna⟩ : ∃ n, n = ws.length := ⟨_, rfl⟩
 obtain ⟨m, hmb⟩ : ∃ m, m = ds.length := ⟨_, rfl⟩
 unfold vsk at HP ⊢
 simp only
 rw [← hna] at HP ⊢
 rw [← hmb] at d1 HP HI ⊢
 have HL := h! hmb
 have hn63 := d1.small
 have H := h! (fun W (hb : Below w.heap.size w W) => d1.below hb)
 clear hna hmb r1 d1 hf
 have HB := h! (show Below w.heap.size w (w.alloc (.cells #[.int .i64 sc, .slice A n ca, .slice B m cb] 39)) from (Below.refl _ _).alloc n! _)
 have X := h! (Box.new w 39 #[.int .i64 sc, .slice A n ca, .slice B m cb])
 go_enter Tryz.func130, Tryz.ntmps130
 go_upto_region 1 with (fail)
 generalize w.alloc (.cells #[.int .i64 sc, .slice A n ca, .slice B m cb] 39) = w1 at HB X ⊢
 generalize w.heap.size = g0 at X ⊢
 obtain ⟨x0, x1, x2⟩ := box_sk X.out
 by_cases hbig : 200 < m
 ·have e : b = false := by
   have := HRB.out
   rcases b with _ | _
   ·rfl
   ·have := (HI.out.1 (this.1 rfl)).1
    omega
  subst e
  have hb1 : (200 : Int) < (m : Int) := by omega
  go_wp2_with fail
  go_ret
  exact ⟨rfl, HB.out⟩
 have hb1 : ¬ ((200 : Int) < (m : Int)) := by omega
 go_wp2_with fail
 clear x0 x1 x2
 go_loopw [12] (fun i wr => ∃ k : Nat, k ≤ m ∧ i = .int .i64 k ∧ Hid (Below w1.heap.size w1 wr) ∧ Hid (∀ j, j < k → ok j)) (fun i _ => m - (intOf i).toNat)
 case atStart => exact ⟨0, by omega, rfl, h! (Below.refl _ _), h! (fun j hj => absurd hj (Nat.not_lt_zero _))⟩
 case round =>
  obtain ⟨k, hk, rfl, HW1, HS⟩ := hrel
  by_cases hlt : k < m
  ·obtain ⟨x, hx⟩ : ∃ x, ds[k]? = some x := ⟨_, List.getElem?_eq_getElem (by have := HL.out; omega)⟩
   have HN1 := h! (HNO.out k x hx)
   have HO1 := h! (HOK.out k x hx)
   obtain ⟨bl, o, rfl, _, hbl, a0, a1⟩ := (H.out _ (bmore HB.out HW1.out n!)).at_ hx
   have hfx := HW.out x (List.mem_of_getElem? hx)
   obtain ⟨x0, x1, x2⟩ := box_sk (X.out.below HW1.out X.out.lt)
   have hk0 : (0 : Int) ≤ (k : Int) := by omega
   have hkn : (k : Int) < (m : Int) := by omega
   have CC1 := h! (fun W => pcheck_any x W hfx)
   have CP1 := h! (fun W => HP.out x.t W)
   obtain ⟨er, her⟩ : ∃ er : Int, er = TM.chk x := ⟨_, rfl⟩
   have HER := h! (show er = if TM.ok x then 0 else 8 by rw [her]; rfl)
   rw [← her] at CC1
   obtain ⟨pb, hpb⟩ : ∃ pb, pb = decide (1 ≤ x.t ∧ x.t ≤ sc) := ⟨_, rfl⟩
   have HPB := h! hpb
   rw [← hpb] at CP1
   clear hx hfx hbl her hpb
   obtain ⟨xt, xi⟩ := x
   unfold vsp at CC1
   simp only at a0 a1 CC1 CP1 HN1 HO1 HPB
   go_upto_region 6 with (fail)
   have bb0 : Below wr.heap.size wr (wr.alloc (.cells #[.int .i64 xt, .int .i64 xi] 46)) := b!
   have HBB := h! (bmore HW1.out bb0 n!)
   have HX0 := h! ((X.out.below HW1.out X.out.lt).alloc (.cells #[.int .i64 xt, .int .i64 xi] 46))
   have HY0 := h! (Box.new wr 46 #[.int .i64 xt, .int .i64 xi])
   clear bb0 a0 a1 x0 x1 x2
   generalize wr.alloc (.cells #[.int .i64 xt, .int .i64 xi] 46) = w3 at HBB HX0 HY0 ⊢
   generalize wr.heap.size = g4 at HY0 ⊢
   obtain ⟨a0, a1⟩ := box_two HY0.out
   go_wp2_with fail
   refine (CC1.out _).mono ?_
   rintro e w4 ⟨rfl, hb⟩
   have HB2 := h! (bmore HBB.out hb n!)
   have HX1 := h! (HX0.out.below hb HX0.out.lt)
   have HY1 := h! (HY0.out.below hb HY0.out.lt)
   clear a0 a1 HX0 HY0 hb CC1
   obtain ⟨x0, x1, x2⟩ := box_sk HX1.out
   obtain ⟨a0, a1⟩ := box_two HY1.out
   by_cases hm : er = 0
   ·subst hm
    have hM : TM.ok ⟨xt, xi⟩ := by
     have := HER.out
     split at this
     ·assumption
     ·exact absurd this (by decide)
    have HM := h! hM
    clear hM
    go_wp2_with fail
    refine (CP1.out _).mono ?_
    rintro e w5 ⟨rfl, hb⟩
    have HB3 := h! (bmore HB2.out hb n!)
    clear a0 a1 x0 x1 x2 hb CP1
    rcases pb with _ | _
    ·have e : b = false := by
      have h1 := HRB.out
      rcases b with _ | _
      ·rfl
      ·exact absurd (h1.1 rfl) (HN1.out fun h2 => by have := HPB.out; simp at this; omega)
     subst e
     go_wp2_with fail
     go_ret
     exact ⟨rfl, bmore HB.out HB3.out n!⟩
    ·have hT : 1 ≤ xt ∧ xt ≤ sc := by have := HPB.out; simpa using this.symm
     have NX := h! (all_next HS.out (HO1.out ⟨HM.out, hT⟩))
     clear hT
     go_wp2_with fail
     go_roundw
     case rel => exact ⟨k + 1, by omega, by go_num, HB3, NX⟩
     case measure => simp [intOf]; omega
   ·have hm1 : er = 8 := by
     have := HER.out
     split at this
     ·exact absurd this hm
     ·exact this
    clear hm
    subst hm1
    have e : b = false := by
     have h1 := HRB.out
     rcases b with _ | _
     ·rfl
     ·exact absurd (h1.1 rfl) (HN1.out fun h2 => by have h3 := HER.out; rw [if_pos h2.1] at h3; exact absurd h3 (by decide))
    subst e
    go_wp2_with fail
    go_ret
    exact ⟨rfl, bmore HB.out HB2.out n!⟩
  ·have hkm : k = m := by omega
   have HALL := h! (show b = TM.rises ds from by
    have h1 := HRB.out
    have h2 := HI.out
    have h3 : ∀ j, j < m → ok j := fun j hj => HS.out j (by omega)
    rcases hr : TM.rises ds with _ | _
    ·rw [hr] at h2
     rcases b with _ | _
     ·rfl
     ·exact absurd (h2.1 (h1.1 rfl)).2.2 (by decide)
    ·exact h1.2 (h2.2 ⟨by omega, h3, hr⟩))
   have CR := h! (fun W (hb : Below w.heap.size w W) => prises_any B m cb ds W (H.out W hb))
   rw [← HALL.out] at CR
   obtain ⟨x0, x1, x2⟩ := box_sk (X.out.below HW1.out X.out.lt)
   go_wp2_with fail
   refine (CR.out _ (bmore HB.out HW1.out n!)).mono ?_
   rintro e w5 ⟨rfl, hb⟩
   have HB3 := h! (bmore (bmore HB.out HW1.out n!) hb n!)
   clear x0 x1 x2 hb CR
   go_wp2_with fail
   go_ret
   exact ⟨rfl, HB3.out⟩
end KP
namespace CP
open Go.RowKit
open CM (Mg Cm)
theorem front_any (A : Option Addr) (n c : Nat) (l : List UInt8) (w : World) (hr : Rd w A n (bc l)) (h1 : n ≤ c) (h2 : c ≤ maxLen) :
  Calls Tryz.prog 100 #[.slice A n c] w (FrontPost w l) := by
 obtain ⟨x1, x2, x3, x4, x5, i, hf⟩ := fl_ex (RM.fk l : Nat)
 have hf2 := hf
 rcases hf2 with ⟨hk, rfl, rfl, rfl, rfl, rfl, rfl⟩ | ⟨hk, rfl, rfl, rfl, rfl, rfl, rfl⟩ | ⟨hk, rfl, rfl, rfl, rfl, rfl, rfl⟩ | ⟨hk, rfl, rfl, rfl, rfl, rfl, rfl⟩ | ⟨hk, rfl, rfl, rfl, rfl, rfl, rfl⟩ | ⟨hk, rfl, rfl, rfl, rfl, rfl, rfl⟩ | ⟨hk, rfl, rfl, rfl, rfl, rfl, rfl⟩ | ⟨hk, rfl, rfl, rfl, rfl, rfl, rfl⟩
 ·exact front_0 A n c l w hr h1 h2 _ hf (by omega)
 ·exact front_1 A n c l w hr h1 h2 _ hf (by omega)
 ·exact front_2 A n c l w hr h1 h2 _ hf (by omega)
 ·exact front_3 A n c l w hr h1 h2 _ hf (by omega)
 ·exact front_4 A n c l w hr h1 h2 _ hf (by omega)
 ·exact front_5 A n c l w hr h1 h2 _ hf (by omega)
 ·exact front_5 A n c l w hr h1 h2 _ hf (by omega)
 ·exact front_0 A n c l w hr h1 h2 _ hf (by omega)
theorem pread_ge {x : Cm} {y : Int} (s : ByteArray) (h : CM.ReadIs (RM.bsz s) x y) (hs : s.size ≤ maxLen) (w : World) :
  Calls Tryz.prog 83 #[.string s] w (RdGe x y w) := by
 have HB := h! (show Below w.heap.size w (w.alloc (.cells #[.int .u8 0, .int .i64 0, .slice none 0 0, .int .i64 0, .string ⟨#[]⟩, .string ⟨#[]⟩, .int .i64 0, .int .i64 0, .slice none 0 0, .int .i64 0, .int .i64 0, .int .i64 0] 91)) from (Below.refl _ _).alloc n! _)
 have R := h! (Box.new w 91 #[.int .u8 0, .int .i64 0, .slice none 0 0, .int .i64 0, .string ⟨#[]⟩, .string ⟨#[]⟩, .int .i64 0, .int .i64 0, .slice none 0 0, .int .i64 0, .int .i64 0, .int .i64 0])
 have hs2 := hs
 unfold maxLen at hs2
 by_cases hl : 1024 < s.size
 ·obtain ⟨rfl, rfl⟩ := CM.readIs_eq h (readIs_long (by rw [RM.bsz_len]; exact hl))
  have hli : (1024 : Int) < (s.size : Int) := by omega
  clear h hs
  obtain ⟨d0, d1, d2, d3, d4, d5, d6, d7, d8, d9, d10, d11⟩ := box_cm R.out
  have g0 := R.out.frozen 0
  have g1 := R.out.frozen 1
  have g2 := R.out.frozen 2
  have g3 := R.out.frozen 3
  have g4 := R.out.frozen 4
  have g5 := R.out.frozen 5
  have g6 := R.out.frozen 6
  have g7 := R.out.frozen 7
  have g8 := R.out.frozen 8
  have g9 := R.out.frozen 9
  have g10 := R.out.frozen 10
  have g11 := R.out.frozen 11
  go_enter Tryz.func83, Tryz.ntmps83
  go_wp2_with fail
  exact bodyPost_ret (v := .tuple #[.agg #[.int .u8 0, .int .i64 0, .slice none 0 0, .int .i64 0, .string ⟨#[]⟩, .string ⟨#[]⟩, .int .i64 0, .int .i64 0, .slice none 0 0, .int .i64 0, .int .i64 0, .int .i64 0], .int .i64 3]) (by simp [results, Tryz.results83, go_sem, d0, d1, d2, d3, d4, d5, d6, d7, d8, d9, d10, d11]; try rfl) rfl ⟨_, rfl, zero_ge _ _, HB.out⟩
 ·obtain ⟨A0, c0, w1, hcv, hR, hc1, hc2, hb1⟩ := conv_ex (w.alloc (.cells #[.int .u8 0, .int .i64 0, .slice none 0 0, .int .i64 0, .string ⟨#[]⟩, .string ⟨#[]⟩, .int .i64 0, .int .i64 0, .slice none 0 0, .int .i64 0, .int .i64 0, .int .i64 0] 91)) s hs
  have HL := h! (show s.size ≤ 1024 by omega)
  have hli : (s.size : Int) ≤ (1024 : Int) := by omega
  have HR := h! hR
  have R1 := h! (R.out.below hb1 R.out.lt)
  have HB1 := h! (bmore HB.out hb1 (by simp))
  have CFr := h! (front_any A0 _ c0 (RM.bsz s) w1 hR hc1 hc2)
  have HF := h! (fr_fit (RM.bsz s))
  have H := h! h
  have HC := h! (fun t e => readIs_fr (s := s) (t := t) (e := e) HL.out)
  obtain ⟨xx, hx⟩ : ∃ xx, xx = fr (RM.bsz s) := ⟨_, rfl⟩
  unfold FrontPost at CFr
  rw [← hx] at CFr HF HC
  clear hb1 hR R HB hc1 hc2 hs h hx
  obtain ⟨k, ⟨mi, mg, mt, mk, mb⟩, aid, atm, ams, atp, awh, an⟩ := xx
  go_enter Tryz.func83, Tryz.ntmps83
  go_wp2_with fail
  refine (CFr.out).mono ?_
  rintro e1 w2 ⟨v, rfl, ⟨A, c, P, q, rfl, r1, r3⟩, hb2⟩
  simp only at r1 r3
  unfold ccells
  have hb3 : Below w2.heap.size w2 (w2.alloc (.cells #[.int .u8 k, .int .i64 mi, .slice A mg.length c, .int .i64 mt, .string mk, .string mb, .int .i64 aid, .int .i64 atm, .slice P ams.length q, .int .i64 atp, .int .i64 awh, .int .i64 an] 91)) := b!
  have R2 := h! ((R1.out.below hb2 R1.out.lt).alloc (.cells #[.int .u8 k, .int .i64 mi, .slice A mg.length c, .int .i64 mt, .string mk, .string mb, .int .i64 aid, .int .i64 atm, .slice P ams.length q, .int .i64 atp, .int .i64 awh, .int .i64 an] 91))
  have B2 := h! (Box.new w2 91 #[.int .u8 k, .int .i64 mi, .slice A mg.length c, .int .i64 mt, .string mk, .string mb, .int .i64 aid, .int .i64 atm, .slice P ams.length q, .int .i64 atp, .int .i64 awh, .int .i64 an])
  have HB2 := h! (bmore (bmore HB1.out hb2 n!) hb3 n!)
  have CW := h! (fun W (hW : Below w2.heap.size w2 W) => pwrite_any ⟨k, ⟨mi, mg, mt, mk, mb⟩, aid, atm, ams, atp, awh, an⟩ (.agg (ccells A c P q ⟨k, ⟨mi, mg, mt, mk, mb⟩, aid, atm, ams, atp, awh, an⟩)) W ⟨A, c, P, q, rfl, (r1.below hW).1, (r3.below hW).1⟩ HF.out)
  have HR1 := h! (fun W (hW : Below w2.heap.size w2 W) => (⟨r1.below hW, r3.below hW⟩ : RowGe W w1.heap.size A c mg ∧ RowGe W w1.heap.size P q ams))
  have HP := h! R1.out.lt
  have HB3 := h! hb3
  unfold ccells at CW
  simp only at CW
  clear hb2 hb3 HR R1 HB1 CFr r1 r3
  go_wp2_with fail
  refine (CW.out _ HB3.out).mono ?_
  rintro e3 w3 ⟨rfl, hb4⟩
  have R3 := h! (R2.out.below hb4 R2.out.lt)
  have B3 := h! (B2.out.below hb4 B2.out.lt)
  have HB4 := h! (bmore HB2.out hb4 n!)
  have HW4 := h! (bmore HB3.out hb4 n!)
  clear hb4 R2 B2 HB2 CW
  generalize w2.heap.size = g at B3 HW4 HR1 HB3 ⊢
  obtain ⟨d0, d1, d2, d3, d4, d5, d6, d7, d8, d9, d10, d11⟩ := box_cm R3.out
  obtain ⟨c0, c1, c2, c3, c4, c5, c6, c7, c8, c9, c10, c11⟩ := box_cm B3.out
  have g0 := R3.out.frozen 0
  have g1 := R3.out.frozen 1
  have g2 := R3.out.frozen 2
  have g3 := R3.out.frozen 3
  have g4 := R3.out.frozen 4
  have g5 := R3.out.frozen 5
  have g6 := R3.out.frozen 6
  have g7 := R3.out.frozen 7
  have g8 := R3.out.frozen 8
  have g9 := R3.out.frozen 9
  have g10 := R3.out.frozen 10
  have g11 := R3.out.frozen 11
  by_cases hm : CM.may ⟨k, ⟨mi, mg, mt, mk, mb⟩, aid, atm, ams, atp, awh, an⟩
  ·rw [if_pos hm, if_pos hm]
   have HT := h! (HC.out ⟨(CM.wr ⟨k, ⟨mi, mg, mt, mk, mb⟩, aid, atm, ams, atp, awh, an⟩).toArray⟩ 0 ⟨by rw [if_pos hm], by rw [if_pos hm]⟩)
   clear hm HC
   generalize (⟨(CM.wr ⟨k, ⟨mi, mg, mt, mk, mb⟩, aid, atm, ams, atp, awh, an⟩).toArray⟩ : ByteArray) = t at HT ⊢
   by_cases hts : t = s
   ·subst hts
    go_wp2_with fail
    obtain ⟨rfl, rfl⟩ := CM.readIs_eq H.out (HT.out.resolve_right (fun h => h.1 (by simp))).2.2
    refine bodyPost_ret (v := .tuple #[.agg #[.int .u8 k, .int .i64 mi, .slice A mg.length c, .int .i64 mt, .string mk, .string mb, .int .i64 aid, .int .i64 atm, .slice P ams.length q, .int .i64 atp, .int .i64 awh, .int .i64 an], .int .i64 0]) (by simp [results, Tryz.results83, go_sem, d0, d1, d2, d3, d4, d5, d6, d7, d8, d9, d10, d11]; try rfl) rfl ⟨_, rfl, ⟨A, c, P, q, rfl, ((HR1.out _ HW4.out).1.put12 HP.out (.int .u8 k) (.int .i64 mi) (.slice A mg.length c) (.int .i64 mt) (.string mk) (.string mb) (.int .i64 aid) (.int .i64 atm) (.slice P ams.length q) (.int .i64 atp) (.int .i64 awh) (.int .i64 an)).mono (Nat.le_of_lt HP.out), ((HR1.out _ HW4.out).2.put12 HP.out (.int .u8 k) (.int .i64 mi) (.slice A mg.length c) (.int .i64 mt) (.string mk) (.string mb) (.int .i64 aid) (.int .i64 atm) (.slice P ams.length q) (.int .i64 atp) (.int .i64 awh) (.int .i64 an)).mono (Nat.le_of_lt HP.out)⟩, put12_below HB4.out n! (.int .u8 k) (.int .i64 mi) (.slice A mg.length c) (.int .i64 mt) (.string mk) (.string mb) (.int .i64 aid) (.int .i64 atm) (.slice P ams.length q) (.int .i64 atp) (.int .i64 awh) (.int .i64 an)⟩
   ·have hne := str_ne hts
    go_wp2_with fail
    obtain ⟨rfl, rfl⟩ := CM.readIs_eq H.out (HT.out.resolve_left (fun h => hts h.2.1)).2
    exact bodyPost_ret (v := .tuple #[.agg #[.int .u8 0, .int .i64 0, .slice none 0 0, .int .i64 0, .string ⟨#[]⟩, .string ⟨#[]⟩, .int .i64 0, .int .i64 0, .slice none 0 0, .int .i64 0, .int .i64 0, .int .i64 0], .int .i64 8]) (by simp [results, Tryz.results83, go_sem, d0, d1, d2, d3, d4, d5, d6, d7, d8, d9, d10, d11]; try rfl) rfl ⟨_, rfl, zero_ge _ _, put12_below HB4.out n! (.int .u8 0) (.int .i64 0) (.slice none 0 0) (.int .i64 0) (.string ⟨#[]⟩) (.string ⟨#[]⟩) (.int .i64 0) (.int .i64 0) (.slice none 0 0) (.int .i64 0) (.int .i64 0) (.int .i64 0)⟩
  ·rw [if_neg hm, if_neg hm]
   have HT := h! (HC.out .empty 120 ⟨by rw [if_neg hm], by rw [if_neg hm]⟩)
   clear hm HC
   go_wp2_with fail
   obtain ⟨rfl, rfl⟩ := CM.readIs_eq H.out (HT.out.resolve_left (fun h => by cases h.1)).2
   exact bodyPost_ret (v := .tuple #[.agg #[.int .u8 0, .int .i64 0, .slice none 0 0, .int .i64 0, .string ⟨#[]⟩, .string ⟨#[]⟩, .int .i64 0, .int .i64 0, .slice none 0 0, .int .i64 0, .int .i64 0, .int .i64 0], .int .i64 8]) (by simp [results, Tryz.results83, go_sem, d0, d1, d2, d3, d4, d5, d6, d7, d8, d9, d10, d11]; try rfl) rfl ⟨_, rfl, zero_ge _ _, put12_below HB4.out n! (.int .u8 0) (.int .i64 0) (.slice none 0 0) (.int .i64 0) (.string ⟨#[]⟩) (.string ⟨#[]⟩) (.int .i64 0) (.int .i64 0) (.slice none 0 0) (.int .i64 0) (.int .i64 0) (.int .i64 0)⟩
end CP
namespace KP
open Go.RowKit CP TP
open CM (Mg Cm)
open TM (Sp)
open KM (Wt Sk)
theorem pcheck15_any (v : Value) (s : Sk) (w : World) (h : SkIs w v s) (hf : SkFit s) : Calls Tryz.prog 101 #[v] w (IsN (if KM.may s then 0 else 8) w) := by
 have HI := h! (KM.may_iff (s := s))
 have HD := h! (dueB_iff (s := s))
 have HBh := h! (behB_iff (s := s))
 have HW := h! (fun h : KM.areWt s => h.1)
 have HDn := h! (fun h : KM.areDn s => h.1)
 obtain ⟨r, hr⟩ : ∃ r : Int, r = if KM.may s then 0 else 8 := ⟨_, rfl⟩
 have HR := h! (show (KM.may s → r = 0) ∧ (¬ KM.may s → r = 8) from ⟨fun h => by rw [hr, if_pos h], fun h => by rw [hr, if_neg h]⟩)
 rw [← hr]
 clear hr
 have C1 := h! (fun W (hb : Below w.heap.size w W) => areWaits_any v s W (h.below hb) hf)
 have C2 := h! (fun W (hb : Below w.heap.size w W) => areDone_any v s W (h.below hb) hf)
 have C3 := h! (fun W (hb : Below w.heap.size w W) => isTwice_any v s W (h.below hb))
 have C4 := h! (fun W (hb : Below w.heap.size w W) => isBehind_any v s W (h.below hb))
 have C5 := h! (fun W (hb : Below w.heap.size w W) => isDue_any v s W (h.below hb))
 obtain ⟨A, ca, B, cb, rfl, r1, d1⟩ := h
 clear r1 d1
 obtain ⟨b1, e1⟩ : ∃ b, b = decide (KM.areWt s) := ⟨_, rfl⟩
 obtain ⟨b2, e2⟩ : ∃ b, b = decide (KM.areDn s) := ⟨_, rfl⟩
 obtain ⟨b3, e3⟩ : ∃ b, b = decide (¬ (KM.ids s).Nodup) := ⟨_, rfl⟩
 obtain ⟨b4, e4⟩ : ∃ b, b = behB s := ⟨_, rfl⟩
 obtain ⟨b5, e5⟩ : ∃ b, b = dueB s := ⟨_, rfl⟩
 rw [← e1] at C1
 rw [← e2] at C2
 rw [← e3] at C3
 rw [← e4] at C4
 rw [← e5] at C5
 have E1 := h! (show b1 = true ↔ KM.areWt s by rw [e1]; simp)
 have E2 := h! (show b2 = true ↔ KM.areDn s by rw [e2]; simp)
 have E3 := h! (show b3 = true ↔ ¬ (KM.ids s).Nodup by rw [e3]; simp)
 have E4 := h! (show b4 = true ↔ KM.behind s by rw [e4]; exact HBh.out)
 have E5 := h! (show b5 = true ↔ KM.due s by rw [e5]; exact HD.out)
 clear e1 e2 e3 e4 e5 hf
 obtain ⟨M, hM⟩ : ∃ M, M = KM.may s := ⟨_, rfl⟩
 rw [← hM] at HI
 have HRM := h! (show (M → r = 0) ∧ (¬ M → r = 8) by rw [hM]; exact HR.out)
 clear hM HR HD HBh
 obtain ⟨sc, ws, ds⟩ := s
 unfold vsk at C1 C2 C3 C4 C5 ⊢
 simp only at HI C1 C2 C3 C4 C5 HW HDn ⊢
 obtain ⟨n, hna⟩ : ∃ n, n = ws.length := ⟨_, rfl⟩
 obtain ⟨m, hmb⟩ : ∃ m, m = ds.length := ⟨_, rfl⟩
 rw [← hna] at C1 C2 C3 C4 C5 HW ⊢
 rw [← hmb] at C1 C2 C3 C4 C5 HDn ⊢
 clear hna hmb
 have HB := h! (show Below w.heap.size w (w.alloc (.cells #[.int .i64 sc, .slice A n ca, .slice B m cb] 39)) from (Below.refl _ _).alloc n! _)
 have X := h! (Box.new w 39 #[.int .i64 sc, .slice A n ca, .slice B m cb])
 go_enter Tryz.func101, Tryz.ntmps101
 go_upto_region 1 with (fail)
 generalize w.alloc (.cells #[.int .i64 sc, .slice A n ca, .slice B m cb] 39) = w1 at HB X ⊢
 generalize w.heap.size = g0 at X ⊢
 obtain ⟨x0, x1, x2⟩ := box_sk X.out
 by_cases k1 : sc < 0
 ·have e : r = 8 := HRM.out.2 (fun h => by have := (HI.out.1 h).1.1; omega)
  subst e
  go_wp2_with fail
  go_ret
  exact ⟨rfl, HB.out⟩
 by_cases k2 : 1073741824 < sc
 ·have e : r = 8 := HRM.out.2 (fun h => by have := (HI.out.1 h).1.2; omega)
  subst e
  go_wp2_with fail
  go_ret
  exact ⟨rfl, HB.out⟩
 have K12 := h! (show 0 ≤ sc ∧ sc ≤ 1073741824 from ⟨by omega, by omega⟩)
 go_wp2_with fail
 refine (C1.out _ HB.out).mono ?_
 rintro e w2 ⟨rfl, hb⟩
 have Hw2 := h! (bmore HB.out hb n!)
 have Xw2 := h! (X.out.below hb X.out.lt)
 clear x0 x1 x2 hb C1
 obtain ⟨x0, x1, x2⟩ := box_sk Xw2.out
 rcases b1 with _ | _
 ·have e : r = 8 := HRM.out.2 (fun h => by have h1 := HI.out.1 h; exact absurd (E1.out.2 h1.2.1) (by decide))
  subst e
  go_wp2_with fail
  go_ret
  exact ⟨rfl, Hw2.out⟩
 have N1 := h! (HW.out (E1.out.1 rfl))
 go_wp2_with fail
 refine (C2.out _ Hw2.out).mono ?_
 rintro e w3 ⟨rfl, hb⟩
 have Hw3 := h! (bmore Hw2.out hb n!)
 have Xw3 := h! (Xw2.out.below hb Xw2.out.lt)
 clear x0 x1 x2 hb C2
 obtain ⟨x0, x1, x2⟩ := box_sk Xw3.out
 rcases b2 with _ | _
 ·have e : r = 8 := HRM.out.2 (fun h => by have h1 := HI.out.1 h; exact absurd (E2.out.2 h1.2.2.1) (by decide))
  subst e
  go_wp2_with fail
  go_ret
  exact ⟨rfl, Hw3.out⟩
 have N2 := h! (HDn.out (E2.out.1 rfl))
 go_wp2_with fail
 refine (C3.out _ Hw3.out N1.out N2.out).mono ?_
 rintro e w4 ⟨rfl, hb⟩
 have Hw4 := h! (bmore Hw3.out hb n!)
 have Xw4 := h! (Xw3.out.below hb Xw3.out.lt)
 clear x0 x1 x2 hb C3
 obtain ⟨x0, x1, x2⟩ := box_sk Xw4.out
 rcases b3 with _ | _
 rotate_left
 ·have e : r = 8 := HRM.out.2 (fun h => by have h1 := HI.out.1 h; exact (E3.out.1 rfl) h1.2.2.2.1)
  subst e
  go_wp2_with fail
  go_ret
  exact ⟨rfl, Hw4.out⟩
 go_wp2_with fail
 refine (C4.out _ Hw4.out).mono ?_
 rintro e w5 ⟨rfl, hb⟩
 have Hw5 := h! (bmore Hw4.out hb n!)
 have Xw5 := h! (Xw4.out.below hb Xw4.out.lt)
 clear x0 x1 x2 hb C4
 obtain ⟨x0, x1, x2⟩ := box_sk Xw5.out
 rcases b4 with _ | _
 ·have e : r = 8 := HRM.out.2 (fun h => by have h1 := HI.out.1 h; exact absurd (E4.out.2 h1.2.2.2.2.1) (by decide))
  subst e
  go_wp2_with fail
  go_ret
  exact ⟨rfl, Hw5.out⟩
 go_wp2_with fail
 refine (C5.out _ Hw5.out).mono ?_
 rintro e w6 ⟨rfl, hb⟩
 have Hw6 := h! (bmore Hw5.out hb n!)
 have Xw6 := h! (Xw5.out.below hb Xw5.out.lt)
 clear x0 x1 x2 hb C5
 obtain ⟨x0, x1, x2⟩ := box_sk Xw6.out
 rcases b5 with _ | _
 rotate_left
 ·have e : r = 8 := HRM.out.2 (fun h => by have h1 := HI.out.1 h; exact h1.2.2.2.2.2 (E5.out.1 rfl))
  subst e
  go_wp2_with fail
  go_ret
  exact ⟨rfl, Hw6.out⟩
 have e : r = 0 := HRM.out.1 (HI.out.2 ⟨K12.out, E1.out.1 (by first | rfl | trivial), E2.out.1 (by first | rfl | trivial), Classical.byContradiction fun h => absurd (E3.out.2 h) (by decide), E4.out.1 (by first | rfl | trivial), fun h => absurd (E5.out.2 h) (by decide)⟩)
 subst e
 go_wp2_with fail
 go_ret
 exact ⟨rfl, Hw6.out⟩
theorem fnl_no {s : Sk} {c : Cm} (h : c.k ≠ 2) : KM.fnl s c = s := by
 unfold KM.fnl
 rcases s.ws[KM.wat s.ws c.id]? with _ | w
 ·rfl
 ·exact if_neg fun q => h q.1
theorem pre_no {s : Sk} {g : Int} {c : Cm} (h : c.k ≠ 1) : KM.pre s g c = s := by
 unfold KM.pre
 exact if_neg fun q => h q.1
def DoQ (w0 : World) (b p : Nat) (S : Sk) (g : Int) (cm : Cm) (vD : Value) (e : Ending) (w' : World) : Prop :=
 (¬ (KM.asg S g cm ∧ KM.full S) ∧ e = .returned (.int .i64 0) ∧ ∃ vW, PtC w0 b p (KM.fnl (KM.pre S g cm) cm).c vW vD (KM.fnl (KM.pre S g cm) cm).ws S.ds w') ∨
  (KM.asg S g cm ∧ KM.full S ∧ e = .returned (.int .i64 9) ∧ ∃ vW, PtC w0 b p S.c vW vD S.ws S.ds w')
theorem pdo15_any (w0 : World) (b p : Nat) (sc : Int) (vW vD : Value) (ws : List Wt) (ds : List Sp) (g : Int) (cm : Cm) (P0 : Option Addr) (q0 : Nat) (Q0 : Option Addr) (u0 : Nat) (W : World)
  (h : PtC w0 b p sc vW vD ws ds W) (hm : ∀ W', Below b w0 W' → RowIs W' P0 q0 cm.m.gs) (hgs : cm.m.gs.length ≤ 17592186044416) (hp : ws.Pairwise fun a b => a.m.id < b.m.id) (hn : ws.length ≤ 200) (hc : 0 ≤ sc ∧ sc ≤ 1073741824) :
  Calls Tryz.prog 86 #[.pointer (some ⟨p, 0, none⟩), .int .i64 g, .agg (ccells P0 q0 Q0 u0 cm)] W (DoQ w0 b p ⟨sc, ws, ds⟩ g cm vD) := by
 obtain ⟨A, n, cw, B, cd, e1, e2, e3⟩ := h.forms
 subst e1 e2
 clear e3 n
 have HT := h! h
 have KA := h! (fun (k : cm.k = 1) W' (t : PtC w0 b p sc (.slice A ws.length cw) (.slice B ds.length cd) ws ds W') => (passign15_any w0 b p sc A ws.length cw B ds.length cd ws ds g cm k P0 q0 W' t hm hgs hp hn hc).mono (R' := fun e w' => (∃ er, e = .returned (.int .i64 er)) ∧ DoQ w0 b p ⟨sc, ws, ds⟩ g cm (.slice B ds.length cd) e w') (fun e w' q => by
  have h2 : cm.k ≠ 2 := by rw [k]; decide
  rcases q with ⟨q1, q2, vW, q3⟩ | q
  ·exact ⟨⟨_, q2⟩, .inl ⟨q1, q2, vW, by rw [fnl_no h2]; exact q3⟩⟩
  ·exact ⟨⟨_, q.2.2.1⟩, .inr q⟩))
 have KF := h! (fun (k : cm.k = 2) W' (t : PtC w0 b p sc (.slice A ws.length cw) (.slice B ds.length cd) ws ds W') => pfinal15_any w0 b p sc A ws.length cw (.slice B ds.length cd) ws ds cm k W' t hp hn)
 have HF2 := h! (fun (k : cm.k ≠ 1) w' vW (t : PtC w0 b p (KM.fnl ⟨sc, ws, ds⟩ cm).c vW (.slice B ds.length cd) (KM.fnl ⟨sc, ws, ds⟩ cm).ws ds w') => show DoQ w0 b p ⟨sc, ws, ds⟩ g cm (.slice B ds.length cd) (.returned (.int .i64 0)) w' from .inl ⟨fun q => k q.1.1, rfl, vW, by rw [pre_no k]; exact t⟩)
 have HF0 := h! (fun (k : cm.k ≠ 1) (k2 : cm.k ≠ 2) w' vW (t : PtC w0 b p sc vW (.slice B ds.length cd) ws ds w') => show DoQ w0 b p ⟨sc, ws, ds⟩ g cm (.slice B ds.length cd) (.returned (.int .i64 0)) w' from .inl ⟨fun q => k q.1.1, rfl, vW, by rw [pre_no k, fnl_no k2]; exact t⟩)
 obtain ⟨QQ, hQQ⟩ : ∃ QQ, QQ = DoQ w0 b p ⟨sc, ws, ds⟩ g cm (.slice B ds.length cd) := ⟨_, rfl⟩
 rw [← hQQ] at KA HF2 HF0 ⊢
 obtain ⟨S2, hS2⟩ : ∃ S2, S2 = KM.fnl ⟨sc, ws, ds⟩ cm := ⟨_, rfl⟩
 rw [← hS2] at KF HF2
 clear hQQ hS2 h hm hgs hp hn hc
 obtain ⟨ck, ⟨ai, ag, at_, ak, ab⟩, bid, btm, bms, btp, bwh, bn⟩ := cm
 unfold ccells
 unfold mcells at KA
 simp only at KA KF HF2 HF0 ⊢
 have HB := h! (show Below W.heap.size W (W.alloc (.cells #[.int .u8 ck, .int .i64 ai, .slice P0 ag.length q0, .int .i64 at_, .string ak, .string ab, .int .i64 bid, .int .i64 btm, .slice Q0 bms.length u0, .int .i64 btp, .int .i64 bwh, .int .i64 bn] 91)) from (Below.refl _ _).alloc n! _)
 have Y := h! (Box.new W 91 #[.int .u8 ck, .int .i64 ai, .slice P0 ag.length q0, .int .i64 at_, .string ak, .string ab, .int .i64 bid, .int .i64 btm, .slice Q0 bms.length u0, .int .i64 btp, .int .i64 bwh, .int .i64 bn])
 go_enter Tryz.func86, Tryz.ntmps86
 go_upto_region 1 with (fail)
 replace HT := h! (HT.out.below HB.out)
 generalize W.alloc (.cells #[.int .u8 ck, .int .i64 ai, .slice P0 ag.length q0, .int .i64 at_, .string ak, .string ab, .int .i64 bid, .int .i64 btm, .slice Q0 bms.length u0, .int .i64 btp, .int .i64 bwh, .int .i64 bn] 91) = w1 at HB Y HT ⊢
 generalize W.heap.size = g5 at Y ⊢
 have y0 := Y.out.cell 0
 have y1 := Y.out.cell 1
 have y2 := Y.out.cell 2
 have y3 := Y.out.cell 3
 have y4 := Y.out.cell 4
 have y5 := Y.out.cell 5
 have y6 := Y.out.cell 6
 have y7 := Y.out.cell 7
 simp at y0 y1 y2 y3 y4 y5 y6 y7
 by_cases k1 : ck = 1
 ·have CA := h! (KA.out k1 w1 HT.out)
  subst k1
  go_wp2_with fail
  refine (CA.out).mono ?_
  rintro e w2 ⟨⟨er, rfl⟩, hq⟩
  have HQ := h! hq
  clear hq CA y0 y1 y2 y3 y4 y5 y6 y7
  go_wp2_with fail
  exact HQ.out
 by_cases k2 : ck = 2
 ·have CF := h! (KF.out k2 w1 HT.out)
  have HE := h! (HF2.out k1)
  subst k2
  go_wp2_with fail
  refine (CF.out).mono ?_
  rintro e w2 ⟨rfl, hq⟩
  have HQ := h! hq
  clear hq CF y0 y1 y2 y3 y4 y5 y6 y7
  go_wp2_with fail
  exact HE.out _ _ HQ.out
 have HE := h! (HF0.out k1 k2)
 have j1 : (ck == 1) = false := by simpa using k1
 have j2 : (ck == 2) = false := by simpa using k2
 go_wp2_with fail
 exact HE.out _ _ HT.out
end KP
end Go.Proofs.YteebeiaokfenmaaGreat
