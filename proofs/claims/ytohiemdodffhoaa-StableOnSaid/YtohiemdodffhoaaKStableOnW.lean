/-
  The walk of StableOn: what some texts make, and then others' records, is what all texts make; over contracts of the program's functions. Conditions: any number, two lists of texts.
-/
import Derived.Test.YtohiemdodffhoaaKStableReplaysW
import Derived.Test.YtohiemdodffhoaaRecRd
namespace Go.Proofs.Ytohiemdodffhoaa.SP
open Go.RowKit
open SM (Sn Sb Vo)
set_option linter.unusedVariables false
set_option linter.unusedSimpArgs false
set_option maxRecDepth 100000

/-- a variable that holds one, its rows of their types -/
structure OnV (w : World) (g : Nat) (A : Option Addr) (c : Nat) (B : Option Addr) (d : Nat) (y : Sb) : Prop where
  bx : Box w g 25 #[.slice A y.logs.length c, .slice B y.votes.length d]
  st : StTy w (.agg #[.slice A y.logs.length c, .slice B y.votes.length d]) y
theorem OnV.below {w w' : World} {g : Nat} {A : Option Addr} {c : Nat} {B : Option Addr} {d : Nat} {y : Sb} (h : OnV w g A c B d y) (hb : Below w.heap.size w w') : OnV w' g A c B d y := ⟨h.bx.below hb h.bx.lt, h.st.below hb⟩
theorem onv_new {w : World} {A : Option Addr} {c : Nat} {B : Option Addr} {d : Nat} {y : Sb} (h : StTy w (.agg #[.slice A y.logs.length c, .slice B y.votes.length d]) y) :
    OnV (w.alloc (.cells #[.slice A y.logs.length c, .slice B y.votes.length d] 25)) w.heap.size A c B d y := ⟨Box.new _ _ _, h.below ((Below.refl _ _).alloc (Nat.le_refl _) _)⟩
theorem OnV.store {w : World} {g q : Nat} {A F : Option Addr} {c f : Nat} {B G : Option Addr} {d h : Nat} {y z : Sb} (H : OnV w g A c B d y) (K : OnV w q F f G h z) (hq : q ≠ g) {A' B' : Option Addr} {c' d' : Nat} {y' : Sb} (hs : StTy w (.agg #[.slice A' y'.logs.length c', .slice B' y'.votes.length d']) y') :
    OnV ((w.setCell ⟨g, 0, none⟩ (.slice A' y'.logs.length c')).setCell ⟨g, 1, none⟩ (.slice B' y'.votes.length d')) g A' c' B' d' y' ∧ OnV ((w.setCell ⟨g, 0, none⟩ (.slice A' y'.logs.length c')).setCell ⟨g, 1, none⟩ (.slice B' y'.votes.length d')) q F f G h z := by
  have b1 := H.bx.stored 0 (.slice A' y'.logs.length c')
  have k2 : Kept isSt w ((w.setCell ⟨g, 0, none⟩ (.slice A' y'.logs.length c')).setCell ⟨g, 1, none⟩ (.slice B' y'.votes.length d')) := (Kept.set (S := isSt) H.bx rfl _).trans (Kept.set (S := isSt) b1 rfl _)
  exact ⟨⟨by simpa using b1.stored 1 (.slice B' y'.votes.length d'), hs.kept k2 (by unfold isSt; decide) (by unfold isSt; decide) (by unfold isSt; decide)⟩,
    ⟨(K.bx.far (p := ⟨g, 0, none⟩) (by show q ≠ g; exact hq) _).far (p := ⟨g, 1, none⟩) (by show q ≠ g; exact hq) _, K.st.kept k2 (by unfold isSt; decide) (by unfold isSt; decide) (by unfold isSt; decide)⟩⟩
/-- what the loop keeps -/
def OnI (n : Int) (l m : List ByteArray) (k : Nat) (e : Int) (y : Sb) : Prop := (e = 0 ∧ SM.replayF n (tb (l ++ m)) = SM.runF y (tb (m.drop k))) ∨ (e ≠ 0 ∧ (SM.replayF n (tb (l ++ m))).2 ≠ 0)
theorem on_start {n : Int} {l m : List ByteArray} (h : l.length + m.length ≤ 65536) : OnI n l m 0 (SM.replayF n (tb l)).2 (SM.replayF n (tb l)).1 := by
  have ht : tb (l ++ m) = tb l ++ tb m := by unfold tb; rw [List.map_append]
  have hr := SM.replay_append (n := n) (l := tb l) (m := tb m) (by rw [tb_len, tb_len]; exact h)
  unfold OnI
  rw [ht, hr]
  by_cases h1 : (SM.replayF n (tb l)).2 ≠ 0
  · rw [if_pos h1]; exact .inr ⟨h1, h1⟩
  · rw [if_neg h1]; exact .inl ⟨Classical.not_not.1 h1, by simp⟩
theorem on_step {n : Int} {l m : List ByteArray} {k : Nat} {y : Sb} {t : ByteArray} (h : OnI n l m k 0 y) (ht : m[k]? = some t) :
    (RM.read (RM.bsz t) = none → ∀ z, OnI n l m (k + 1) 8 z) ∧ (∀ r, RM.read (RM.bsz t) = some r → OnI n l m (k + 1) (SM.appF y r).2 (SM.appF y r).1) := by
  rcases h with ⟨_, h⟩ | ⟨h, _⟩
  · rw [run_drop ht y] at h
    constructor
    · intro hn z
      rw [hn] at h
      exact .inr ⟨by decide, by rw [h]; exact (show ¬ (8 : Int) = 0 by decide)⟩
    · intro r hr
      rw [hr] at h
      simp only at h
      by_cases h2 : (SM.appF y r).2 ≠ 0
      · rw [if_pos h2] at h
        exact .inr ⟨h2, by rw [h]; exact h2⟩
      · rw [if_neg h2] at h
        exact .inl ⟨Classical.not_not.1 h2, h⟩
  · exact absurd rfl h
theorem run_may : ∀ (l : List (List UInt8)) (x : Sb), SM.may x → (SM.runF x l).2 = 0 → SM.may (SM.runF x l).1
  | [], x, h, _ => h
  | t :: l, x, h, h2 => by
    rw [SM.runF] at h2 ⊢
    rcases hr : RM.read t with _ | r
    · rw [hr] at h2; exact absurd h2 (show ¬ (8 : Int) = 0 by decide)
    · rw [hr] at h2
      simp only at h2 ⊢
      by_cases h3 : (SM.appF x r).2 ≠ 0
      · rw [if_pos h3] at h2; exact absurd h2 h3
      · rw [if_neg h3] at h2 ⊢
        exact run_may l _ (SM.done_may (SM.app_done (Classical.not_not.1 h3))) h2
theorem run_zero : ∀ (l : List (List UInt8)) (x : Sb), (SM.runF x l).2 ≠ 0 → (SM.runF x l).1 = SM.zero
  | [], x, h => absurd rfl h
  | t :: l, x, h => by
    rw [SM.runF] at h ⊢
    rcases hr : RM.read t with _ | r
    · rfl
    · rw [hr] at h
      simp only at h ⊢
      by_cases h3 : (SM.appF x r).2 ≠ 0
      · rw [if_pos h3]
      · rw [if_neg h3] at h ⊢
        exact run_zero l _ h
theorem on_may {n : Int} {l : List (List UInt8)} (h : (SM.replayF n l).2 = 0) : SM.may (SM.replayF n l).1 := by
  unfold SM.replayF at h ⊢
  by_cases h1 : (SM.newF n).2 ≠ 0
  · rw [if_pos h1] at h; exact absurd h h1
  · rw [if_neg h1] at h ⊢
    by_cases h2 : 65536 < l.length
    · rw [if_pos h2] at h; exact absurd h (show ¬ (4 : Int) = 0 by decide)
    · rw [if_neg h2] at h ⊢
      refine run_may l _ ?_ h
      have h0 : (SM.newF n).2 = 0 := Classical.not_not.1 h1
      unfold SM.newF at h0 ⊢
      by_cases h1 : n < 1 ∨ 4 < n
      · rw [if_pos h1] at h0; exact absurd h0 (by decide)
      · rw [if_neg h1]
        refine ⟨⟨by simp; omega, by simp; omega⟩, fun l hl => ?_, fun v hv => (by cases hv), rfl⟩
        rw [List.eq_of_mem_replicate hl]
        exact ⟨by simp, fun v hv => (by cases hv)⟩
theorem on_zero {n : Int} {l : List (List UInt8)} (h : ¬ (SM.replayF n l).2 = 0) : (SM.replayF n l).1 = SM.zero := by
  unfold SM.replayF at h ⊢
  by_cases h1 : (SM.newF n).2 ≠ 0
  · rw [if_pos h1]
  · rw [if_neg h1] at h ⊢
    by_cases h2 : 65536 < l.length
    · rw [if_pos h2]
    · rw [if_neg h2] at h ⊢
      exact run_zero l _ h
theorem tc_app (l m : List ByteArray) : tc (l ++ m) = tc l ++ tc m := tc_append l m
set_option maxHeartbeats 32000000 in
theorem stableOn_of (NP : NewP) (AP : AppP) (TP : AtP) (PR : RepP) (EP : SamP) (n : Int) (C : Option Addr) (ln cc : Nat) (l : List ByteArray) (D : Option Addr) (mn dd : Nat) (m : List ByteArray) (w : World) (hl : TxArg w C ln cc l) (hm : TxArg w D mn dd m) :
    Calls Try.prog 8 #[.int .i64 n, .slice C ln cc, .slice D mn dd] w fun e w' => e = .returned (.bool true) ∧ Below w.heap.size w w' := by
  obtain ⟨rfl, hrd, hlc, hcm, hsz⟩ := hl
  obtain ⟨rfl, hrd2, hlc2, hcm2, hsz2⟩ := hm
  obtain ⟨i0, hi, hz0, hz1, hz2⟩ := info_parts info_str
  have HRL := Lib.hid hrd
  have HRM := Lib.hid hrd2
  have HSL := Lib.hid hsz
  have HSM := Lib.hid hsz2
  have HLL := Lib.hid (Nat.le_trans hlc hcm)
  have HLM := Lib.hid (Nat.le_trans hlc2 hcm2)
  unfold maxLen at hcm hcm2
  clear hrd hrd2 hsz hsz2
  go_enter Try.func8, Try.ntmps8
  go_wp2_with fail
  refine (alive_any NP AP TP w).mono ?_
  rintro e w1 ⟨rfl, hb⟩
  have HB := Lib.hid hb
  clear hb
  by_cases h60 : 60 < l.length
  · have t1 : decide ((60 : Int) < (l.length : Int)) = true := by rw [decide_eq_true_iff]; omega
    go_wp2_with fail
    go_ret
    exact ⟨rfl, HB.out⟩
  have t1 : decide ((60 : Int) < (l.length : Int)) = false := by rw [decide_eq_false_iff_not]; omega
  by_cases h61 : 60 < m.length
  · have t2 : decide ((60 : Int) < (m.length : Int)) = true := by rw [decide_eq_true_iff]; omega
    go_wp2_with fail
    go_ret
    exact ⟨rfl, HB.out⟩
  have t2 : decide ((60 : Int) < (m.length : Int)) = false := by rw [decide_eq_false_iff_not]; omega
  go_wp2_with fail
  refine (great_texts C cc l w1 (HRL.out.below HB.out) HSL.out HLL.out).mono ?_
  rintro e w2 ⟨gl, rfl, hb⟩
  replace HB := Lib.hid (bmore HB.out hb (Nat.le_refl _))
  clear hb
  rcases gl with _ | _
  rotate_left
  · go_wp2_with fail
    go_ret
    exact ⟨rfl, HB.out⟩
  go_wp2_with fail
  refine (great_texts D dd m w2 (HRM.out.below HB.out) HSM.out HLM.out).mono ?_
  rintro e w3 ⟨gl, rfl, hb⟩
  replace HB := Lib.hid (bmore HB.out hb (Nat.le_refl _))
  clear hb
  rcases gl with _ | _
  rotate_left
  · go_wp2_with fail
    go_ret
    exact ⟨rfl, HB.out⟩
  have HS := Lib.hid (on_start (n := n) (l := l) (m := m) (by omega))
  go_wp2_with fail
  refine (PR n C l.length cc l w3 (HRL.out.below HB.out) HSL.out HLL.out).mono ?_
  rintro e w4 ⟨v4, rfl, hst, hb⟩
  obtain ⟨y0, hy0⟩ : ∃ y0, y0 = (SM.replayF n (tb l)).1 := ⟨_, rfl⟩
  obtain ⟨e0, he0⟩ : ∃ e0, e0 = (SM.replayF n (tb l)).2 := ⟨_, rfl⟩
  rw [← hy0] at hst HS
  rw [← he0] at HS ⊢
  obtain ⟨A1, c1, B1, d1, rfl⟩ := ty_slices hst
  have HFY := Lib.hid (show Fit y0 by
    by_cases h0 : (SM.replayF n (tb l)).2 = 0
    · rw [hy0]; exact fit_may (on_may h0)
    · rw [hy0, on_zero h0]; exact fit_zero)
  replace HB := Lib.hid (bmore HB.out hb (Nat.le_refl _))
  clear hb hy0 he0
  have V0 := Lib.hid (onv_new hst)
  have HB4 := Lib.hid (show Below w4.heap.size w4 (w4.alloc (.cells #[.slice A1 y0.logs.length c1, .slice B1 y0.votes.length d1] 25)) from (Below.refl _ _).alloc (Nat.le_refl _) _)
  have HSG := Lib.hid (show w4.heap.size < (w4.alloc (.cells #[.slice A1 y0.logs.length c1, .slice B1 y0.votes.length d1] 25)).heap.size by simp)
  clear hst
  go_upto_region 7 with (fail)
  generalize w4.alloc (.cells #[.slice A1 y0.logs.length c1, .slice B1 y0.votes.length d1] 25) = w5 at V0 HB4 HSG ⊢
  obtain ⟨g1, hg1⟩ : ∃ g1, g1 = w4.heap.size := ⟨_, rfl⟩
  rw [← hg1] at V0 HSG
  simp only [← hg1]
  have HG1 := Lib.hid hg1
  clear hg1
  have HB45 := Lib.hid (bmore HB.out HB4.out (Nat.le_refl _))
  go_wp2_with (at_builtin; first
    | (refine wpList_append_g _ rfl _ _ 32 rfl w5.heap.size 9 i0 _ 1 16 Try.underlying32 hi hz0 hz1 hz2 rfl (by omega) (.slice none 0 0) 0 [] rfl (World.ownsRow_nil _ _ _ _) C l.length cc (tc l) rfl (HRL.out.below HB45.out).g (tc_one _) (by unfold maxLen; omega) (by omega) (Nat.le_refl _) ?_; intro va wa oa ga hob; simp only [Nat.zero_add, List.nil_append] at oa; obtain ⟨Fa, fa, rfl, _, _⟩ := own_form oa; have OA := Lib.hid oa; have hba : Below w5.heap.size w5 wa := below_of_grown ga (by intro q h; cases h); have HBA := Lib.hid hba; clear oa ga hob hba)
    | (refine wpList_append_g _ rfl _ _ 32 rfl w5.heap.size 9 i0 _ 1 16 Try.underlying32 hi hz0 hz1 hz2 rfl (by omega) (.slice Fa l.length fa) l.length (tc l) rfl OA.out D m.length dd (tc m) rfl (HRM.out.below (bmore HB45.out HBA.out (Nat.le_refl _))).g (tc_one _) (by unfold maxLen; omega) (by omega) HBA.out.size ?_; intro vb wb ob gb hob; obtain ⟨Fb, fb, rfl, hfb1, hfb2⟩ := own_form ob; have OB := Lib.hid ob; have HBB := Lib.hid (below_row HBA.out OA.out HBA.out.size gb); have HFB := Lib.hid (And.intro hfb1 hfb2); clear ob gb hob hfb1 hfb2))
  have hlm : (l ++ m).length = l.length + m.length := List.length_append
  have CR := Lib.hid (PR n Fb (l.length + m.length) fb (l ++ m) wb (by rw [tc_app]; exact Rd.of_own OB.out) (fun v hv => by rcases List.mem_append.1 hv with h | h; exact HSL.out v h; exact HSM.out v h) (by unfold maxLen; omega))
  clear hlm
  refine (CR.out).mono ?_
  rintro e w6 ⟨v6, rfl, hst, hb⟩
  obtain ⟨yA, hyA⟩ : ∃ yA, yA = (SM.replayF n (tb (l ++ m))).1 := ⟨_, rfl⟩
  obtain ⟨eA, heA⟩ : ∃ eA, eA = (SM.replayF n (tb (l ++ m))).2 := ⟨_, rfl⟩
  have HYA := Lib.hid (And.intro hyA heA)
  rw [← hyA] at hst
  rw [← heA]
  obtain ⟨A3, c3, B3, d3, rfl⟩ := ty_slices hst
  have hb56 : Below w5.heap.size w5 w6 := HBB.out.trans (hb.mono HBB.out.size)
  have V1 := Lib.hid (onv_new hst)
  have hba : Below w6.heap.size w6 (w6.alloc (.cells #[.slice A3 yA.logs.length c3, .slice B3 yA.votes.length d3] 25)) := (Below.refl _ _).alloc (Nat.le_refl _) _
  have hb57 := bmore hb56 hba (Nat.le_refl _)
  have HNE := Lib.hid (show w6.heap.size ≠ g1 by have := HSG.out; have := hb56.size; omega)
  have HB7 := Lib.hid (bmore HB4.out hb57 (Nat.le_refl _))
  replace V0 := Lib.hid (V0.out.below hb57)
  clear hst hb hb56 hba hb57 hyA heA CR OA OB HBA HBB HFB HB45
  go_upto_region 8 with (fail)
  generalize w6.alloc (.cells #[.slice A3 yA.logs.length c3, .slice B3 yA.votes.length d3] 25) = w7 at V0 V1 HB7 ⊢
  generalize w6.heap.size = g2 at V1 HNE ⊢
  go_wp2_with fail
  go_loopw [9, 12] (fun ev i wr => ∃ (k : Nat) (e : Int) (y : Sb) (A2 : Option Addr) (c2 : Nat) (B2 : Option Addr) (d2 : Nat), k ≤ m.length ∧ ev = .int .i64 e ∧ i = .int .i64 k ∧ Hid (Below w4.heap.size w4 wr) ∧ Hid (OnV wr g1 A2 c2 B2 d2 y) ∧ Hid (OnV wr g2 A3 c3 B3 d3 yA) ∧ Hid (Fit y) ∧ Hid (OnI n l m k e y)) (fun _ i _ => m.length - (intOf i).toNat)
  case atStart => exact ⟨0, e0, y0, A1, c1, B1, d1, Nat.zero_le _, rfl, rfl, HB7, V0, V1, HFY, HS⟩
  case round =>
    clear V0 V1 HB7 HFY HS
    obtain ⟨k, e, y, A2, c2, B2, d2, hk, rfl, rfl, HW, V0, V1, HFY, HI⟩ := hrel
    by_cases he : e = 0
    · subst he
      by_cases hlt : k < m.length
      · have tk : decide ((k : Int) < (m.length : Int)) = true := by rw [decide_eq_true_iff]; omega
        obtain ⟨t, ht⟩ : ∃ t, m[k]? = some t := ⟨_, List.getElem?_eq_getElem hlt⟩
        have hrm := HRM.out.below (bmore HB.out HW.out (Nat.le_refl _))
        obtain ⟨ad, hA, _, q1⟩ := rd_text hrm ht
        have hts := HSM.out t (List.mem_of_getElem? ht)
        have CR := Lib.hid (fun w => RP.read_any t (RM.readIs_read (RM.bsz t)) hts w)
        have HSTEP := Lib.hid (on_step HI.out ht)
        have hk0 : (0 : Int) ≤ (k : Int) := by omega
        have hkn : (k : Int) < (m.length : Int) := by omega
        subst hA
        clear ht hts hrm
        go_wp2_with fail
        clear q1
        refine (CR.out _).mono ?_
        rintro e1 w8 ⟨rfl, hb⟩
        replace HW := Lib.hid (HW.out.trans (hb.mono HW.out.size))
        replace V0 := Lib.hid (V0.out.below hb)
        replace V1 := Lib.hid (V1.out.below hb)
        clear hb CR
        obtain ⟨r, hr⟩ : ∃ r, r = (RM.read (RM.bsz t)).getD RM.zero := ⟨_, rfl⟩
        obtain ⟨z, hz⟩ : ∃ z : Int, z = if (RM.read (RM.bsz t)).isSome then 0 else 8 := ⟨_, rfl⟩
        rw [← hr, ← hz]
        have HRF := Lib.hid (show RcFit r by
          rcases hrd : RM.read (RM.bsz t) with _ | q
          · rw [hr, hrd]; unfold RcFit; decide
          · have h1 := RM.readIs_read (RM.bsz t)
            rw [hrd] at h1
            rcases h1 with ⟨_, h1, _⟩ | ⟨h1, _⟩
            · rw [hr, hrd]
              have hv := RM.may_v h1
              have hbb := RM.may_b h1
              exact ⟨by unfold maxLen; simp only [Option.getD_some] at hv ⊢; omega, by omega, by omega⟩
            · simp at h1)
        have HNX := Lib.hid (show (z = 8 ∧ ∀ y', OnI n l m (k + 1) 8 y') ∨ (z = 0 ∧ OnI n l m (k + 1) (SM.appF y r).2 (SM.appF y r).1) by
          rcases hrd : RM.read (RM.bsz t) with _ | q
          · exact .inl ⟨by rw [hz, hrd]; rfl, HSTEP.out.1 hrd⟩
          · exact .inr ⟨by rw [hz, hrd]; rfl, by rw [hr, hrd]; exact HSTEP.out.2 q hrd⟩)
        clear hr hz HSTEP
        obtain ⟨rk, rg, rs, rb, rv⟩ := r
        obtain ⟨q, hq⟩ : ∃ q, q = SM.appF y ⟨rk, rg, rs, rb, rv⟩ := ⟨_, rfl⟩
        have HF2 := Lib.hid (fit_app y ⟨rk, rg, rs, rb, rv⟩)
        have CA := Lib.hid (fun (W : World) (h : StIs W (.agg #[.slice A2 y.logs.length c2, .slice B2 y.votes.length d2]) y) => AP _ y rk rg rs rb rv W h HFY.out HRF.out.1 HRF.out.2.1 HRF.out.2.2)
        unfold AppPost at CA
        rw [← hq] at HNX HF2
        simp only [← hq] at CA
        clear hq HRF
        obtain ⟨y2, e2⟩ := q
        simp only at HNX HF2 CA ⊢
        have hba : Below w8.heap.size w8 (w8.alloc (.cells #[.int .u8 rk, .int .i64 rg, .int .i64 rs, .int .i64 rb, .string rv] 29)) := (Below.refl _ _).alloc (Nat.le_refl _) _
        have RB := Lib.hid (Box.new w8 29 #[.int .u8 rk, .int .i64 rg, .int .i64 rs, .int .i64 rb, .string rv])
        replace HW := Lib.hid (HW.out.trans (hba.mono HW.out.size))
        replace V0 := Lib.hid (V0.out.below hba)
        replace V1 := Lib.hid (V1.out.below hba)
        clear hba
        go_upto_region 12 with (fail)
        generalize w8.alloc (.cells #[.int .u8 rk, .int .i64 rg, .int .i64 rs, .int .i64 rb, .string rv] 29) = w9 at HW V0 V1 RB ⊢
        generalize w8.heap.size = gr at RB ⊢
        obtain ⟨r0, r1, r2, r3, r4⟩ := five_box RB.out
        obtain ⟨s0, s1, _, _⟩ := V0.out.bx.two
        go_wp2_with fail
        clear r0 r1 r2 r3 r4 s0 s1 RB
        refine (CA.out _ V0.out.st.is).mono ?_
        rintro e3 w10 ⟨v10, rfl, hst, hb⟩
        obtain ⟨A4, c4, B4, d4, rfl⟩ := ty_slices hst
        have hba : Below w10.heap.size w10 (w10.alloc (.cells #[.slice A4 y2.logs.length c4, .slice B4 y2.votes.length d4] 25)) := (Below.refl _ _).alloc (Nat.le_refl _) _
        have hb2 := bmore hb hba (Nat.le_refl _)
        have VX := Lib.hid (onv_new hst)
        replace HW := Lib.hid (HW.out.trans (hb2.mono HW.out.size))
        replace V0 := Lib.hid (V0.out.below hb2)
        replace V1 := Lib.hid (V1.out.below hb2)
        clear hba hb2 hb hst CA
        go_upto_region 13 with (fail)
        generalize w10.alloc (.cells #[.slice A4 y2.logs.length c4, .slice B4 y2.votes.length d4] 25) = w11 at HW V0 V1 VX ⊢
        generalize w10.heap.size = gx at VX ⊢
        obtain ⟨x0, x1, _, _⟩ := VX.out.bx.two
        obtain ⟨s0, s1, f0, f1⟩ := V0.out.bx.two
        have ST := Lib.hid (V0.out.store V1.out HNE.out VX.out.st)
        have HWN := Lib.hid ((HW.out.setCell (p := ⟨g1, 0, none⟩) (by show _ ≤ g1; have := HG1.out; omega) (.slice A4 y2.logs.length c4)).setCell (p := ⟨g1, 1, none⟩) (by show _ ≤ g1; have := HG1.out; omega) (.slice B4 y2.votes.length d4))
        have HV0 := Lib.hid ST.out.1
        have HV1 := Lib.hid ST.out.2
        clear ST VX V0 V1
        rcases HNX.out with ⟨hz8, hno⟩ | ⟨hz0', hno⟩
        · have tz : (z != 0) = true := by rw [hz8]; decide
          subst hz8
          have HN := Lib.hid (hno y2)
          clear hno HNX
          go_wp2_with fail
          go_roundw
          case rel => exact ⟨k + 1, 8, y2, A4, c4, B4, d4, by omega, rfl, by go_num, HWN, HV0, HV1, HF2, HN⟩
          case measure => simp [intOf]; omega
        · subst hz0'
          have HN := Lib.hid hno
          clear hno HNX
          go_wp2_with fail
          go_roundw
          case rel => exact ⟨k + 1, e2, y2, A4, c4, B4, d4, by omega, rfl, by go_num, HWN, HV0, HV1, HF2, HN⟩
          case measure => simp [intOf]; omega
      · have tk : decide ((k : Int) < (m.length : Int)) = false := by rw [decide_eq_false_iff_not]; omega
        have hall : SM.replayF n (tb (l ++ m)) = (y, 0) := by
          rcases HI.out with ⟨_, h⟩ | ⟨h, _⟩
          · rw [h, List.drop_of_length_le (by omega)]; rfl
          · exact absurd rfl h
        obtain ⟨hyA, heA⟩ := HYA.out
        rw [hall] at hyA heA
        simp only at hyA heA
        subst hyA
        subst heA
        obtain ⟨s0, s1, _, _⟩ := V0.out.bx.two
        obtain ⟨p0, p1, _, _⟩ := V1.out.bx.two
        clear hall
        go_wp2_with fail
        clear s0 s1 p0 p1
        refine (same_self EP V0.out.st.is V1.out.st.is HFY.out).mono ?_
        rintro e3 w8 ⟨rfl, hb⟩
        replace HW := Lib.hid (HW.out.trans (hb.mono HW.out.size))
        clear hb
        go_wp2_with fail
        go_ret
        exact ⟨rfl, bmore HB.out HW.out (Nat.le_refl _)⟩
    · have heb : (e == 0) = false := by simpa using he
      have hen : (e != 0) = true := by simpa using he
      have hne : eA ≠ 0 := by
        rcases HI.out with ⟨h, _⟩ | ⟨_, h⟩
        · exact absurd h he
        · rw [HYA.out.2]; exact h
      have hnb : (eA != 0) = true := by simpa using hne
      clear he hne
      by_cases hlt : k < m.length
      · have tk : decide ((k : Int) < (m.length : Int)) = true := by rw [decide_eq_true_iff]; omega
        go_wp2_with fail
        go_ret
        exact ⟨rfl, bmore HB.out HW.out (Nat.le_refl _)⟩
      · have tk : decide ((k : Int) < (m.length : Int)) = false := by rw [decide_eq_false_iff_not]; omega
        go_wp2_with fail
        go_ret
        exact ⟨rfl, bmore HB.out HW.out (Nat.le_refl _)⟩
end Go.Proofs.Ytohiemdodffhoaa.SP
