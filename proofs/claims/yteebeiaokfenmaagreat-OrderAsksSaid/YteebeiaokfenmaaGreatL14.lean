/- Contracts of functions, L14: each as its theorem says. -/
import Derived.Test.YteebeiaokfenmaaGreatL10
import Derived.Test.YteebeiaokfenmaaGreatL06
set_option linter.unusedVariables false
set_option linter.unusedSimpArgs false
set_option maxRecDepth 100000
set_option maxHeartbeats 16000000
namespace Go.Proofs.YteebeiaokfenmaaGreat
section
open Go.RowKit
def intsOf (xs : List Nat) : List Int := xs.map Int.ofNat
theorem intsOf_snoc (xs : List Nat) (x : Nat) : intsOf (xs ++ [x]) = intsOf xs ++ [(x : Int)] := by simp [intsOf]
def GetIntsPost (w : World) (o : Option (List Nat × Nat)) (e : Ending) (w' : World) : Prop :=
 Below w.heap.size w w' ∧ ((o = none ∧ e = .returned (.tuple #[.slice none 0 0, .int .i64 0, .int .i64 8])) ∨
  ∃ xs k v, o = some (xs, k) ∧ e = .returned (.tuple #[v, .int .i64 (k : Int), .int .i64 0]) ∧ w'.ownsRow w.heap.size 3 1 v xs.length (ic (intsOf xs)))
def GetIntsAt (w : World) (l : List UInt8) (o : Option (List Nat × Nat)) (m n i at_ : Nat) (u : Value) (wr : World) (pre : List Nat) : Prop :=
 pre.length = i ∧ i ≤ m ∧ at_ ≤ n ∧ NM.liftB pre at_ (NM.getBody (m - i) (l.drop at_)) = o ∧ wr.ownsRow w.heap.size 3 1 u i (ic (intsOf pre)) ∧ Below w.heap.size w wr
def GetIntsRel (w : World) (l : List UInt8) (o : Option (List Nat × Nat)) (m n i at_ : Nat) (u : Value) (wr : World) : Prop :=
 ∃ pre : List Nat, GetIntsAt w l o m n i at_ u wr pre
theorem getIntsRel_next {w wr w2 : World} {l : List UInt8} {o : Option (List Nat × Nat)} {m n i j x k : Nat} {u v : Value} {b : Value} {pre : List Nat} (h : GetIntsAt w l o m n i j u wr pre) (hl : l.length = n) (hi : i < m) (hd : NM.dec (l.drop j) = some (x, k))
  (ho : w2.ownsRow w.heap.size 3 1 v (i + 1) (ic (intsOf pre) ++ [.int .i64 (x : Int)]))
  (hg : (wr.alloc (.cells #[b] 3)).grownBy w2 u.ownBlock) : GetIntsRel w l o m n (i + 1) (j + k) v w2 := by
 obtain ⟨h1, h2, h3, h4, h5, h6⟩ := h
 have hb := NM.dec_bound _ x k hd
 rw [List.length_drop] at hb
 refine ⟨pre ++ [x], by simp [h1], by omega, by omega, ?_, ?_, ?_⟩
 ·rw [← h4, show m - i = (m - (i + 1)) + 1 by omega, NM.liftB_some pre j _ _ x k hd, List.drop_drop]
 ·rw [intsOf_snoc, ic_append]; exact ho
 ·refine (h6.alloc h6.size _).grown hg (by have := h6.size; simp; omega) fun g hgu => ?_
  rcases h5.2 with ⟨rfl, _⟩ | ⟨g', cap, cur, rfl, hb, _⟩
  ·simp [Value.ownBlock] at hgu
  ·simp [Value.ownBlock] at hgu; omega
theorem getInts_any (A : Option Addr) (n c most : Nat) (l : List UInt8) (w : World) (hr : Rd w A n (bc l)) (hnc : n ≤ c) (hm : c ≤ maxLen) (hmost : most ≤ 4096) :
  Calls Tryz.prog 126 #[.slice A n c, .int .i64 most] w (GetIntsPost w (NM.getInts l most)) := by
 obtain ⟨i0, hi, hz0, hz1, hz2⟩ := info_parts info_int
 have hg := get_any A n c l w hr (Nat.le_trans hnc hm)
 have hm2 : c ≤ 9223372036854775807 := by unfold maxLen at hm; omega
 have hl : l.length = n := by have := hr.1; rwa [bc_length] at this
 have HL := h! hl; clear hl
 have HM := h! hm; clear hm
 rcases hd : NM.dec l with _ | ⟨x, k⟩
 ·rw [hd] at hg
  have hfin : NM.getInts l most = none := by unfold NM.getInts; rw [hd]
  have HF := h! hfin; clear hfin hd
  have HG := h! hg; clear hg
  go_enter Tryz.func126, Tryz.ntmps126
  go_wp2_with (go_at_call 124; refine (HG.out).mono ?_; rintro e w' ⟨rfl, rfl⟩; unfold getRes)
  go_ret3
  exact ⟨Below.refl _ _, .inl ⟨HF.out, rfl⟩⟩
 ·have hb := NM.dec_bound l x k hd
  rw [hd] at hg
  obtain ⟨hx, hk1, hkl, hk6, hdrop⟩ := hb
  clear hdrop
  rw [HL.out] at hkl
  have HG := h! hg; clear hg
  by_cases h1 : x ≤ most
  ·have hfin := NM.getInts_of l most x k hd h1
   obtain ⟨o, ho⟩ : ∃ o, o = NM.getInts l most := ⟨_, rfl⟩
   have hstart : GetIntsRel w l o x n 0 k (.slice none 0 0) w := ⟨[], rfl, by omega, hkl, by rw [ho, hfin]; rfl, World.ownsRow_nil _ _ _ _, Below.refl _ _⟩
   rw [← ho]
   clear hfin hd ho
   have HS := h! hstart; clear hstart
   have t1 : decide ((4096 : Int) < (most : Int)) = false := by simp; omega
   have t2 : decide ((most : Int) < (x : Int)) = false := by simp; omega
   have t3 : decide (most < x) = false := by simp; omega
   go_enter Tryz.func126, Tryz.ntmps126
   go_wp2_with (go_at_call 124; refine (HG.out).mono ?_; rintro e w' ⟨rfl, rfl⟩; unfold getRes)
   go_loopw [4, 5, 31] (fun u s t wr => ∃ i j : Nat, i ≤ x ∧ j ≤ n ∧ s = .int .i64 j ∧ t = .int .i64 i ∧ GetIntsRel w l o x n i j u wr) (fun _ _ t _ => x - (intOf t).toNat)
   case atStart => exact ⟨0, k, by omega, hkl, rfl, rfl, HS.out⟩
   case round =>
    clear HS HG
    obtain ⟨i, j, hix, hjn, rfl, rfl, hrel⟩ := hrel
    have hbel : Below w.heap.size w wr := by obtain ⟨pre, _, _, _, _, _, h⟩ := hrel; exact h
    have hr2 := hr.below hbel
    by_cases hlt : i < x
    ·have hjl : ∃ ys, ys = l.drop j := ⟨_, rfl⟩
     obtain ⟨ys, hys⟩ := hjl
     rcases hd2 : NM.dec (l.drop j) with _ | ⟨y, q⟩
     ·have hfin : o = none := by
       obtain ⟨pre, h1, h2, h3, h4, h5, h6⟩ := hrel
       rw [← h4, show x - i = (x - (i + 1)) + 1 by omega, NM.liftB_none _ _ _ _ hd2]
      have HF := h! hfin; clear hfin hrel
      have HB := h! hbel; clear hbel
      by_cases hcj : c = j
      ·have hg2 : Calls Tryz.prog 124 #[.slice A 0 0] wr fun e w' => e = .returned (getRes none) ∧ wr = w' := by
        have := get_any A 0 0 [] wr Rd.nil (by omega)
        exact this
       subst hcj
       obtain rfl : n = c := by omega
       have HG2 := h! hg2; clear hg2 hr2 hd2 hys
       have HR := h! hr; clear hr
       go_wp2_with (go_at_call 124; refine (HG2.out).mono ?_; rintro e w' ⟨rfl, rfl⟩; unfold getRes)
       go_ret3
       exact ⟨HB.out, .inl ⟨HF.out, rfl⟩⟩
      ·have hg2 := get_any (A.map (fun x => x.add j)) (n - j) (c - j) (l.drop j) wr (by rw [← bc_drop]; exact hr2.cutm hjn) (by have := HM.out; omega)
       rw [hd2] at hg2
       have HG2 := h! hg2; clear hg2 hr2 hd2 hys
       have HR := h! hr; clear hr
       go_wp2_with (go_at_call 124; refine (HG2.out).mono ?_; rintro e w' ⟨rfl, rfl⟩; unfold getRes)
       go_ret3
       exact ⟨HB.out, .inl ⟨HF.out, rfl⟩⟩
     ·have hbd := NM.dec_bound _ y q hd2
      rw [List.length_drop, HL.out] at hbd
      obtain ⟨hy, hq1, hqn, hq6, hqd⟩ := hbd
      clear hqd hys
      have hcj : c ≠ j := by omega
      have hg2 := get_any (A.map (fun x => x.add j)) (n - j) (c - j) (l.drop j) wr (by rw [← bc_drop]; exact hr2.cutm hjn) (by have := HM.out; omega)
      rw [hd2] at hg2
      obtain ⟨pre, hrel⟩ := hrel
      have hown0 : wr.ownsRow w.heap.size 3 1 u4 i (ic (intsOf pre)) := hrel.2.2.2.2.1
      have hbs := hbel.size
      have HG2 := h! hg2; clear hg2 hr2
      have HR := h! hr; clear hr
      have HD := h! hd2; clear hd2
      have HRel := h! hrel; clear hrel
      go_wp2_with (first
       | (go_at_call 124; refine (HG2.out).mono ?_; rintro e w' ⟨rfl, rfl⟩; unfold getRes)
       | (at_builtin; refine wpList_append_rd _ rfl _ _ 31 rfl w.heap.size 3 i0 (.int .i64 0) 8 Tryz.underlying31 hi hz0 hz1 hz2 rfl _ _ _ rfl (hown0.alloc _) (some ⟨wr.heap.size, 0, none⟩) 1 1 [.int .i64 (y : Int)] rfl (rd_new _ _ _) (by intro u hu; simp at hu; subst hu; rfl) (by unfold maxLen; omega) (by omega) (by simp; omega) ?_; intro v2 w2 hown2 hg2 hob2))
      have hnext := getIntsRel_next HRel.out HL.out hlt HD.out hown2 hg2
      clear hown2 hg2 hob2
      go_roundw
      case rel => exact ⟨i + 1, j + q, by omega, by omega, by go_num, by go_num, hnext⟩
      case measure => simp [intOf]; omega
    ·obtain ⟨pre, g1, g2, g3, h4, h5, h6⟩ := hrel
     obtain rfl : i = x := by omega
     rw [Nat.sub_self, NM.liftB_end] at h4
     have HF := h! h4; clear h4
     have H1 := h! g1; clear g1
     go_wp2
     go_ret3
     refine ⟨h6, .inr ⟨pre, j, _, HF.out.symm, rfl, ?_⟩⟩
     rw [H1.out]
     exact h5
  ·have hfin : NM.getInts l most = none := by unfold NM.getInts; rw [hd]; simp only [if_neg h1]
   have HF := h! hfin; clear hfin hd
   go_enter Tryz.func126, Tryz.ntmps126
   go_wp2_with (go_at_call 124; refine (HG.out).mono ?_; rintro e w' ⟨rfl, rfl⟩; unfold getRes)
   go_ret3
   exact ⟨Below.refl _ _, .inl ⟨HF.out, rfl⟩⟩
end
namespace KP
open Go.RowKit CP TP
open CM (Mg Cm)
open TM (Sp)
open KM (Wt Sk)
theorem sps_new {w : World} {b : Nat} {v : Value} {l : List Sp} (h : w.ownsRow b 46 2 v l.length (flat spc l)) : ∃ A c, v = .slice A l.length c ∧ SpsIs w A l.length c l := by
 obtain ⟨A, c, rfl, h1, h2⟩ := own_form h
 exact ⟨A, c, rfl, ⟨rdg_own h, rfl, h1, h2⟩⟩
structure CoR (w : World) (x y : List Sp) (k : Nat) (v : Value) (wr : World) : Prop where
 bl : Below w.heap.size w wr
 ow : wr.ownsRow w.heap.size 46 2 v (OM.com (x.take k) y).length (flat spc (OM.com (x.take k) y))
theorem CoR.below {w wr w' : World} {x y : List Sp} {k : Nat} {v : Value} (h : CoR w x y k v wr) (hb : Below wr.heap.size wr w') : CoR w x y k v w' := ⟨bmore h.bl hb n!, own_below3 h.ow hb⟩
theorem com_more {x y : List Sp} {k : Nat} {a : Sp} (h : x[k]? = some a) : OM.com (x.take (k + 1)) y = OM.com (x.take k) y ++ (if (y.any fun z => z.i == a.i) then [a] else []) := by
 unfold OM.com
 exact filter_take h
theorem any_more {y : List Sp} {j : Nat} {b : Sp} {p : Sp → Bool} (h : y[j]? = some b) : (y.take (j + 1)).any p = ((y.take j).any p || p b) := by
 rw [List.take_add_one, h, List.any_append]
 simp
theorem common16_any (A B : Option Addr) (n m ca cb : Nat) (x y : List Sp) (w : World) (h1 : SpsIs w A n ca x) (h2 : SpsIs w B m cb y) (hn4 : n ≤ 4096) :
  Calls Tryz.prog 53 #[.slice A n ca, .slice B m cb] w fun e w' => ∃ v, e = .returned v ∧ w'.ownsRow w.heap.size 46 2 v (OM.com x y).length (flat spc (OM.com x y)) ∧ Below w.heap.size w w' := by
 obtain ⟨j0, hj, hy0, hy1, hy2⟩ := info_parts info_sp
 have hn := h1.small
 have hm := h2.small
 have HX := h! h1.2.1
 have HY := h! h2.2.1
 have H1 := h! h1
 have H2 := h! h2
 have HT0 := h! (show CoR w x y 0 (.slice none 0 0) w from ⟨Below.refl _ _, World.ownsRow_nil _ _ _ _⟩)
 clear h1 h2
 go_enter Tryz.func53, Tryz.ntmps53
 go_wp2_with fail
 go_loopw [5, 6] (fun u i wr => ∃ k : Nat, k ≤ n ∧ i = .int .i64 k ∧ Hid (CoR w x y k u wr)) (fun _ i _ => n - (intOf i).toNat)
 case atStart => exact ⟨0, by omega, rfl, HT0⟩
 case round =>
  clear HT0
  obtain ⟨k, hk, rfl, HT⟩ := hrel
  by_cases hlt : k < n
  ·obtain ⟨a, ha⟩ : ∃ a, x[k]? = some a := ⟨_, List.getElem?_eq_getElem (by have := HX.out; omega)⟩
   have HA := h! ha
   have hk0 : (0 : Int) ≤ (k : Int) := by omega
   have hkn : (k : Int) < (n : Int) := by omega
   obtain ⟨ai, hai⟩ : ∃ ai, ai = a.i := ⟨_, rfl⟩
   have HAI := h! hai
   clear ha hai
   go_wp2_with fail
   go_loopw [7, 8] (fun s i wi => ∃ (j : Nat) (b : Bool), j ≤ m ∧ s = .bool b ∧ i = .int .i64 j ∧ Hid (b = (y.take j).any fun z => z.i == a.i) ∧ Hid (CoR w x y k u5 wi)) (fun _ i _ => m - (intOf i).toNat)
   case atStart => exact ⟨0, false, by omega, rfl, rfl, h! rfl, HT⟩
   case round =>
    clear HT
    obtain ⟨j, b, hjm, rfl, rfl, HBB, HT⟩ := hrel
    by_cases hlt2 : j < m
    ·obtain ⟨c, hc⟩ : ∃ c, y[j]? = some c := ⟨_, List.getElem?_eq_getElem (by have := HY.out; omega)⟩
     obtain ⟨b1, o1, rfl, _, _, x0, x1⟩ := (H1.out.below HT.out.bl).at_ HA.out
     obtain ⟨b2, o2, rfl, _, _, y0, y1⟩ := (H2.out.below HT.out.bl).at_ hc
     have HM := h! (any_more (p := fun z => z.i == a.i) hc)
     have hj0 : (0 : Int) ≤ (j : Int) := by omega
     have hjn : (j : Int) < (m : Int) := by omega
     clear hc
     rcases b with _ | _
     all_goals
      go_wp2_with fail
      go_region
      have HT2 := h! (HT.out.below (below_drewN (Below.refl _ _) 1))
      go_wp2_with fail
      go_roundw
      case rel => exact ⟨j + 1, _, by omega, rfl, by go_num, h! (by rw [HM.out, ← HBB.out]; simp), HT2⟩
      case measure => simp [intOf]; omega
    ·obtain rfl : m = j := by omega
     have HBB2 := h! (show b = y.any fun z => z.i == a.i by have := HBB.out; rwa [List.take_of_length_le (by have := HY.out; omega)] at this)
     have HM := h! (com_more (y := y) HA.out)
     clear HBB
     rcases b with _ | _
     ·have NX := h! (show CoR w x y (k + 1) u5 wr from by
       have h1 := HM.out
       rw [← HBB2.out] at h1
       simp only [Bool.false_eq_true, if_false, List.append_nil] at h1
       exact ⟨HT.out.bl, by rw [h1]; exact HT.out.ow⟩)
      go_wp2_with fail
      go_roundw
      case rel => exact ⟨k + 1, by omega, by go_num, NX⟩
      case measure => simp [intOf]; omega
     ·obtain ⟨b1, o1, rfl, _, _, x0, x1⟩ := (H1.out.below HT.out.bl).at_ HA.out
      obtain ⟨A9, c9, rfl, hc9, hm9⟩ := own_form HT.out.ow
      obtain ⟨q, hq⟩ : ∃ q, q = OM.com (x.take k) y := ⟨_, rfl⟩
      have HQ := h! hq
      have hql : q.length ≤ 4096 := by
       rw [hq]
       refine Nat.le_trans (List.length_filter_le _ _) ?_
       rw [List.length_take]
       omega
      rw [← hq] at hc9 ⊢
      obtain ⟨at_, ai2⟩ := a
      simp only at x0 x1
      have hal : Below wr.heap.size wr (wr.alloc (.cells #[.int .i64 at_, .int .i64 ai2] 46)) := b!
      have HO5 := h! (show (wr.alloc (.cells #[.int .i64 at_, .int .i64 ai2] 46)).ownsRow w.heap.size 46 2 (.slice A9 q.length c9) q.length (flat spc q) by
       have := own_below3 HT.out.ow hal
       rwa [← hq] at this)
      have HBA := h! (bmore HT.out.bl hal n!)
      have HRG := h! (rdG_box (s := 2) (n := 1) (Box.new wr 46 #[.int .i64 at_, .int .i64 ai2]) (xs := spc ⟨at_, ai2⟩) rfl rfl)
      clear hq hal
      go_upto_region 4 with (at_builtin; refine wpList_append_g _ rfl _ _ 22 rfl w.heap.size 46 j0 _ 2 16 Tryz.underlying22 hj hy0 hy1 hy2 rfl (by omega) (.slice A9 q.length c9) q.length (flat spc q) rfl HO5.out (some ⟨wr.heap.size, 0, none⟩) 1 1 (spc ⟨at_, ai2⟩) rfl HRG.out (spc_one _) (by unfold maxLen; omega) (by omega) HBA.out.size ?_; intro v2 w6 hown hgr hob; have HB6 := h! (below_row HBA.out HO5.out HBA.out.size hgr); have HO6 := h! hown; clear hown hgr hob)
      have NX := h! (show CoR w x y (k + 1) v2 w6 from by
       have h1 := HM.out
       rw [← HBB2.out] at h1
       simp only [if_true] at h1
       refine ⟨HB6.out, ?_⟩
       rw [h1, ← HQ.out, List.length_append]
       have := HO6.out
       simpa [flat] using this)
      go_wp2_with fail
      go_roundw
      case rel => exact ⟨k + 1, by omega, by go_num, NX⟩
      case measure => simp [intOf]; omega
  ·obtain rfl : n = k := by omega
   have HE := h! (show CoR w x y n u5 wr ∧ x.take n = x from ⟨HT.out, List.take_of_length_le (by have := HX.out; omega)⟩)
   clear HT
   go_wp2_with fail
   go_ret
   have h1 := HE.out.1.ow
   rw [HE.out.2] at h1
   exact ⟨_, rfl, h1, HE.out.1.bl⟩
end KP
section
open Go.RowKit
def NumPost (y : Int) (w : World) (e : Ending) (w' : World) : Prop := e = .returned (.int .i64 y) ∧ ∃ q, w' = w.drewN q
theorem rqCheck_any (A : Option Addr) (n c : Nat) (zs : List Int) (y : Int) (w : World) (hr : Rd w A n (ic zs)) (hm : n ≤ 9223372036854775807) (hy : QM.ChkIs zs y) :
  Calls Tryz.prog 145 #[.slice A n c] w (NumPost y w) := by
 have hl : zs.length = n := by have := hr.1; rwa [ic_length] at this
 have h := rMay_any A n c zs w hr hm
 rcases hy with ⟨h6, rfl⟩ | ⟨h6, hf, rfl⟩ | ⟨ht, rfl⟩
 ·rw [hl] at h6
  clear h hl
  go_enter Tryz.func145, Tryz.ntmps145
  go_wp2
  go_ret
  exact ⟨rfl, 0, rfl⟩
 ·rw [hl] at h6
  rw [hf] at h
  have H := h! h
  clear h hl hf
  go_enter Tryz.func145, Tryz.ntmps145
  go_wp2_with fail
  refine H.out.mono ?_
  rintro e w1 ⟨rfl, q, rfl⟩
  go_wp2
  go_ret
  exact ⟨rfl, q, rfl⟩
 ·obtain ⟨_, h2, _⟩ := QM.may_len ht
  rw [hl] at h2
  rw [ht] at h
  have H := h! h
  clear h hl ht
  go_enter Tryz.func145, Tryz.ntmps145
  go_wp2_with fail
  refine H.out.mono ?_
  rintro e w1 ⟨rfl, q, rfl⟩
  go_wp2
  go_ret
  exact ⟨rfl, q, rfl⟩
end
namespace KP
open Go.RowKit CP TP
open CM (Mg Cm)
open TM (Sp)
open KM (Wt Sk)
theorem pstampOf_any (A : Option Addr) (c : Nat) (x : Wt) (w : World) : Calls Tryz.prog 138 #[vwt A c x] w (IsSp (KM.stp x) w) := by
 have HB := h! (show Below w.heap.size w ((w.alloc (.cells #[.int .i64 x.m.id, .slice A x.m.gs.length c, .int .i64 x.m.tp, .string x.m.key, .string x.m.body, .int .i64 x.t, .bool x.f] 78)).alloc (.cells #[.int .i64 0, .int .i64 0] 46)) from ((Below.refl _ _).alloc n! _).alloc (by simp) _)
 have X := h! ((Box.new w 78 #[.int .i64 x.m.id, .slice A x.m.gs.length c, .int .i64 x.m.tp, .string x.m.key, .string x.m.body, .int .i64 x.t, .bool x.f]).alloc (.cells #[.int .i64 0, .int .i64 0] 46))
 have Y := h! (Box.new_at (w := w.alloc (.cells #[.int .i64 x.m.id, .slice A x.m.gs.length c, .int .i64 x.m.tp, .string x.m.key, .string x.m.body, .int .i64 x.t, .bool x.f] 78)) (t := 46) (cs := #[.int .i64 0, .int .i64 0]) (w.heap.size + 1) (by simp))
 obtain ⟨⟨mi, mg, mt, mk, mb⟩, t, f⟩ := x
 unfold vwt
 simp only at HB X Y ⊢
 go_enter Tryz.func138, Tryz.ntmps138
 go_upto_region 1 with (fail)
 generalize (w.alloc (.cells #[.int .i64 mi, .slice A mg.length c, .int .i64 mt, .string mk, .string mb, .int .i64 t, .bool f] 78)).alloc (.cells #[.int .i64 0, .int .i64 0] 46) = w1 at HB X Y ⊢
 obtain ⟨g0, hg0⟩ : ∃ g0, w.heap.size = g0 := ⟨_, rfl⟩
 rw [hg0] at X Y
 simp only [hg0]
 have HG := h! hg0
 clear hg0
 obtain ⟨x0, x1, x2, x3, x4, x5, x6⟩ := box_wt X.out
 have y0 := Y.out.cell 0
 have y1 := Y.out.cell 1
 have f0 := Y.out.frozen 0
 have f1 := Y.out.frozen 1
 simp at y0 y1
 have Z := h! (Y.out.put (.int .i64 t) (.int .i64 mi))
 go_wp2_with fail
 obtain ⟨z0, z1⟩ := box_two Z.out
 exact bodyPost_ret (v := .agg #[.int .i64 t, .int .i64 mi]) (by simp [results, Tryz.results138, go_sem, z0, z1]; try rfl) rfl ⟨rfl, below_put HB.out (by have := HG.out; omega) _ _⟩
def ordS (a b : Sp) : Int := if TM.less a b = true then -1 else if TM.less b a = true then 1 else 0
theorem ordS_neg {a b : Sp} : ordS a b < 0 ↔ TM.less a b = true := by
 unfold ordS
 split
 ·rename_i h; simp [h]
 ·rename_i h
  constructor
  ·intro h2; split at h2 <;> omega
  ·intro h2; exact absurd h2 h
theorem pinOrder_any (A B : Option Addr) (c d : Nat) (x y : Wt) (w : World) : Calls Tryz.prog 108 #[vwt A c x, vwt B d y] w (IsN (ordS (KM.stp x) (KM.stp y)) w) := by
 have HF := h! (show ordS (KM.stp x) (KM.stp y) = if TM.less (KM.stp x) (KM.stp y) = true then -1 else if TM.less (KM.stp y) (KM.stp x) = true then 1 else 0 from rfl)
 obtain ⟨r, hr⟩ : ∃ r, r = ordS (KM.stp x) (KM.stp y) := ⟨_, rfl⟩
 rw [← hr] at HF ⊢
 clear hr
 have C1 := h! (fun w => pstampOf_any A c x w)
 have C2 := h! (fun w => pstampOf_any B d y w)
 have C3 := h! (fun w => pless_any (KM.stp x) (KM.stp y) w)
 have C4 := h! (fun w => pless_any (KM.stp y) (KM.stp x) w)
 generalize TM.less (KM.stp x) (KM.stp y) = l1 at HF C3
 generalize TM.less (KM.stp y) (KM.stp x) = l2 at HF C4
 obtain ⟨⟨xi, xg, xt, xk, xb⟩, xm, xf⟩ := x
 obtain ⟨⟨yi, yg, yt, yk, yb⟩, ym, yf⟩ := y
 unfold vwt at C1 C2 ⊢
 unfold KM.stp at C1 C2 C3 C4
 unfold vsp at C3 C4
 simp only at C1 C2 C3 C4 ⊢
 have HB := h! (show Below w.heap.size w ((w.alloc (.cells #[.int .i64 xi, .slice A xg.length c, .int .i64 xt, .string xk, .string xb, .int .i64 xm, .bool xf] 78)).alloc (.cells #[.int .i64 yi, .slice B yg.length d, .int .i64 yt, .string yk, .string yb, .int .i64 ym, .bool yf] 78)) from ((Below.refl _ _).alloc n! _).alloc (by simp) _)
 have X := h! ((Box.new w 78 #[.int .i64 xi, .slice A xg.length c, .int .i64 xt, .string xk, .string xb, .int .i64 xm, .bool xf]).alloc (.cells #[.int .i64 yi, .slice B yg.length d, .int .i64 yt, .string yk, .string yb, .int .i64 ym, .bool yf] 78))
 have Y := h! (Box.new_at (w := w.alloc (.cells #[.int .i64 xi, .slice A xg.length c, .int .i64 xt, .string xk, .string xb, .int .i64 xm, .bool xf] 78)) (t := 78) (cs := #[.int .i64 yi, .slice B yg.length d, .int .i64 yt, .string yk, .string yb, .int .i64 ym, .bool yf]) (w.heap.size + 1) (by simp))
 go_enter Tryz.func108, Tryz.ntmps108
 go_upto_region 1 with (fail)
 generalize (w.alloc (.cells #[.int .i64 xi, .slice A xg.length c, .int .i64 xt, .string xk, .string xb, .int .i64 xm, .bool xf] 78)).alloc (.cells #[.int .i64 yi, .slice B yg.length d, .int .i64 yt, .string yk, .string yb, .int .i64 ym, .bool yf] 78) = w1 at HB X Y ⊢
 generalize w.heap.size + 1 = p3 at Y ⊢
 obtain ⟨p2, hp2⟩ : ∃ p2, w.heap.size = p2 := ⟨_, rfl⟩
 rw [hp2] at X
 simp only [hp2]
 clear hp2
 obtain ⟨a0, a1, a2, a3, a4, a5, a6⟩ := box_wt X.out
 obtain ⟨b0, b1, b2, b3, b4, b5, b6⟩ := box_wt Y.out
 have HSS := h! (fun (w' : World) (h : Below w1.heap.size w1 w') => show w'.cell? ⟨p2, 0, none⟩ = some (.int .i64 xi) ∧ w'.cell? ⟨p2, 1, none⟩ = some (.slice A xg.length c) ∧ w'.cell? ⟨p2, 2, none⟩ = some (.int .i64 xt) ∧ w'.cell? ⟨p2, 3, none⟩ = some (.string xk) ∧ w'.cell? ⟨p2, 4, none⟩ = some (.string xb) ∧ w'.cell? ⟨p2, 5, none⟩ = some (.int .i64 xm) ∧ w'.cell? ⟨p2, 6, none⟩ = some (.bool xf) ∧ w'.cell? ⟨p3, 0, none⟩ = some (.int .i64 yi) ∧ w'.cell? ⟨p3, 1, none⟩ = some (.slice B yg.length d) ∧ w'.cell? ⟨p3, 2, none⟩ = some (.int .i64 yt) ∧ w'.cell? ⟨p3, 3, none⟩ = some (.string yk) ∧ w'.cell? ⟨p3, 4, none⟩ = some (.string yb) ∧ w'.cell? ⟨p3, 5, none⟩ = some (.int .i64 ym) ∧ w'.cell? ⟨p3, 6, none⟩ = some (.bool yf) from
  ⟨(h.cell (cell_block a0)).trans a0, (h.cell (cell_block a1)).trans a1, (h.cell (cell_block a2)).trans a2, (h.cell (cell_block a3)).trans a3, (h.cell (cell_block a4)).trans a4, (h.cell (cell_block a5)).trans a5, (h.cell (cell_block a6)).trans a6, (h.cell (cell_block b0)).trans b0, (h.cell (cell_block b1)).trans b1, (h.cell (cell_block b2)).trans b2, (h.cell (cell_block b3)).trans b3, (h.cell (cell_block b4)).trans b4, (h.cell (cell_block b5)).trans b5, (h.cell (cell_block b6)).trans b6⟩)
 have bb1 : Below w1.heap.size w1 w1.drew := (Below.refl _ _).drew
 obtain ⟨ud, hud⟩ : ∃ ud, ud = w1.drew := ⟨_, rfl⟩
 refine wp_region_held_drew (S := fun w' => w'.cell? ⟨p2, 0, none⟩ = some (.int .i64 xi) ∧ w'.cell? ⟨p2, 1, none⟩ = some (.slice A xg.length c) ∧ w'.cell? ⟨p2, 2, none⟩ = some (.int .i64 xt) ∧ w'.cell? ⟨p2, 3, none⟩ = some (.string xk) ∧ w'.cell? ⟨p2, 4, none⟩ = some (.string xb) ∧ w'.cell? ⟨p2, 5, none⟩ = some (.int .i64 xm) ∧ w'.cell? ⟨p2, 6, none⟩ = some (.bool xf) ∧ w'.cell? ⟨p3, 0, none⟩ = some (.int .i64 yi) ∧ w'.cell? ⟨p3, 1, none⟩ = some (.slice B yg.length d) ∧ w'.cell? ⟨p3, 2, none⟩ = some (.int .i64 yt) ∧ w'.cell? ⟨p3, 3, none⟩ = some (.string yk) ∧ w'.cell? ⟨p3, 4, none⟩ = some (.string yb) ∧ w'.cell? ⟨p3, 5, none⟩ = some (.int .i64 ym) ∧ w'.cell? ⟨p3, 6, none⟩ = some (.bool yf)) (by kernel_rfl) (HSS.out _ bb1) (fun hHeld => ?_)
 rw [← hud] at bb1 hHeld ⊢
 clear hud
 refine qT 0 ?_; try simp only [Act.put, qq]
 refine qT 2 ?_; try simp only [Act.put, qq]
 refine qR 1 fun K hK => ?_
 go_simp
 refine (C1.out _).mono ?_
 rintro e w3 ⟨rfl, hb⟩
 have bb2 := bmore bb1 hb n!
 clear hb
 unfold vsp
 refine hK.out _ _ (HSS.out _ bb2) (fun hHeld => ?_)
 clear hK
 try simp only [Act.put, qq]
 refine qR 3 fun K hK => ?_
 go_simp
 refine (C2.out _).mono ?_
 rintro e w4 ⟨rfl, hb⟩
 have bb3 := bmore bb2 hb n!
 clear hb
 unfold vsp
 refine hK.out _ _ (HSS.out _ bb3) (fun hHeld => ?_)
 clear hK
 try simp only [Act.put, qq]
 refine qR 4 fun K hK => ?_
 go_simp
 refine (C3.out _).mono ?_
 rintro e w5 ⟨rfl, hb⟩
 have bb4 := bmore bb3 hb n!
 clear hb
 refine hK.out _ _ (HSS.out _ bb4) (fun hHeld => ?_)
 clear hK
 try simp only [Act.put, qq]
 refine qT 5 ?_; try simp only [Act.put, qq]
 refine wpAnyH_done (by kernel_rfl) ?_ _
 clear hHeld HSS
 have HN := h! (bmore HB.out bb4 n!)
 have X2 := h! (X.out.below bb4 X.out.lt)
 have Y2 := h! (Y.out.below bb4 Y.out.lt)
 clear a0 a1 a2 a3 a4 a5 a6 b0 b1 b2 b3 b4 b5 b6
 rcases l1 with _ | _
 ·go_upto_region 3 with (fail)
  obtain ⟨a0, a1, a2, a3, a4, a5, a6⟩ := box_wt X2.out
  obtain ⟨b0, b1, b2, b3, b4, b5, b6⟩ := box_wt Y2.out
  clear bb1 bb2 bb3 bb4 X Y HB
  have HSS := h! (fun (w' : World) (h : Below w5.heap.size w5 w') => show w'.cell? ⟨p2, 0, none⟩ = some (.int .i64 xi) ∧ w'.cell? ⟨p2, 1, none⟩ = some (.slice A xg.length c) ∧ w'.cell? ⟨p2, 2, none⟩ = some (.int .i64 xt) ∧ w'.cell? ⟨p2, 3, none⟩ = some (.string xk) ∧ w'.cell? ⟨p2, 4, none⟩ = some (.string xb) ∧ w'.cell? ⟨p2, 5, none⟩ = some (.int .i64 xm) ∧ w'.cell? ⟨p2, 6, none⟩ = some (.bool xf) ∧ w'.cell? ⟨p3, 0, none⟩ = some (.int .i64 yi) ∧ w'.cell? ⟨p3, 1, none⟩ = some (.slice B yg.length d) ∧ w'.cell? ⟨p3, 2, none⟩ = some (.int .i64 yt) ∧ w'.cell? ⟨p3, 3, none⟩ = some (.string yk) ∧ w'.cell? ⟨p3, 4, none⟩ = some (.string yb) ∧ w'.cell? ⟨p3, 5, none⟩ = some (.int .i64 ym) ∧ w'.cell? ⟨p3, 6, none⟩ = some (.bool yf) from
   ⟨(h.cell (cell_block a0)).trans a0, (h.cell (cell_block a1)).trans a1, (h.cell (cell_block a2)).trans a2, (h.cell (cell_block a3)).trans a3, (h.cell (cell_block a4)).trans a4, (h.cell (cell_block a5)).trans a5, (h.cell (cell_block a6)).trans a6, (h.cell (cell_block b0)).trans b0, (h.cell (cell_block b1)).trans b1, (h.cell (cell_block b2)).trans b2, (h.cell (cell_block b3)).trans b3, (h.cell (cell_block b4)).trans b4, (h.cell (cell_block b5)).trans b5, (h.cell (cell_block b6)).trans b6⟩)
  have bb1 : Below w5.heap.size w5 w5.drew := (Below.refl _ _).drew
  obtain ⟨ud, hud⟩ : ∃ ud, ud = w5.drew := ⟨_, rfl⟩
  refine wp_region_held_drew (S := fun w' => w'.cell? ⟨p2, 0, none⟩ = some (.int .i64 xi) ∧ w'.cell? ⟨p2, 1, none⟩ = some (.slice A xg.length c) ∧ w'.cell? ⟨p2, 2, none⟩ = some (.int .i64 xt) ∧ w'.cell? ⟨p2, 3, none⟩ = some (.string xk) ∧ w'.cell? ⟨p2, 4, none⟩ = some (.string xb) ∧ w'.cell? ⟨p2, 5, none⟩ = some (.int .i64 xm) ∧ w'.cell? ⟨p2, 6, none⟩ = some (.bool xf) ∧ w'.cell? ⟨p3, 0, none⟩ = some (.int .i64 yi) ∧ w'.cell? ⟨p3, 1, none⟩ = some (.slice B yg.length d) ∧ w'.cell? ⟨p3, 2, none⟩ = some (.int .i64 yt) ∧ w'.cell? ⟨p3, 3, none⟩ = some (.string yk) ∧ w'.cell? ⟨p3, 4, none⟩ = some (.string yb) ∧ w'.cell? ⟨p3, 5, none⟩ = some (.int .i64 ym) ∧ w'.cell? ⟨p3, 6, none⟩ = some (.bool yf)) (by kernel_rfl) (HSS.out _ bb1) (fun hHeld => ?_)
  rw [← hud] at bb1 hHeld ⊢
  clear hud
  refine qT 0 ?_; try simp only [Act.put, qq]
  refine qT 2 ?_; try simp only [Act.put, qq]
  refine qR 1 fun K hK => ?_
  go_simp
  refine (C2.out _).mono ?_
  rintro e w3 ⟨rfl, hb⟩
  have bb2 := bmore bb1 hb n!
  clear hb
  unfold vsp
  refine hK.out _ _ (HSS.out _ bb2) (fun hHeld => ?_)
  clear hK
  try simp only [Act.put, qq]
  refine qR 3 fun K hK => ?_
  go_simp
  refine (C1.out _).mono ?_
  rintro e w4 ⟨rfl, hb⟩
  have bb3 := bmore bb2 hb n!
  clear hb
  unfold vsp
  refine hK.out _ _ (HSS.out _ bb3) (fun hHeld => ?_)
  clear hK
  try simp only [Act.put, qq]
  refine qR 4 fun K hK => ?_
  go_simp
  refine (C4.out _).mono ?_
  rintro e w6 ⟨rfl, hb⟩
  have bb4 := bmore bb3 hb n!
  clear hb
  refine hK.out _ _ (HSS.out _ bb4) (fun hHeld => ?_)
  clear hK
  try simp only [Act.put, qq]
  refine qT 5 ?_; try simp only [Act.put, qq]
  refine wpAnyH_done (by kernel_rfl) ?_ _
  clear hHeld HSS
  have HN2 := h! (bmore HN.out bb4 n!)
  rcases l2 with _ | _
  ·go_wp2_with fail
   go_ret
   exact ⟨by rw [HF.out]; rfl, HN2.out⟩
  ·go_wp2_with fail
   go_ret
   exact ⟨by rw [HF.out]; rfl, HN2.out⟩
 ·go_wp2_with fail
  go_ret
  exact ⟨by rw [HF.out]; rfl, HN.out⟩
theorem pcmpId_any (A : Option Addr) (c : Nat) (x : Wt) (id : Int) (w : World) : Calls Tryz.prog 152 #[vwt A c x, .int .i64 id] w (IsN (TM.cmpI x.m.id id) w) := by
 have CC := h! (fun W => compare_any x.m.id id W)
 obtain ⟨⟨xi, xg, xt, xk, xb⟩, xm, xf⟩ := x
 unfold vwt
 simp only at CC ⊢
 have HB := h! (show Below w.heap.size w (w.alloc (.cells #[.int .i64 xi, .slice A xg.length c, .int .i64 xt, .string xk, .string xb, .int .i64 xm, .bool xf] 78)) from (Below.refl _ _).alloc n! _)
 have X := h! (Box.new w 78 #[.int .i64 xi, .slice A xg.length c, .int .i64 xt, .string xk, .string xb, .int .i64 xm, .bool xf])
 go_enter Tryz.func152, Tryz.ntmps152
 go_upto_region 1 with (fail)
 generalize w.alloc (.cells #[.int .i64 xi, .slice A xg.length c, .int .i64 xt, .string xk, .string xb, .int .i64 xm, .bool xf] 78) = w1 at HB X ⊢
 obtain ⟨p2, hp2⟩ : ∃ p2, w.heap.size = p2 := ⟨_, rfl⟩
 rw [hp2] at X
 simp only [hp2]
 clear hp2
 obtain ⟨a0, a1, a2, a3, a4, a5, a6⟩ := box_wt X.out
 go_wp2_with fail
 refine (CC.out _).mono ?_
 rintro e w2 ⟨rfl, rfl⟩
 clear a0 a1 a2 a3 a4 a5 a6
 go_wp2_with fail
 go_ret
 exact ⟨rfl, HB.out⟩
end KP
namespace TP
open Go.RowKit
open TM (Sp)
def SpFit (a : Sp) : Prop := (-9223372036854775808 ≤ a.t ∧ a.t ≤ 9223372036854775807) ∧ (-9223372036854775808 ≤ a.i ∧ a.i ≤ 9223372036854775807)
theorem box_2 {w : World} {g : Nat} {t : TypeId} {a b : Value} (h : Box w g t #[a, b]) : w.cell? ⟨g, 0, none⟩ = some a ∧ w.cell? ⟨g, 1, none⟩ = some b := ⟨h.cell 0, h.cell 1⟩
theorem pcheck_any (a : Sp) (w : World) (hf : SpFit a) : Calls Tryz.prog 148 #[vsp a] w (IsN (TM.chk a) w) := by
 obtain ⟨r, n, y, hof⟩ := TM.ofIs_ex a.i
 have HO := h! (fun w => pof_any hof hf.2.1 hf.2.2 w)
 have hy : (y = 0 ∧ TM.good a.i) ∨ (y = 2 ∧ ¬ TM.good a.i) := by
  rcases hof with ⟨h, _, _, h2⟩ | ⟨h, _, _, h2⟩
  ·exact .inl ⟨h2, h⟩
  ·exact .inr ⟨h2, h⟩
 have HY := h! hy
 clear hy hof hf
 obtain ⟨t, i⟩ := a
 simp only at HO HY
 unfold vsp
 simp only
 have HB := h! (show Below w.heap.size w (w.alloc (.cells #[.int .i64 t, .int .i64 i] 46)) from (Below.refl _ _).alloc n! _)
 have X := h! (Box.new w 46 #[.int .i64 t, .int .i64 i])
 rcases (show t < 0 ∨ (0 ≤ t ∧ 1073741824 < t) ∨ (0 ≤ t ∧ ¬ 1073741824 < t) by omega) with h | ⟨h0, h⟩ | ⟨h0, h⟩
 rotate_right
 ·rcases HY.out with ⟨rfl, hg⟩ | ⟨rfl, hg⟩
  ·rw [show TM.chk ⟨t, i⟩ = 0 from if_pos ⟨h0, by simp only; omega, hg.1, hg.2⟩]
   clear HY hg
   go_enter Tryz.func148, Tryz.ntmps148
   go_upto_region 1 with (fail)
   generalize w.alloc (.cells #[.int .i64 t, .int .i64 i] 46) = w1 at HB X ⊢
   generalize hg : w.heap.size = g at X ⊢
   clear hg
   obtain ⟨x0, x1⟩ := box_2 X.out
   go_wp2_with fail
   refine (HO.out w1).mono ?_
   rintro e w2 ⟨rfl, rfl⟩
   go_wp2_with fail
   go_ret
   exact ⟨rfl, HB.out⟩
  ·rw [show TM.chk ⟨t, i⟩ = 8 from if_neg (fun g => hg ⟨g.2.2.1, g.2.2.2⟩)]
   clear HY hg
   go_enter Tryz.func148, Tryz.ntmps148
   go_upto_region 1 with (fail)
   generalize w.alloc (.cells #[.int .i64 t, .int .i64 i] 46) = w1 at HB X ⊢
   generalize hg : w.heap.size = g at X ⊢
   clear hg
   obtain ⟨x0, x1⟩ := box_2 X.out
   go_wp2_with fail
   refine (HO.out w1).mono ?_
   rintro e w2 ⟨rfl, rfl⟩
   go_wp2_with fail
   go_ret
   exact ⟨rfl, HB.out⟩
 all_goals
  rw [show TM.chk ⟨t, i⟩ = 8 from if_neg (fun g => by unfold TM.ok at g; simp only at g; omega)]
  go_enter Tryz.func148, Tryz.ntmps148
  go_upto_region 1 with (fail)
  generalize w.alloc (.cells #[.int .i64 t, .int .i64 i] 46) = w1 at HB X ⊢
  generalize hg : w.heap.size = g at X ⊢
  clear hg
  obtain ⟨x0, x1⟩ := box_2 X.out
  go_wp2_with fail
  go_ret
  exact ⟨rfl, HB.out⟩
def Seen (l : List Sp) (i : Nat) : Prop := ∀ k a b, k + 1 < i → l[k]? = some a → l[k + 1]? = some b → TM.less a b = true
theorem seen_one (l : List Sp) : Seen l 1 := fun k a b h => absurd h (by omega)
theorem Seen.next {l : List Sp} {i : Nat} {a b : Sp} (h : Seen l i) (h1 : 1 ≤ i) (ha : l[i - 1]? = some a) (hb : l[i]? = some b) (hl : TM.less a b = true) : Seen l (i + 1) := fun k x y hk hx hy => by
 rcases (show k + 1 < i ∨ k + 1 = i by omega) with h2 | h2
 ·exact h k x y h2 hx hy
 ·obtain rfl : k = i - 1 := by omega
  rw [show i - 1 + 1 = i by omega] at hy
  rw [ha] at hx
  rw [hb] at hy
  injection hx with hx
  injection hy with hy
  subst hx hy
  exact hl
theorem Seen.all {l : List Sp} {i : Nat} (h : Seen l i) (hi : l.length ≤ i) : TM.rises l = true := (TM.rises_iff l).2 fun k a b ha hb => h k a b (by have := (List.getElem?_eq_some_iff.1 hb).1; omega) ha hb
theorem seen_no {l : List Sp} {i : Nat} {a b : Sp} (h1 : 1 ≤ i) (ha : l[i - 1]? = some a) (hb : l[i]? = some b) (hl : TM.less a b = false) : TM.rises l = false := by
 rcases h : TM.rises l with _ | _
 ·rfl
 ·have := (TM.rises_iff l).1 h (i - 1) a b ha (by rw [show i - 1 + 1 = i by omega]; exact hb)
  rw [hl] at this
  cases this
theorem prises_any (A : Option Addr) (n c : Nat) (l : List Sp) (w : World) (h : SpsIs w A n c l) : Calls Tryz.prog 28 #[.slice A n c] w (IsB (TM.rises l) w) := by
 have hn := h.small
 have hl := h.2.1
 obtain ⟨r, hr⟩ : ∃ r, r = TM.rises l := ⟨_, rfl⟩
 rw [← hr]
 have HR := h! hr
 have H := h! h
 have HL := h! hl
 clear h hl hr
 go_enter Tryz.func28, Tryz.ntmps28
 go_wp2_with fail
 go_loopw [3] (fun i wr => ∃ k : Nat, 1 ≤ k ∧ k ≤ n + 1 ∧ i = .int .i64 k ∧ Below w.heap.size w wr ∧ Hid (Seen l k)) (fun i _ => n + 1 - (intOf i).toNat)
 case atStart => exact ⟨1, by omega, by omega, rfl, Below.refl _ _, h! (seen_one l)⟩
 case round =>
  obtain ⟨k, hk1, hk, rfl, hB, HSn⟩ := hrel
  have HB := h! hB
  clear hB
  by_cases hlt : k < n
  ·obtain ⟨a, ha⟩ : ∃ a, l[k - 1]? = some a := ⟨_, List.getElem?_eq_getElem (by have := HL.out; omega)⟩
   obtain ⟨b, hb⟩ : ∃ b, l[k]? = some b := ⟨_, List.getElem?_eq_getElem (by have := HL.out; omega)⟩
   have HA := h! ha
   have HBb := h! hb
   obtain ⟨bl, o, rfl, _, _, a0, a1⟩ := (H.out.below HB.out).at_ ha
   obtain ⟨bl', o', e', _, _, b0, b1⟩ := (H.out.below HB.out).at_ hb
   injection e' with e'
   injection e' with e1 e2
   subst e1 e2
   clear ha hb
   obtain ⟨j, hj⟩ : ∃ j, j = k - 1 := ⟨_, rfl⟩
   rw [← hj] at a0 a1 HA
   have hkj : IntKind.i64.wrap ((k : Int) - 1) = (j : Int) := by rw [IntKind.wrap_i64]; omega
   have hk0 : (0 : Int) ≤ (j : Int) := by omega
   have hkn : (j : Int) < (n : Int) := by omega
   have hk2 : (0 : Int) ≤ (k : Int) := by omega
   have hk3 : (k : Int) < (n : Int) := by omega
   have HJ := h! hj
   clear hj
   obtain ⟨q, hq⟩ : ∃ q, q = TM.less a b := ⟨_, rfl⟩
   have HQ := h! hq
   have C := h! (fun w => pless_any a b w)
   rw [← hq] at C
   clear hq
   obtain ⟨at_, ai⟩ := a
   obtain ⟨bt, bi⟩ := b
   unfold vsp at C
   simp only at a0 a1 b0 b1 C
   have HSS := h! (fun (W : World) (h : Below wr.heap.size wr W) => show W.cell? ⟨bl, o + j * 2, none⟩ = some (.int .i64 at_) ∧ W.cell? ⟨bl, o + j * 2 + 1, none⟩ = some (.int .i64 ai) ∧ W.cell? ⟨bl, o + k * 2, none⟩ = some (.int .i64 bt) ∧ W.cell? ⟨bl, o + k * 2 + 1, none⟩ = some (.int .i64 bi) from
    ⟨(h.cell (cell_block a0)).trans a0, (h.cell (cell_block a1)).trans a1, (h.cell (cell_block b0)).trans b0, (h.cell (cell_block b1)).trans b1⟩)
   have bb1 : Below wr.heap.size wr wr.drew := (Below.refl _ _).drew
   go_wp2_with fail
   go_region_held3 (fun W => W.cell? ⟨bl, o + j * 2, none⟩ = some (.int .i64 at_) ∧ W.cell? ⟨bl, o + j * 2 + 1, none⟩ = some (.int .i64 ai) ∧ W.cell? ⟨bl, o + k * 2, none⟩ = some (.int .i64 bt) ∧ W.cell? ⟨bl, o + k * 2 + 1, none⟩ = some (.int .i64 bi))
    (first | exact HSS.out _ bb1 | exact HSS.out _ hb3 | go_keep)
    ((go_at_call 54; refine (C.out _).mono ?_; rintro e w5 ⟨rfl, hb⟩; have hb3 := bmore bb1 hb n!))
   all_goals
    have HN := h! (bmore HB.out hb3 n!)
    clear hb3 hb bb1 HSS a0 a1 b0 b1 C
    rcases q with _ | _
    ·simp only [Bool.not_false]
     have HF := h! (show r = false by
      rw [HR.out]
      exact seen_no hk1 (by rw [← HJ.out]; exact HA.out) HBb.out HQ.out.symm)
     go_wp2_with fail
     go_ret
     exact ⟨by rw [HF.out]; rfl, HN.out⟩
    ·simp only [Bool.not_true]
     have HF := h! (HSn.out.next hk1 (by rw [← HJ.out]; exact HA.out) HBb.out HQ.out.symm)
     go_wp2_with fail
     go_roundw
     case rel => exact ⟨k + 1, by omega, by omega, by go_num, HN.out, HF⟩
     case measure => simp [intOf]; omega
  ·go_wp2_with fail
   go_ret
   exact ⟨by rw [HR.out, HSn.out.all (by have := HL.out; omega)]; rfl, HB.out⟩
end TP
end Go.Proofs.YteebeiaokfenmaaGreat
