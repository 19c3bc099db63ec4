/-
  The walk of LogTells: logs are checked, their commands and members told, values found as the document's own functions do. Conditions: any log, group and value.
-/
import Derived.Test.YtodmpapfnilkoaaK29
import Derived.Test.YtodmpapfnilkoaaK14
import Derived.Deep.RegionHeld3
import Derived.Deep.DeepCutAuto
namespace Go.Proofs.Ytodmpapfnilkoaa
open Go.RowKit CP LP
open CM (Mg Cm)
set_option linter.unusedVariables false
set_option linter.unusedSimpArgs false
set_option maxRecDepth 100000

/-- what lies there all the walk long -/
structure TS (w : World) (A : Option Addr) (n c : Nat) (l : List ByteArray) (Ao : Option Addr) (co : Nat) (ros ms : List Int) (G : Option Addr) (cg : Nat) (H : Option Addr) (dh : Nat) (G2 : Option Addr) (cg2 : Nat) (H2 : Option Addr) (dh2 p8 : Nat) (W : World) : Prop where
  bl : Below w.heap.size w W
  tx : TxIs W A n c l
  tn : TxIs W Ao n co l
  gp : GpIs W (.agg #[.slice G ros.length cg, .slice H ms.length dh]) ros ms
  go : GpIs W (.agg #[.slice G2 ros.length cg2, .slice H2 ms.length dh2]) ros ms
  bx : Box W w.heap.size 33 #[.slice G ros.length cg, .slice H ms.length dh]
  by_ : Box W p8 33 #[.slice G2 ros.length cg2, .slice H2 ms.length dh2]
theorem TS.below {w : World} {A : Option Addr} {n c : Nat} {l : List ByteArray} {Ao : Option Addr} {co : Nat} {ros ms : List Int} {G : Option Addr} {cg : Nat} {H : Option Addr} {dh : Nat} {G2 : Option Addr} {cg2 : Nat} {H2 : Option Addr} {dh2 p8 : Nat} {W W' : World} (h : TS w A n c l Ao co ros ms G cg H dh G2 cg2 H2 dh2 p8 W) (hb : Below W.heap.size W W') : TS w A n c l Ao co ros ms G cg H dh G2 cg2 H2 dh2 p8 W' :=
  ⟨bmore h.bl hb (Nat.le_refl _), h.tx.below hb, h.tn.below hb, h.gp.below hb, h.go.below hb, h.bx.below hb h.bx.lt, h.by_.below hb h.by_.lt⟩
set_option maxHeartbeats 8000000 in
theorem logTells_walk0 (PM : PMem) (A : Option Addr) (n c : Nat) (l : List ByteArray) (gv : Value) (ros ms : List Int) (v : ByteArray) (w : World) (hT : TxIs w A n c l) (hG : GpIs w gv ros ms) (hv : v.size ≤ maxLen) :
    Calls Try.prog 4 #[.slice A n c, gv, .string v] w fun e w' => e = .returned (.bool true) ∧ Below w.heap.size w w' := by
  obtain ⟨G, cg, H, dh, rfl, g1, g2⟩ := hG
  have hn63 := hT.small
  have gl1 : ros.length ≤ 9223372036854775807 := by have := g1.2.1; have := g1.2.2; unfold maxLen at this; omega
  have gl2 : ms.length ≤ 9223372036854775807 := by have := g2.2.1; have := g2.2.2; unfold maxLen at this; omega
  have hv63 : v.size ≤ 9223372036854775807 := by unfold maxLen at hv; omega
  obtain ⟨i0, hi, hz0, hz1, hz2⟩ := info_parts info_st
  have HT := Lib.hid (fun W (hb : Below w.heap.size w W) => hT.below hb)
  have HG := Lib.hid (fun W (hb : Below w.heap.size w W) => (show GpIs W (.agg #[.slice G ros.length cg, .slice H ms.length dh]) ros ms from ⟨G, cg, H, dh, rfl, g1.below hb, g2.below hb⟩))
  have HX := Lib.hid (Box.new w 33 #[.slice G ros.length cg, .slice H ms.length dh])
  have HB := Lib.hid (show Below w.heap.size w (w.alloc (.cells #[.slice G ros.length cg, .slice H ms.length dh] 33)) from (Below.refl _ _).alloc (Nat.le_refl _) _)
  obtain ⟨yg, hyg⟩ := QM.grpIs_ex ros ms
  obtain ⟨y, hy⟩ : ∃ y, y = LM.chk l := ⟨_, rfl⟩
  obtain ⟨cs, hcs⟩ : ∃ cs, cs = csz l := ⟨_, rfl⟩
  obtain ⟨z, hz⟩ : ∃ z, z = if yg = 0 then LM.chk l else yg := ⟨_, rfl⟩
  obtain ⟨mz, hmz⟩ : ∃ mz, mz = mbz z ros ms l := ⟨_, rfl⟩
  obtain ⟨p, hp⟩ : ∃ p : Int, p = if LM.chk l = 0 then ((LM.place l v : Nat) : Int) else (0 : Int) := ⟨_, rfl⟩
  obtain ⟨bb, hbb⟩ : ∃ bb : Bool, bb = if LM.chk l = 0 then decide (0 < LM.place l v) else false := ⟨_, rfl⟩
  have KC1 := Lib.hid (fun W A c (h : TxIs W A n c l) => (show Calls _ _ _ W (CoV y cs W) by rw [hy, hcs]; exact commandsV A n c l W h))
  have KC2 := Lib.hid (fun W A c (h : TxIs W A n c l) (h5 : n ≤ 100000) => (show Calls _ _ _ W (CoV y cs W) by rw [hy, hcs]; exact commands13V A n c l W h h5))
  have KM1 := Lib.hid (fun W v C e (h1 : GpIs W v ros ms) (h3 : TxIs W C n e l) => (show Calls _ _ _ W (MbV z mz W) by rw [hmz, hz]; exact membersV PM v ros ms C n e l yg W h1 h3 hyg))
  have KM2 := Lib.hid (fun W v C e (h1 : GpIs W v ros ms) (f1 : ros.length ≤ 100000) (f2 : ms.length ≤ 100000) (h3 : TxIs W C n e l) (hk : n ≤ 100000) => (show Calls _ _ _ W (MbV z mz W) by rw [hmz, hz]; exact members13V v ros ms C n e l yg W h1 f1 f2 h3 hk hyg))
  have KF1 := Lib.hid (fun W A c (h : TxIs W A n c l) => (show Calls _ _ _ W (FiV p bb y W) by rw [hp, hbb, hy]; exact findV A n c l v W h))
  have KF2 := Lib.hid (fun W A c (h : TxIs W A n c l) => (show Calls _ _ _ W (FiV p bb y W) by rw [hp, hbb, hy]; exact find13V A n c l v W h))
  have KK1 := Lib.hid (fun W A c (h : TxIs W A n c l) => (show Calls _ _ _ W (NumIs y W) by rw [hy]; exact pcheck13_any A n c l W h))
  have KK2 := Lib.hid (fun W A c (h : TxIs W A n c l) => (show Calls _ _ _ W (NumIs y W) by rw [hy]; exact check13_any A n c l W h))
  have hcl : cs.length ≤ n := by rw [hcs, ← hT.len]; unfold csz; split <;> simp [LM.cmds]
  clear hT g1 g2 hy hcs hz hmz hp hbb hyg
  go_enter Try.func4, Try.ntmps4
  go_upto_region 1 with (fail)
  generalize w.alloc (.cells #[.slice G ros.length cg, .slice H ms.length dh] 33) = w1 at HX HB ⊢
  have x0 := HX.out.cell 0
  have x1 := HX.out.cell 1
  simp at x0 x1
  go_wp2_with fail
  refine (great13_any _ _ _ _ _ (HT.out _ HB.out)).mono ?_
  rintro e w2 ⟨b, rfl, rfl, hb⟩
  rcases b with _ | _
  rotate_left
  · clear hb
    go_wp2_with fail
    go_ret
    exact ⟨rfl, HB.out⟩
  clear hb
  by_cases h1 : 300 < n
  · go_wp2_with fail
    go_ret
    exact ⟨rfl, HB.out⟩
  by_cases h2 : 5000 < v.size
  · go_wp2_with fail
    go_ret
    exact ⟨rfl, HB.out⟩
  by_cases h3 : 1000 < ros.length
  · go_wp2_with fail
    go_ret
    exact ⟨rfl, HB.out⟩
  by_cases h4 : 1000 < ms.length
  · go_wp2_with fail
    go_ret
    exact ⟨rfl, HB.out⟩
  go_wp2_with (at_builtin; refine wpList_append_rd _ rfl _ _ 38 rfl w1.heap.size 9 i0 (.string ⟨#[]⟩) 16 Try.underlying38 hi hz0 hz1 hz2 rfl (.slice none 0 0) 0 [] rfl (World.ownsRow_nil _ _ _ _) A n c (tcx l) rfl (HT.out _ HB.out).1 (tcx_one l) (by unfold maxLen; omega) (by omega) (Nat.le_refl _) ?_; intro v2 w2 hown2 hg2 hob2; have hb2 : Below w1.heap.size w1 w2 := below_of_grown hg2 (by simp [Value.ownBlock]); clear x0 x1; have x0 := (HX.out.below hb2 HX.out.lt).cell 0; have x1 := (HX.out.below hb2 HX.out.lt).cell 1; simp at x0 x1)
  simp only [Nat.zero_add, List.nil_append] at hown2
  obtain ⟨Ao, co, rfl, hTo⟩ := txIs_own hown2 (HT.out _ HB.out).2.2.2
  have HB2 := Lib.hid (bmore HB.out hb2 (Nat.le_refl _))
  have HX2 := Lib.hid (HX.out.below hb2 HX.out.lt)
  have HTo := Lib.hid hTo
  clear hown2 hg2 hob2 hb2 hTo HX HB x0 x1
  refine (twinGroup_any _ ros ms w2 (HG.out _ HB2.out) (by omega) (by omega)).mono ?_
  rintro e w3 ⟨gv2, rfl, ⟨G2, cg2, H2, dh2, rfl, q1, q2⟩, hb⟩
  have hb3 : Below w3.heap.size w3 (w3.alloc (.cells #[.slice G2 ros.length cg2, .slice H2 ms.length dh2] 33)) := (Below.refl _ _).alloc (Nat.le_refl _) _
  have hb4 := bmore hb hb3 (Nat.le_refl _)
  have hTS : TS w A n c l Ao co ros ms G cg H dh G2 cg2 H2 dh2 w3.heap.size (w3.alloc (.cells #[.slice G2 ros.length cg2, .slice H2 ms.length dh2] 33)) :=
    ⟨bmore HB2.out hb4 (Nat.le_refl _), HT.out _ (bmore HB2.out hb4 (Nat.le_refl _)), HTo.out.below hb4, HG.out _ (bmore HB2.out hb4 (Nat.le_refl _)), ⟨G2, cg2, H2, dh2, rfl, q1.below hb3, q2.below hb3⟩, HX2.out.below hb4 HX2.out.lt, Box.new _ _ _⟩
  have HS := Lib.hid hTS
  clear hb hb3 hb4 hTS q1 q2 HB2 HX2 HTo HT HG
  go_upto_region 5 with (fail)
  generalize w3.alloc (.cells #[.slice G2 ros.length cg2, .slice H2 ms.length dh2] 33) = w4 at HS ⊢
  generalize w3.heap.size = p8 at HS ⊢
  go_wp2_with fail
  refine (KC1.out w4 _ _ HS.out.tn).mono ?_
  rintro e w5 ⟨va, rfl, hca, hb⟩
  obtain ⟨AA, ca, esA, rfl, hea, hra⟩ := rw_of hca
  have HEA := Lib.hid hea
  have HRA := Lib.hid hra
  replace HS := Lib.hid (HS.out.below hb)
  clear hb hca hea hra KC1
  go_wp2_with fail
  refine (KC2.out w5 _ _ HS.out.tx (by omega)).mono ?_
  rintro e w6 ⟨vb, rfl, hcb, hb⟩
  obtain ⟨BB, cb, esB, rfl, heb, hrb⟩ := rw_of hcb
  have HEB := Lib.hid heb
  have HRB := Lib.hid hrb
  replace HS := Lib.hid (HS.out.below hb)
  replace HRA := Lib.hid (HRA.out.below hb)
  clear hb hcb heb hrb KC2
  have y0 := HS.out.by_.cell 0
  have y1 := HS.out.by_.cell 1
  simp at y0 y1
  go_wp2_with fail
  refine (KM1.out w6 _ _ _ HS.out.go HS.out.tn).mono ?_
  rintro e w7 ⟨vm, rfl, hm, hb⟩
  obtain ⟨M, cm, rfl, hrm, htn⟩ := mb_form hm
  have HL := Lib.hid hb
  have HRM := Lib.hid hrm
  have HTN := Lib.hid htn
  have hml : mz.length ≤ maxLen := Nat.le_trans hrm.2.1 hrm.2.2
  have HS6 := HS
  replace HS := Lib.hid (HS.out.below hb)
  replace HRA := Lib.hid (HRA.out.below hb)
  replace HRB := Lib.hid (HRB.out.below hb)
  clear hb hm hrm htn KM1 y0 y1
  have x0 := HS.out.bx.cell 0
  have x1 := HS.out.bx.cell 1
  simp at x0 x1
  go_wp2_with fail
  refine (KM2.out w7 _ _ _ HS.out.gp (by omega) (by omega) HS.out.tx (by omega)).mono ?_
  rintro e w8 ⟨vn, rfl, hn, hb⟩
  obtain ⟨N, cn, rfl, hrn, _⟩ := mb_form hn
  have HRN := Lib.hid hrn
  replace HL := Lib.hid (bmore HL.out hb (Nat.le_refl _))
  replace HRM := Lib.hid (HRM.out.below hb)
  replace HTN := Lib.hid (HTN.out.below hb)
  replace HS := Lib.hid (HS.out.below hb)
  replace HRA := Lib.hid (HRA.out.below hb)
  replace HRB := Lib.hid (HRB.out.below hb)
  clear hb hn hrn KM2 x0 x1
  go_wp2_with fail
  refine (KF1.out w8 _ _ HS.out.tn).mono ?_
  rintro e w9 ⟨rfl, hb⟩
  replace HL := Lib.hid (bmore HL.out hb (Nat.le_refl _))
  replace HRN := Lib.hid (HRN.out.below hb)
  replace HRM := Lib.hid (HRM.out.below hb)
  replace HTN := Lib.hid (HTN.out.below hb)
  replace HS := Lib.hid (HS.out.below hb)
  replace HRA := Lib.hid (HRA.out.below hb)
  replace HRB := Lib.hid (HRB.out.below hb)
  clear hb KF1
  go_wp2_with fail
  refine (KF2.out w9 _ _ HS.out.tx).mono ?_
  rintro e w10 ⟨rfl, hb⟩
  replace HL := Lib.hid (bmore HL.out hb (Nat.le_refl _))
  replace HRN := Lib.hid (HRN.out.below hb)
  replace HRM := Lib.hid (HRM.out.below hb)
  replace HTN := Lib.hid (HTN.out.below hb)
  replace HS := Lib.hid (HS.out.below hb)
  replace HRA := Lib.hid (HRA.out.below hb)
  replace HRB := Lib.hid (HRB.out.below hb)
  clear hb KF2
  have e1 : ((cs.length : Int) != (cs.length : Int)) = false := by simp
  have e2 : (y != y) = false := by simp
  have e3 : (z != z) = false := by simp
  have e4 : (p != p) = false := by simp
  have e5 : (bb != bb) = false := by simp
  go_wp2_with fail
  refine (same_ints_any M N cm cn mz mz w10 HRM.out.1 HRN.out.1 hml hml).mono ?_
  rintro e w11 ⟨rfl, hb⟩
  rw [show decide (mz = mz) = true by simp]
  replace HL := Lib.hid (bmore HL.out hb (Nat.le_refl _))
  replace HTN := Lib.hid (HTN.out.below hb)
  replace HS := Lib.hid (HS.out.below hb)
  replace HRA := Lib.hid (HRA.out.below hb)
  replace HRB := Lib.hid (HRB.out.below hb)
  clear hb HRM HRN
  go_wp2_with fail
  refine (KK1.out w11 _ _ HS.out.tn).mono ?_
  rintro e w12 ⟨rfl, hb⟩
  replace HL := Lib.hid (bmore HL.out hb (Nat.le_refl _))
  replace HTN := Lib.hid (HTN.out.below hb)
  replace HS := Lib.hid (HS.out.below hb)
  replace HRA := Lib.hid (HRA.out.below hb)
  replace HRB := Lib.hid (HRB.out.below hb)
  clear hb KK1
  go_wp2_with fail
  refine (KK2.out w12 _ _ HS.out.tx).mono ?_
  rintro e w13 ⟨rfl, hb⟩
  replace HL := Lib.hid (bmore HL.out hb (Nat.le_refl _))
  replace HTN := Lib.hid (HTN.out.below hb)
  replace HS := Lib.hid (HS.out.below hb)
  replace HRA := Lib.hid (HRA.out.below hb)
  replace HRB := Lib.hid (HRB.out.below hb)
  clear hb KK2 HS
  go_wp2_with fail
  obtain ⟨q, hq⟩ : ∃ q, q = cs.length := ⟨_, rfl⟩
  have HQ := Lib.hid hq
  rw [← hq] at hcl ⊢
  clear hq
  go_loopw [23] (fun i wr => ∃ k : Nat, k ≤ q ∧ i = .int .i64 k ∧ Below w13.heap.size w13 wr) (fun i _ => q - (intOf i).toNat)
  case atStart => exact ⟨0, by omega, rfl, Below.refl _ _⟩
  case round =>
    obtain ⟨k, hk, rfl, hB⟩ := hrel
    have HB := Lib.hid hB
    clear hB
    by_cases hlt : k < q
    · have hla : esA.length = q := by rw [HQ.out, ← HEA.out, List.length_map]
      have hlb : esB.length = q := by rw [HQ.out, ← HEB.out, List.length_map]
      obtain ⟨ea, hea⟩ : ∃ ea, esA[k]? = some ea := ⟨_, List.getElem?_eq_getElem (by omega)⟩
      obtain ⟨eb, heb⟩ : ∃ eb, esB[k]? = some eb := ⟨_, List.getElem?_eq_getElem (by omega)⟩
      have hx : ea.x = eb.x := by
        have h1 : cs[k]? = some ea.x := by rw [← HEA.out, List.getElem?_map, hea]; rfl
        have h2 : cs[k]? = some eb.x := by rw [← HEB.out, List.getElem?_map, heb]; rfl
        rw [h1] at h2
        injection h2
      obtain ⟨ba, oa, rfl, hba, ata, ra1, ra2⟩ := HRA.out.below HB.out k ea hea
      obtain ⟨bb2, ob, rfl, hbb2, atb, rb1, rb2⟩ := HRB.out.below HB.out k eb heb
      clear hea heb hla hlb
      obtain ⟨A1, c1, P1, d1, xa⟩ := ea
      obtain ⟨A3, c3, P3, d3, xb⟩ := eb
      simp only at hx ata atb ra1 ra2 rb1 rb2
      subst hx
      have KS := Lib.hid (fun W (hb : Below wr.heap.size wr W) => (show Calls _ _ _ W (BoolIs true W) by
        have := same12_any xa xa _ _ W ⟨A1, c1, P1, d1, rfl, ra1.below hb, ra2.below hb⟩ ⟨A3, c3, P3, d3, rfl, rb1.below hb, rb2.below hb⟩
        rw [show decide (xa = xa) = true by simp] at this
        exact this))
      obtain ⟨k0, ⟨mi, mg, mt, mk, mb⟩, aid, atm, ams, atp, awh, an⟩ := xa
      obtain ⟨x0, x1, x2, x3, x4, x5, x6, x7, x8, x9, x10, x11⟩ := ata
      obtain ⟨y0, y1, y2, y3, y4, y5, y6, y7, y8, y9, y10, y11⟩ := atb
      simp only at x0 x1 x2 x3 x4 x5 x6 x7 x8 x9 x10 x11 y0 y1 y2 y3 y4 y5 y6 y7 y8 y9 y10 y11 KS
      clear ra1 ra2 rb1 rb2
      have hk0 : (0 : Int) ≤ (k : Int) := by omega
      have hkq : (k : Int) < (q : Int) := by omega
      go_wp2_with fail
      go_region_with (refine (KS.out _ (by first | exact (Below.refl _ _).drew | exact below_drewN (Below.refl _ _) _)).mono ?_; rintro e w5 ⟨rfl, hb⟩)
      all_goals
        have HB2 := Lib.hid (bmore HB.out (Below.trans (Below.refl _ _).drew hb) (Nat.le_refl _))
        clear hb x0 x1 x2 x3 x4 x5 x6 x7 x8 x9 x10 x11 y0 y1 y2 y3 y4 y5 y6 y7 y8 y9 y10 y11 KS
        go_wp2_with fail
        go_roundw
        case rel => exact ⟨k + 1, by omega, by go_num, HB2.out⟩
        case measure => simp [intOf]; omega
    · have HB6 := Lib.hid (bmore HL.out HB.out (Nat.le_refl _))
      have HT6 := Lib.hid (HTN.out.below HB.out)
      clear HL HTN HRA HRB HEA HEB HB
      obtain ⟨r, hr⟩ : ∃ r, r = mz.length := ⟨_, rfl⟩
      rw [← hr] at HT6 ⊢
      rw [← hr] at hml
      unfold maxLen at hml
      clear hr
      go_wp2_with fail
      go_loopw [24] (fun i wq => ∃ j : Nat, j ≤ r ∧ i = .int .i64 j ∧ Below w6.heap.size w6 wq ∧ Tn w6.heap.size wq M r) (fun i _ => r - (intOf i).toNat)
      case atStart => exact ⟨0, by omega, rfl, HB6.out, HT6.out⟩
      case round =>
        clear HB6 HT6
        obtain ⟨j, hj, rfl, hB2, hT2⟩ := hrel
        by_cases hlt2 : j < r
        · obtain ⟨g, cur, rfl, hg, hbx, hsz⟩ := hT2 (by omega)
          obtain ⟨u0, hu0⟩ : ∃ u0, cur[j]? = some u0 := ⟨_, Array.getElem?_eq_getElem (by omega)⟩
          have hcell := (hbx.cell j).trans hu0
          have hfro := hbx.frozen j
          have HN := Lib.hid (show Below w6.heap.size w6 (wr.setCell ⟨g, j, none⟩ (.int .i64 77)) ∧ Tn w6.heap.size (wr.setCell ⟨g, j, none⟩ (.int .i64 77)) (some ⟨g, 0, none⟩) r from
            ⟨hB2.setCell (p := ⟨g, j, none⟩) hg _, fun _ => ⟨g, _, rfl, hg, hbx.stored j _, by simpa using hsz⟩⟩)
          clear hB2 hT2 hbx hu0 hsz
          go_wp2_with fail
          go_roundw
          case rel => exact ⟨j + 1, by omega, by go_num, HN.out⟩
          case measure => simp [intOf]; omega
        · have HS := Lib.hid (HS6.out.below hB2)
          clear HS6 hB2 hT2
          go_wp2_with fail
          refine (sameT_any Ao n co A c l _ HS.out.tn HS.out.tx).mono ?_
          rintro e w15 ⟨rfl, hb⟩
          replace HS := Lib.hid (HS.out.below hb)
          clear hb
          have x0 := HS.out.bx.cell 0
          have x1 := HS.out.bx.cell 1
          have y0 := HS.out.by_.cell 0
          have y1 := HS.out.by_.cell 1
          simp at x0 x1 y0 y1
          go_wp2_with fail
          refine (sameGroup_any _ _ ros ms _ HS.out.go HS.out.gp).mono ?_
          rintro e w16 ⟨rfl, hb⟩
          replace HS := Lib.hid (HS.out.below hb)
          clear hb x0 x1 y0 y1
          go_wp2_with fail
          go_ret
          exact ⟨rfl, HS.out.bl⟩
end Go.Proofs.Ytodmpapfnilkoaa
