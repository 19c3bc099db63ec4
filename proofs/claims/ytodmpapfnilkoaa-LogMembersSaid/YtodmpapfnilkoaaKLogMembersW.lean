/-
  The walk of LogMembers: members are some of the roster, and hang on the last change that counts alone. Conditions: any group, log and command.
-/
import Derived.Test.YtodmpapfnilkoaaK29
import Derived.Test.YtodmpapfnilkoaaK04
import Derived.Test.YtodmpapfnilkoaaK32
import Derived.Deep.QuietTactic
import Derived.BigQuiet
import Derived.Deep.RegionLaw
import Derived.Shelf.RegionOpenPlain
import Derived.Deep.DeepCutAuto
namespace Go.Proofs.Ytodmpapfnilkoaa
open Go.RowKit CP LP
open CM (Mg Cm)
set_option linter.unusedVariables false
set_option linter.unusedSimpArgs false
set_option maxRecDepth 100000

theorem may_ms {c : Cm} (h : CM.may c) (h3 : c.k = 3) : QM.may c.ms = true := by
  rcases h with rfl | ⟨h, _⟩ | ⟨h, _⟩ | ⟨_, _, _, _, h, _⟩ | ⟨h, _⟩ | ⟨h, _⟩
  · exact absurd h3 (by decide)
  · omega
  · omega
  · exact h
  · omega
  · omega
theorem turn_in {ros m : List Int} {c : Cm} (hw : QM.within m ros = true) (hm : QM.may m = true) (hc : CM.may c) : QM.within (LM.turn ros m c) ros = true ∧ QM.may (LM.turn ros m c) = true := by
  unfold LM.turn
  split
  · rename_i h
    exact ⟨h.2, may_ms hc h.1⟩
  · exact ⟨hw, hm⟩
theorem next_in {ros : List Int} : ∀ {cs : List Cm} {m : List Int}, QM.within m ros = true → QM.may m = true → (∀ c ∈ cs, CM.may c) → QM.within (LM.next ros m cs) ros = true ∧ QM.may (LM.next ros m cs) = true
  | [], m, hw, hm, h => ⟨hw, hm⟩
  | c :: cs, m, hw, hm, h => by
    obtain ⟨h1, h2⟩ := turn_in (c := c) hw hm (h c (by simp))
    exact next_in (cs := cs) h1 h2 (fun x hx => h x (by simp [hx]))
theorem grp_zero {rs ms : List Int} (h : QM.GrpIs rs ms 0) : QM.may ms = true ∧ QM.within ms rs = true := by
  have cz : ∀ {l : List Int}, QM.ChkIs l 0 → QM.may l = true := fun h => by
    rcases QM.chkIs_cases h with ⟨_, h⟩ | ⟨_, h | h⟩
    · exact h
    · exact absurd h (by decide)
    · exact absurd h (by decide)
  rcases h with ⟨_, h⟩ | ⟨_, _, h⟩ | ⟨_, h1, h2⟩
  · exact absurd rfl h
  · exact absurd rfl h
  · refine ⟨cz h1, ?_⟩
    rcases hw : QM.within ms rs with _ | _
    · rw [hw] at h2; simp at h2
    · rfl
theorem within_at {m r : List Int} (h : QM.within m r = true) {k : Nat} {u : Int} (hk : m[k]? = some u) : QM.has r u = true := List.all_eq_true.1 h u (List.mem_of_getElem? hk)
theorem within_take {m r : List Int} {k : Nat} {u : Int} (hk : m[k]? = some u) : QM.within (m.take (k + 1)) r = (QM.within (m.take k) r && QM.has r u) := by
  obtain ⟨hl, he⟩ := List.getElem?_eq_some_iff.1 hk
  unfold QM.within
  rw [List.take_succ_eq_append_getElem hl, List.all_append, he]
  simp
/-- what the call beside one more command answers -/
theorem next_more {l : List ByteArray} {x : Cm} {ros ms : List Int} (h : LM.chk l = 0) (hl : l.length ≤ 199) (hx : CM.may x) :
    LM.chk (l ++ [txt x]) = 0 ∧ LM.next ros ms (LM.cmds (l ++ [txt x])) = LM.turn ros (LM.next ros ms (LM.cmds l)) x := by
  obtain ⟨_, h2⟩ := LM.chk_zero.1 h
  refine ⟨LM.chk_zero.2 ⟨by simp; omega, fun s hs => ?_⟩, ?_⟩
  · rcases List.mem_append.1 hs with h | h
    · exact h2 s h
    · obtain rfl := List.mem_singleton.1 h
      exact (cm_txt hx).2
  · unfold LM.cmds
    rw [List.map_append]
    show LM.next ros ms (List.map LM.cm l ++ [LM.cm (txt x)]) = _
    rw [LM.next_snoc, (cm_txt hx).1]
theorem cmds_may {l : List ByteArray} (h : LM.chk l = 0) : ∀ c ∈ LM.cmds l, CM.may c := fun c hc => by
  obtain ⟨s, hs, rfl⟩ := List.mem_map.1 hc
  exact (LM.cm_may ((LM.chk_zero.1 h).2 s hs)).1
set_option maxHeartbeats 16000000 in
theorem logMembers_walk0 (PM : PMem) (gv : Value) (ros ms : List Int) (A : Option Addr) (n c : Nat) (l : List ByteArray) (xv : Value) (x : Cm) (w : World) (hG : GpIs w gv ros ms) (hT : TxIs w A n c l) (hX : CmIs w xv x) (hF : CmFit x) :
    Calls Try.prog 5 #[gv, .slice A n c, xv] w fun e w' => e = .returned (.bool true) ∧ Below w.heap.size w w' := by
  obtain ⟨G, cg, H, dh, rfl, g1, g2⟩ := hG
  obtain ⟨X1, xc1, X2, xc2, rfl, q1, q2⟩ := hX
  have hn63 := hT.small
  have gl1 : ros.length ≤ 9223372036854775807 := by have := g1.2.1; have := g1.2.2; unfold maxLen at this; omega
  have gl2 : ms.length ≤ 9223372036854775807 := by have := g2.2.1; have := g2.2.2; unfold maxLen at this; omega
  obtain ⟨i0, hi, hz0, hz1, hz2⟩ := info_parts info_st
  have HT := Lib.hid (fun W (hb : Below w.heap.size w W) => hT.below hb)
  have HG := Lib.hid (fun W (hb : Below w.heap.size w W) => (show GpIs W (.agg #[.slice G ros.length cg, .slice H ms.length dh]) ros ms from ⟨G, cg, H, dh, rfl, g1.below hb, g2.below hb⟩))
  have HRO := Lib.hid (fun W (hb : Below w.heap.size w W) => g1.below hb)
  have HLN := Lib.hid hT.len
  have HSZ := Lib.hid hT.2.2.2
  obtain ⟨yg, hyg⟩ := QM.grpIs_ex ros ms
  obtain ⟨z, hz⟩ : ∃ z, z = if yg = 0 then LM.chk l else yg := ⟨_, rfl⟩
  obtain ⟨mz, hmz⟩ : ∃ mz, mz = mbz z ros ms l := ⟨_, rfl⟩
  have KM1 := Lib.hid (fun W v C e (h1 : GpIs W v ros ms) (h3 : TxIs W C n e l) => (show Calls _ _ _ W (MbV z mz W) by rw [hmz, hz]; exact membersV PM v ros ms C n e l yg W h1 h3 hyg))
  have H0 := Lib.hid (show z ≠ 0 → mz = [] from fun h => by rw [hmz]; unfold mbz; rw [if_neg h])
  have H1 := Lib.hid (show z = 0 → LM.chk l = 0 ∧ QM.GrpIs ros ms 0 ∧ mz = LM.next ros ms (LM.cmds l) from fun h => by
    rw [hz] at h
    split at h
    · rename_i h0
      subst h0
      exact ⟨h, hyg, by rw [hmz, hz, if_pos rfl, h]; unfold mbz; rw [if_pos rfl]⟩
    · contradiction)
  have KW := Lib.hid (fun W (hb : Below w.heap.size w W) => pwrite_any x _ W ⟨X1, xc1, X2, xc2, rfl, q1.below hb, q2.below hb⟩ hF)
  have HQ2 := Lib.hid (fun W (hb : Below w.heap.size w W) => q2.below hb)
  have xl1 : x.m.gs.length ≤ 9223372036854775807 := by have := q1.2.1; have := q1.2.2; unfold maxLen at this; omega
  have xl2 : x.ms.length ≤ 9223372036854775807 := by have := q2.2.1; have := q2.2.2; unfold maxLen at this; omega
  have xl3 : x.m.key.size ≤ 9223372036854775807 := hF.2.1.2.2.1
  have xl4 : x.m.body.size ≤ 9223372036854775807 := hF.2.1.2.2.2
  obtain ⟨s, hs⟩ : ∃ s : ByteArray, s = (if CM.may x then (⟨(CM.wr x).toArray⟩ : ByteArray) else .empty) := ⟨_, rfl⟩
  obtain ⟨f, hf⟩ : ∃ f : Int, f = (if CM.may x then (0 : Int) else 120) := ⟨_, rfl⟩
  unfold WrIs at KW
  rw [← hs, ← hf] at KW
  have H2 := Lib.hid (show f = 0 → CM.may x ∧ s = txt x from fun h => by
    by_cases hm : CM.may x
    · exact ⟨hm, by rw [hs, if_pos hm]; rfl⟩
    · rw [hf, if_neg hm] at h; exact absurd h (by decide))
  clear hT g1 g2 q1 q2 hz hmz hyg hs hf
  unfold ccells at KW ⊢
  have HXX : Hid (Box ((w.alloc (.cells #[.slice G ros.length cg, .slice H ms.length dh] 33)).alloc (.cells (ccells X1 xc1 X2 xc2 x) 29)) w.heap.size 33 #[.slice G ros.length cg, .slice H ms.length dh]) := Lib.hid ((Box.new _ _ _).alloc _)
  have HY : Hid (Box ((w.alloc (.cells #[.slice G ros.length cg, .slice H ms.length dh] 33)).alloc (.cells (ccells X1 xc1 X2 xc2 x) 29)) (w.heap.size + 1) 29 (ccells X1 xc1 X2 xc2 x)) := Lib.hid (Box.new_at _ (by simp))
  have HB : Hid (Below w.heap.size w ((w.alloc (.cells #[.slice G ros.length cg, .slice H ms.length dh] 33)).alloc (.cells (ccells X1 xc1 X2 xc2 x) 29))) := Lib.hid (((Below.refl _ _).alloc (Nat.le_refl _) _).alloc (by simp) _)
  obtain ⟨k, ⟨mi, mg, mt, mk, mb⟩, aid, atm, ams, atp, awh, an⟩ := x
  unfold ccells at HXX HY HB
  simp only at HXX HY HB KW xl1 xl2 xl3 xl4 HQ2 ⊢
  go_enter Try.func5, Try.ntmps5
  go_upto_region 1 with (fail)
  generalize (w.alloc (.cells #[.slice G ros.length cg, .slice H ms.length dh] 33)).alloc (.cells #[.int .u8 k, .int .i64 mi, .slice X1 mg.length xc1, .int .i64 mt, .string mk, .string mb, .int .i64 aid, .int .i64 atm, .slice X2 ams.length xc2, .int .i64 atp, .int .i64 awh, .int .i64 an] 29) = w1 at HXX HY HB ⊢
  generalize w.heap.size + 1 = p1 at HY ⊢
  go_wp2_with fail
  refine (alive13_any PM w1).mono ?_
  rintro e w2 ⟨rfl, hb⟩
  replace HB := Lib.hid (bmore HB.out hb (Nat.le_refl _))
  replace HXX := Lib.hid (HXX.out.below hb HXX.out.lt)
  replace HY := Lib.hid (HY.out.below hb HY.out.lt)
  clear hb
  go_wp2_with fail
  refine (great13_any _ _ _ _ _ (HT.out _ HB.out)).mono ?_
  rintro e w3 ⟨b, rfl, rfl, hb⟩
  rcases b with _ | _
  rotate_left
  · clear hb
    go_wp2_with fail
    go_ret
    exact ⟨rfl, HB.out⟩
  clear hb
  obtain ⟨x0, x1, x2, x3, x4, x5, x6, x7, x8, x9, x10, x11⟩ := box_cm HY.out
  by_cases h1 : 199 < n
  · go_wp2_with fail
    go_ret
    exact ⟨rfl, HB.out⟩
  by_cases h2 : 100 < ams.length
  · go_wp2_with fail
    go_ret
    exact ⟨rfl, HB.out⟩
  by_cases h3 : 100 < mg.length
  · go_wp2_with fail
    go_ret
    exact ⟨rfl, HB.out⟩
  by_cases h4 : (5000 : Int) < wrap64 ((mk.size : Int) + (mb.size : Int))
  · go_wp2_with fail
    go_ret
    exact ⟨rfl, HB.out⟩
  have y0 := HXX.out.cell 0
  have y1 := HXX.out.cell 1
  simp at y0 y1
  go_wp2_with fail
  clear y0 y1 x0 x1 x2 x3 x4 x5 x6 x7 x8 x9 x10 x11
  refine (KM1.out w2 _ _ _ (HG.out _ HB.out) (HT.out _ HB.out)).mono ?_
  rintro e w4 ⟨vm, rfl, hm, hb⟩
  obtain ⟨M, cm, rfl, hrm, _⟩ := mb_form hm
  have HRM := Lib.hid hrm
  have hml : mz.length ≤ 9223372036854775807 := by have := hrm.2.1; have := hrm.2.2; unfold maxLen at this; omega
  replace HB := Lib.hid (bmore HB.out hb (Nat.le_refl _))
  replace HXX := Lib.hid (HXX.out.below hb HXX.out.lt)
  replace HY := Lib.hid (HY.out.below hb HY.out.lt)
  clear hb hm hrm KM1
  obtain ⟨x0, x1, x2, x3, x4, x5, x6, x7, x8, x9, x10, x11⟩ := box_cm HY.out
  go_wp2_with fail
  clear x0 x1 x2 x3 x4 x5 x6 x7 x8 x9 x10 x11
  refine (KW.out w4 HB.out).mono ?_
  rintro e w5 ⟨rfl, hb⟩
  replace HB := Lib.hid (bmore HB.out hb (Nat.le_refl _))
  replace HXX := Lib.hid (HXX.out.below hb HXX.out.lt)
  replace HY := Lib.hid (HY.out.below hb HY.out.lt)
  replace HRM := Lib.hid (HRM.out.below hb)
  clear hb KW
  by_cases hz : z = 0
  rotate_left
  · obtain rfl := H0.out hz
    go_wp2_with fail
    go_ret
    exact ⟨by first | rfl | simp, HB.out⟩
  by_cases hf : f = 0
  rotate_left
  · subst hz
    go_wp2_with fail
    go_ret
    exact ⟨by first | rfl | simp, HB.out⟩
  subst hz
  subst hf
  obtain ⟨hck, hgr, hmz⟩ := H1.out rfl
  obtain ⟨hmay, rfl⟩ := H2.out rfl
  obtain ⟨hmm, hwi⟩ := grp_zero hgr
  have hin := next_in hwi hmm (cmds_may hck)
  rw [← hmz] at hin
  have HIN := Lib.hid hin
  obtain ⟨xx, hxx⟩ : ∃ xx : Cm, xx = ⟨k, ⟨mi, mg, mt, mk, mb⟩, aid, atm, ams, atp, awh, an⟩ := ⟨_, rfl⟩
  rw [← hxx] at hmay ⊢
  have hmore := next_more (ros := ros) (ms := ms) hck (by have := HLN.out; omega) hmay
  rw [← hmz] at hmore
  have hturn : LM.turn ros mz xx = if k = 3 ∧ QM.within ams ros = true then ams else mz := by rw [hxx]; rfl
  rw [hturn] at hmore
  obtain ⟨mz2, hmz2⟩ : ∃ mz2, mz2 = if k = 3 ∧ QM.within ams ros = true then ams else mz := ⟨_, rfl⟩
  rw [← hmz2] at hmore
  have HM2 := Lib.hid hmz2
  have KM2 := Lib.hid (fun W v C e (h1 : GpIs W v ros ms) (h3 : TxIs W C (n + 1) e (l ++ [txt xx])) => (show Calls _ _ _ W (MbV 0 mz2 W) by
    have := membersV PM v ros ms C (n + 1) e _ 0 W h1 h3 hgr
    rw [if_pos rfl, hmore.1] at this
    unfold mbz at this
    rw [if_pos rfl, hmore.2] at this
    exact this))
  have HTS := Lib.hid (show (txt xx).size ≤ maxLen from txt_size (by have := (CM.wr_len hmay).2; omega))
  generalize txt xx = t at KM2 HTS ⊢
  have HQZ := Lib.hid (show ∀ u ∈ l ++ [t], u.size ≤ maxLen from fun u hu => by
    rcases List.mem_append.1 hu with h | h
    · exact HSZ.out u h
    · obtain rfl := List.mem_singleton.1 h
      exact HTS.out)
  clear H0 H1 H2 hck hgr hmm hwi hin hmore hturn hxx hmay hmz hmz2 HTS HSZ
  obtain ⟨x0, x1, x2, x3, x4, x5, x6, x7, x8, x9, x10, x11⟩ := box_cm HY.out
  go_wp2_with fail
  clear x0 x1 x2 x3 x4 x5 x6 x7 x8 x9 x10 x11
  go_loopw [12, 13] (fun a i wr => ∃ (j : Nat) (b : Bool), j ≤ ams.length ∧ i = .int .i64 j ∧ a = .bool b ∧ Below w5.heap.size w5 wr ∧ Hid (b = (decide (k = 3) && QM.within (ams.take j) ros))) (fun _ i _ => ams.length - (intOf i).toNat)
  case atStart => exact ⟨0, k == 3, by omega, rfl, rfl, Below.refl _ _, Lib.hid (by simp [QM.within]; first | rfl | (by_cases h : k = 3 <;> simp [h]))⟩
  case round =>
    obtain ⟨j, b, hj, rfl, rfl, hB, HR⟩ := hrel
    have HB5 := Lib.hid hB
    have HBW := Lib.hid (bmore HB.out hB (Nat.le_refl _))
    have HY5 := Lib.hid (HY.out.below hB HY.out.lt)
    have HX5 := Lib.hid (HXX.out.below hB HXX.out.lt)
    clear hB
    obtain ⟨_, _, _, _, _, _, _, _, x8, _, _, _⟩ := box_cm HY5.out
    have y0 := HX5.out.cell 0
    simp at y0
    by_cases hlt : j < ams.length
    · obtain ⟨ad, uu, rfl, _, hu, hcell⟩ := (HQ2.out _ HBW.out).1.at_ hlt
      obtain ⟨u, huu⟩ : ∃ u, ams[j]? = some u := ⟨_, List.getElem?_eq_getElem hlt⟩
      have hu2 : (ic ams)[j]? = some (.int .i64 u) := by rw [ic_get ams j hlt]; rw [List.getElem?_eq_getElem hlt] at huu; injection huu with huu; rw [huu]
      rw [hu2] at hu
      injection hu with hu
      subst hu
      have HWT := Lib.hid (within_take (r := ros) huu)
      have CH := Lib.hid (fun nq => (show Calls Try.prog 25 #[.slice G ros.length cg, .int .i64 u] (wr.drewN nq) (fun e w' => e = .returned (.bool (QM.has ros u)) ∧ ∃ m, w' = wr.drewN m) from
        (has_any G _ cg ros u (wr.drewN nq) ((HRO.out _ HBW.out).1.drewN nq) gl1).mono fun e w' ⟨h1, h2⟩ => ⟨h1, nq, h2.symm⟩))
      generalize QM.has ros u = hb at CH HWT
      clear hu2 huu
      have hj0 : (0 : Int) ≤ (j : Int) := by omega
      have hjl : (j : Int) < (ams.length : Int) := by omega
      rcases b with _ | _
      · have HN := Lib.hid (show false = (decide (k = 3) && QM.within (ams.take (j + 1)) ros) by rw [HWT.out, ← Bool.and_assoc, ← HR.out]; rfl)
        go_wp2_with fail
        go_quiet (fail)
        go_wp2_with fail
        go_roundw
        case rel => exact ⟨j + 1, false, by omega, by go_num, rfl, below_drewN HB5.out _, HN⟩
        case measure => simp [intOf]; omega
      · have HN := Lib.hid (show hb = (decide (k = 3) && QM.within (ams.take (j + 1)) ros) by rw [HWT.out, ← Bool.and_assoc, ← HR.out]; rfl)
        go_wp2_with fail
        go_quiet ((go_at_call 25; with_reducible exact CH.out _))
        go_wp2_with fail
        go_roundw
        case rel => exact ⟨j + 1, hb, by omega, by go_num, rfl, below_drewN HB5.out _, HN⟩
        case measure => simp [intOf]; omega
    · have HBF := Lib.hid (show b = (decide (k = 3) && QM.within ams ros) by have := HR.out; rwa [List.take_of_length_le (by omega)] at this)
      have HRM5 := Lib.hid (HRM.out.below HB5.out)
      clear HR HB HY HXX HRM y0
      go_wp2_with fail
      clear x8
      go_loopw [14] (fun i wq => ∃ j : Nat, j ≤ mz.length ∧ i = .int .i64 j ∧ Below wr.heap.size wr wq) (fun i _ => mz.length - (intOf i).toNat)
      case atStart => exact ⟨0, by omega, rfl, Below.refl _ _⟩
      case round =>
        obtain ⟨j2, hj2, rfl, hB⟩ := hrel
        have HBQ := Lib.hid (bmore HBW.out hB (Nat.le_refl _))
        have HYQ := Lib.hid (HY5.out.below hB HY5.out.lt)
        have HXQ := Lib.hid (HX5.out.below hB HX5.out.lt)
        have HRQ := Lib.hid (HRM5.out.below hB)
        have HBL := Lib.hid hB
        clear hB
        have y0 := HXQ.out.cell 0
        have y1 := HXQ.out.cell 1
        simp at y0 y1
        by_cases hlt : j2 < mz.length
        · obtain ⟨ad, uu, rfl, _, hu, hcell⟩ := HRQ.out.1.at_ hlt
          obtain ⟨u, huu⟩ : ∃ u, mz[j2]? = some u := ⟨_, List.getElem?_eq_getElem hlt⟩
          have hu2 : (ic mz)[j2]? = some (.int .i64 u) := by rw [ic_get mz j2 hlt]; rw [List.getElem?_eq_getElem hlt] at huu; injection huu with huu; rw [huu]
          rw [hu2] at hu
          injection hu with hu
          subst hu
          have CH := Lib.hid (fun nq => (show Calls Try.prog 25 #[.slice G ros.length cg, .int .i64 u] (wr.drewN nq) (fun e w' => e = .returned (.bool true) ∧ ∃ m, w' = wr.drewN m) from by
            have := has_any G _ cg ros u (wr.drewN nq) ((HRO.out _ HBQ.out).1.drewN nq) gl1
            rw [within_at HIN.out.1 huu] at this
            exact this.mono fun e w' ⟨h1, h2⟩ => ⟨h1, nq, h2.symm⟩))
          clear hu2 huu
          have hj0 : (0 : Int) ≤ (j2 : Int) := by omega
          have hjl : (j2 : Int) < (mz.length : Int) := by omega
          go_wp2_with fail
          go_quiet ((go_at_call 25; with_reducible exact CH.out _))
          go_wp2_with fail
          go_roundw
          case rel => exact ⟨j2 + 1, by omega, by go_num, below_drewN HBL.out _⟩
          case measure => simp [intOf]; omega
        · have mixed : Try.prog.follows Departure.mixedOrders = true := by kernel_rfl
          have d0 : Below wr.heap.size wr wr.drew := (Below.refl _ _).drew
          have d1 : Below wr.heap.size wr (wr.drew.alloc (.cells #[.string t] 9)) := d0.alloc (Nat.le_refl _) _
          have hone : ∀ u ∈ [Value.string t], u.oneCell' = true := by intro u hu; obtain rfl := List.mem_singleton.1 hu; rfl
          have hlit := Box.new wr.drew 9 #[.string t]
          have z0 := (HXQ.out.below d1 HXQ.out.lt).cell 0
          have z1 := (HXQ.out.below d1 HXQ.out.lt).cell 1
          simp at z0 z1
          have d2 : Below wr.heap.size wr (wr.alloc (.cells #[.string t] 9)) := (Below.refl _ _).alloc (Nat.le_refl _) _
          have v0 : (wr.alloc (.cells #[.string t] 9)).cell? ⟨w.heap.size, 0, none⟩ = some (.slice G ros.length cg) := (HXQ.out.below d2 HXQ.out.lt).cell 0
          have v1 : (wr.alloc (.cells #[.string t] 9)).cell? ⟨w.heap.size, 1, none⟩ = some (.slice H ms.length dh) := (HXQ.out.below d2 HXQ.out.lt).cell 1
          have t0 : (wr.alloc (.cells #[.string t] 9)).drew.cell? ⟨w.heap.size, 0, none⟩ = some (.slice G ros.length cg) := v0
          have t1 : (wr.alloc (.cells #[.string t] 9)).drew.cell? ⟨w.heap.size, 1, none⟩ = some (.slice H ms.length dh) := v1
          go_wp2_with fail
          go_region_law_o (first
            | (refine step_nil rfl (.const (.slice none 0 0)) (.tmp 118) 38 rfl wr.heap.size 9 i0 (.string ⟨#[]⟩) 16 Try.underlying38 hi hz0 hz1 hz2 rfl (by simp [Act.eval, Act.put]) _ n c (tcx l) (by simp [Act.eval, Act.put]) (HT.out _ (bmore HBQ.out d0 (Nat.le_refl _))).1 (tcx_one l) (by unfold maxLen; omega) (by omega) (d0).size ?_
               intro A3 c3 w8 hown3 hb3 k31 k32
               have d8 : Below wr.heap.size wr w8 := bmore d0 hb3 (Nat.le_refl _)
               have z0 := (HXQ.out.below (d8.alloc d8.size (.cells #[.string t] 9)) HXQ.out.lt).cell 0
               have z1 := (HXQ.out.below (d8.alloc d8.size (.cells #[.string t] 9)) HXQ.out.lt).cell 1
               have y0 := (HXQ.out.below d8 HXQ.out.lt).cell 0
               have y1 := (HXQ.out.below d8 HXQ.out.lt).cell 1
               simp at y0 y1 z0 z1)
            | (refine step_nil rfl (.const (.slice none 0 0)) (.tmp 118) 38 rfl wr.heap.size 9 i0 (.string ⟨#[]⟩) 16 Try.underlying38 hi hz0 hz1 hz2 rfl (by simp [Act.eval, Act.put]) _ n c (tcx l) (by simp [Act.eval, Act.put]) (HT.out _ (bmore HBQ.out d1 (Nat.le_refl _))).1 (tcx_one l) (by unfold maxLen; omega) (by omega) (d1).size ?_
               intro A3 c3 w8 hown3 hb3 k31 k32
               have d8 : Below wr.heap.size wr w8 := bmore d1 hb3 (Nat.le_refl _)
               have hlit8 := hlit.below hb3 hlit.lt
               have hl8 : RdG w8 1 (some ⟨wr.heap.size, 0, none⟩) 1 [.string t] := rdG_box hlit8 rfl rfl
               have hs8 : wr.heap.size ≤ w8.heap.size := d8.size
               clear hlit8
               have y0 := (HXQ.out.below d8 HXQ.out.lt).cell 0
               have y1 := (HXQ.out.below d8 HXQ.out.lt).cell 1
               simp at y0 y1)
            | (go_simp
               go_at_call 8
               refine (KM2.out w9 _ _ _ (HG.out _ (bmore HBQ.out d9 (Nat.le_refl _))) hT4).mono ?_
               rintro e w10 ⟨vm2, rfl, hm2, hb10⟩
               obtain ⟨M2, cm2, hv2, hrm2, _⟩ := mb_form hm2
               subst hv2)
            | (refine step_append_h rfl (.tmp 119) (.tmp 121) 38 rfl wr.heap.size 9 i0 (.string ⟨#[]⟩) 1 16 Try.underlying38 hi hz0 hz1 hz2 rfl (by omega) (.slice A3 n c3) n (tcx l) (by simp [Act.eval, Act.put]) (own_below3 hown3 ((Below.refl _ _).alloc (Nat.le_refl _) _)) (some ⟨w8.heap.size, 0, none⟩) 1 1 [.string t] (by simp [Act.eval, Act.put]) (rdG_box (Box.new w8 9 #[.string t]) rfl rfl) (by intro u hu; obtain rfl := List.mem_singleton.1 hu; rfl) (by unfold maxLen; omega) (by omega) (by have := d8.size; simp; omega) ?_
               intro v4 w9 hown4 hg4 hob4
               have d8' : Below wr.heap.size wr (w8.alloc (.cells #[.string t] 9)) := d8.alloc d8.size _
               have hown3' := own_below3 hown3 ((Below.refl w8.heap.size w8).alloc (Nat.le_refl _) (.cells #[.string t] 9))
               have d9 : Below wr.heap.size wr w9 := below_row d8' hown3' d8'.size hg4
               have hown4' : w9.ownsRow wr.heap.size 9 1 v4 (n + 1) (tcx (l ++ [t])) := by
                 have : tcx (l ++ [t]) = tcx l ++ [.string t] := by simp [tcx]
                 rw [this]; exact hown4
               obtain ⟨A4, c4, hv4, hT4⟩ := txIs_own hown4' HQZ.out
               subst hv4
               have y0 := (HXQ.out.below d9 HXQ.out.lt).cell 0
               have y1 := (HXQ.out.below d9 HXQ.out.lt).cell 1
               simp at y0 y1)
            | (refine step_append_h rfl (.tmp 119) (.tmp 121) 38 rfl wr.heap.size 9 i0 (.string ⟨#[]⟩) 1 16 Try.underlying38 hi hz0 hz1 hz2 rfl (by omega) (.slice A3 n c3) n (tcx l) (by simp [Act.eval, Act.put]) hown3 (some ⟨wr.heap.size, 0, none⟩) 1 1 [.string t] (by simp [Act.eval, Act.put]) hl8 hone (by unfold maxLen; omega) (by omega) hs8 ?_
               intro v4 w9 hown4 hg4 hob4
               have d8' := d8
               have hown3' := hown3
               have d9 : Below wr.heap.size wr w9 := below_row d8' hown3' d8'.size hg4
               have hown4' : w9.ownsRow wr.heap.size 9 1 v4 (n + 1) (tcx (l ++ [t])) := by
                 have : tcx (l ++ [t]) = tcx l ++ [.string t] := by simp [tcx]
                 rw [this]; exact hown4
               obtain ⟨A4, c4, hv4, hT4⟩ := txIs_own hown4' HQZ.out
               subst hv4
               have y0 := (HXQ.out.below d9 HXQ.out.lt).cell 0
               have y1 := (HXQ.out.below d9 HXQ.out.lt).cell 1
               simp at y0 y1))
          all_goals
            have dd : Below wr.heap.size wr w10 := bmore d9 hb10 (Nat.le_refl _)
            have HBX := Lib.hid (bmore HBQ.out dd (Nat.le_refl _))
            have HYX := Lib.hid (HYQ.out.below dd HYQ.out.lt)
            have HRX := Lib.hid (HRQ.out.below dd)
            have HR2 := Lib.hid hrm2
            have ml1 := hrm2.2
            have ml2 := HRQ.out.2
            have ml3 := (HQ2.out _ HBX.out).2
            clear dd d9 hb10 hrm2 hm2 hT4 hown4' hown4 hg4 hob4 d8' hown3' y0 y1 z0 z1 v0 v1 t0 t1 d0 d1 d2 hlit hone mixed HYQ HBQ HXQ HRQ HBL
            rcases b with _ | _
            · have e : mz2 = mz := by
                rw [HM2.out, if_neg]
                rintro ⟨a1, a2⟩
                have := HBF.out
                rw [a2] at this
                simp [a1] at this
              subst e
              clear HM2 HBF
              go_wp2_with fail
              refine (qcheck_any M _ cm _ 0 w10 HRX.out.1 hml (.inr (.inr ⟨HIN.out.2, rfl⟩))).mono ?_
              rintro e w11 ⟨rfl, rfl⟩
              go_wp2_with fail
              refine (same_ints_any M2 M cm2 cm _ _ w10 HR2.out.1 HRX.out.1 (Nat.le_trans ml1.1 ml1.2) (Nat.le_trans ml1.1 ml1.2)).mono ?_
              rintro e w12 ⟨rfl, hb⟩
              replace HBX := Lib.hid (bmore HBX.out hb (Nat.le_refl _))
              clear hb
              go_wp2_with fail
              go_ret
              exact ⟨by first | rfl | simp, HBX.out⟩
            · have e : mz2 = ams := by
                rw [HM2.out, if_pos]
                have := HBF.out.symm
                simpa using this
              subst e
              clear HM2 HBF
              obtain ⟨_, _, _, _, _, _, _, _, x8, _, _, _⟩ := box_cm HYX.out
              go_wp2_with fail
              refine (qcheck_any M _ cm _ 0 w10 HRX.out.1 hml (.inr (.inr ⟨HIN.out.2, rfl⟩))).mono ?_
              rintro e w11 ⟨rfl, rfl⟩
              go_wp2_with fail
              refine (same_ints_any M2 X2 cm2 xc2 _ _ w10 HR2.out.1 (HQ2.out _ HBX.out).1 (Nat.le_trans ml1.1 ml1.2) (Nat.le_trans ml1.1 ml1.2)).mono ?_
              rintro e w12 ⟨rfl, hb⟩
              replace HBX := Lib.hid (bmore HBX.out hb (Nat.le_refl _))
              clear hb
              go_wp2_with fail
              go_ret
              exact ⟨by first | rfl | simp, HBX.out⟩
end Go.Proofs.Ytodmpapfnilkoaa
