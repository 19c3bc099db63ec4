/-
  The walk of LogFinds: a log's commands are written as its values, what was found stays where it is. Conditions: any log, what comes behind, and value.
-/
import Derived.Test.YtodmpapfnilkoaaK29
import Derived.Deep.DeepCutAuto
namespace Go.Proofs.Ytodmpapfnilkoaa
open Go.RowKit CP LP
open CM (Mg Cm)
set_option linter.unusedVariables false
set_option linter.unusedSimpArgs false
set_option maxRecDepth 100000

theorem fit_may {c : Cm} (h : CM.may c) : CmFit c := by
  have := fr_fit (CM.wr c)
  rwa [fr_wr h] at this
theorem txt_cm {s : ByteArray} (h : LM.er s = 0) : txt (LM.cm s) = s := RM.bsz_eq (LM.cm_may h).2
theorem tcx_append (l r : List ByteArray) : tcx (l ++ r) = tcx l ++ tcx r := by simp [tcx]
set_option maxHeartbeats 8000000 in
theorem logFinds_walk0 (PM : PMem) (A : Option Addr) (n c : Nat) (l : List ByteArray) (B : Option Addr) (m d : Nat) (more : List ByteArray) (v : ByteArray) (w : World) (hT : TxIs w A n c l) (hT2 : TxIs w B m d more) (hv : v.size ≤ maxLen) :
    Calls Try.prog 6 #[.slice A n c, .slice B m d, .string v] w fun e w' => e = .returned (.bool true) ∧ Below w.heap.size w w' := by
  have hn63 := hT.small
  have hm63 := hT2.small
  have hv63 : v.size ≤ 9223372036854775807 := by unfold maxLen at hv; omega
  obtain ⟨i0, hi, hz0, hz1, hz2⟩ := info_parts info_st
  have HT := Lib.hid (fun W (hb : Below w.heap.size w W) => hT.below hb)
  have HT2 := Lib.hid (fun W (hb : Below w.heap.size w W) => hT2.below hb)
  have HLN := Lib.hid hT.len
  have HSZ := Lib.hid (show ∀ s ∈ l ++ more, s.size ≤ maxLen from fun s hs => by
    rcases List.mem_append.1 hs with h | h
    · exact hT.2.2.2 s h
    · exact hT2.2.2.2 s h)
  obtain ⟨y, hy⟩ : ∃ y, y = LM.chk l := ⟨_, rfl⟩
  obtain ⟨cs, hcs⟩ : ∃ cs, cs = csz l := ⟨_, rfl⟩
  obtain ⟨p, hp⟩ : ∃ p : Int, p = if LM.chk l = 0 then ((LM.place l v : Nat) : Int) else (0 : Int) := ⟨_, rfl⟩
  obtain ⟨bb, hbb⟩ : ∃ bb : Bool, bb = if LM.chk l = 0 then decide (0 < LM.place l v) else false := ⟨_, rfl⟩
  obtain ⟨y2, hy2⟩ : ∃ y, y = LM.chk (l ++ more) := ⟨_, rfl⟩
  obtain ⟨p2, hp2⟩ : ∃ p : Int, p = if LM.chk (l ++ more) = 0 then ((LM.place (l ++ more) v : Nat) : Int) else (0 : Int) := ⟨_, rfl⟩
  obtain ⟨bb2, hbb2⟩ : ∃ bb : Bool, bb = if LM.chk (l ++ more) = 0 then decide (0 < LM.place (l ++ more) v) else false := ⟨_, rfl⟩
  have KC := Lib.hid (fun W A c (h : TxIs W A n c l) => (show Calls _ _ _ W (CoV y cs W) by rw [hy, hcs]; exact commandsV A n c l W h))
  have KF := Lib.hid (fun W A c (h : TxIs W A n c l) => (show Calls _ _ _ W (FiV p bb y W) by rw [hp, hbb, hy]; exact findV A n c l v W h))
  have KF2 := Lib.hid (fun W A c (h : TxIs W A (n + m) c (l ++ more)) => (show Calls _ _ _ W (FiV p2 bb2 y2 W) by rw [hp2, hbb2, hy2]; exact findV A (n + m) c (l ++ more) v W h))
  have H0 := Lib.hid (show y ≠ 0 → bb = false ∧ cs = [] from fun h => by
    rw [hy] at h
    exact ⟨by rw [hbb, if_neg h], by rw [hcs]; unfold csz; rw [if_neg h]⟩)
  have H1 := Lib.hid (show y = 0 → LM.chk l = 0 ∧ p = ((LM.place l v : Nat) : Int) ∧ bb = decide (0 < LM.place l v) ∧ cs = LM.cmds l from fun h => by
    rw [hy] at h
    exact ⟨h, by rw [hp, if_pos h], by rw [hbb, if_pos h], by rw [hcs]; unfold csz; rw [if_pos h]⟩)
  have H2 := Lib.hid (show y2 = 0 → p2 = ((LM.place (l ++ more) v : Nat) : Int) ∧ bb2 = decide (0 < LM.place (l ++ more) v) from fun h => by
    rw [hy2] at h
    exact ⟨by rw [hp2, if_pos h], by rw [hbb2, if_pos h]⟩)
  clear hT hT2 hy hcs hp hbb hy2 hp2 hbb2
  go_enter Try.func6, Try.ntmps6
  go_wp2_with fail
  refine (alive13_any PM w).mono ?_
  rintro e w1 ⟨rfl, hb⟩
  have HB := Lib.hid hb
  clear hb
  go_wp2_with fail
  refine (great13_any _ _ _ _ _ (HT.out _ HB.out)).mono ?_
  rintro e w2 ⟨b, rfl, rfl, hb⟩
  rcases b with _ | _
  rotate_left
  · clear hb
    go_wp2_with fail
    go_ret
    exact ⟨rfl, HB.out⟩
  have h1000 := hb rfl
  clear hb
  go_wp2_with fail
  refine (great13_any _ _ _ _ _ (HT2.out _ HB.out)).mono ?_
  rintro e w2 ⟨b, rfl, rfl, hb⟩
  rcases b with _ | _
  rotate_left
  · clear hb
    go_wp2_with fail
    go_ret
    exact ⟨rfl, HB.out⟩
  have m1000 := hb rfl
  clear hb
  by_cases h2 : 5000 < v.size
  · go_wp2_with fail
    go_ret
    exact ⟨rfl, HB.out⟩
  go_wp2_with fail
  refine (KC.out w1 _ _ (HT.out _ HB.out)).mono ?_
  rintro e w5 ⟨va, rfl, hca, hb⟩
  obtain ⟨AA, ca, es, rfl, hea, hra⟩ := rw_of hca
  have HEA := Lib.hid hea
  have HRA := Lib.hid hra
  replace HB := Lib.hid (bmore HB.out hb (Nat.le_refl _))
  clear hb hca hea hra KC
  go_wp2_with fail
  refine (KF.out w5 _ _ (HT.out _ HB.out)).mono ?_
  rintro e w6 ⟨rfl, hb⟩
  replace HB := Lib.hid (bmore HB.out hb (Nat.le_refl _))
  replace HRA := Lib.hid (HRA.out.below hb)
  clear hb KF
  by_cases hy : y = 0
  rotate_left
  · obtain ⟨rfl, rfl⟩ := H0.out hy
    go_wp2_with fail
    go_ret
    exact ⟨by first | rfl | simp, HB.out⟩
  subst hy
  obtain ⟨hck, hp, hbb, rfl⟩ := H1.out rfl
  have hall := (LM.chk_zero.1 hck).2
  have h200 := (LM.chk_zero.1 hck).1
  rw [HLN.out] at h200
  obtain ⟨q, hq⟩ : ∃ q, q = LM.place l v := ⟨_, rfl⟩
  rw [← hq] at hp hbb
  have hqn : q ≤ n := by rw [hq, ← HLN.out]; exact place_le l v
  have hin : 0 < q → v ∈ l := fun h => Classical.byContradiction fun hn => by
    have : LM.placeF v 0 l = 0 := LM.placeF_zero.2 hn
    rw [hq] at h
    unfold LM.place at h
    omega
  have HF0 : Hid (bb = false → ∀ k s, l[k]? = some s → s ≠ v) := Lib.hid (fun h k s hs e => by
    have h0 : q = 0 := by rw [hbb] at h; simpa using h
    exact LM.placeF_zero.1 (show LM.placeF v 0 l = 0 by rw [hq] at h0; exact h0) (e ▸ List.mem_of_getElem? hs))
  have HF1 : Hid (bb = true → 1 ≤ p ∧ p ≤ n ∧ (∃ i : Nat, i < n ∧ p = (i : Int) + 1 ∧ l[i]? = some v) ∧ ∀ (k : Nat) s, (k : Int) < p - 1 → l[k]? = some s → s ≠ v) := Lib.hid (fun h => by
    have h0 : 0 < q := by rw [hbb] at h; simpa using h
    obtain ⟨i, h1, h2, h3, h4⟩ := LM.placeF_at (k := 0) (hin h0)
    have e : q = i + 1 := by rw [hq]; unfold LM.place; omega
    exact ⟨by omega, by omega, ⟨i, by omega, by omega, h3⟩, fun k s hk hs e2 => h4 k (by omega) (by rw [hs, e2])⟩)
  have HF2 : Hid (bb = true → ((LM.place (l ++ more) v : Nat) : Int) = p) := Lib.hid (fun h => by
    have h0 : 0 < q := by rw [hbb] at h; simpa using h
    rw [hp, hq]
    congr 1
    exact LM.placeF_append (hin h0))
  have HALL := Lib.hid hall
  have hcl : (LM.cmds l).length = n := by rw [← HLN.out]; simp [LM.cmds]
  rw [hcl]
  clear H0 H1 hck hall hin hq hcl hp hbb hqn q
  go_wp2_with fail
  go_loopw [13] (fun i wr => ∃ k : Nat, k ≤ n ∧ i = .int .i64 k ∧ Below w6.heap.size w6 wr) (fun i _ => n - (intOf i).toNat)
  case atStart => exact ⟨0, by omega, rfl, Below.refl _ _⟩
  case round =>
    obtain ⟨k, hk, rfl, hB⟩ := hrel
    have HB6 := Lib.hid hB
    have HBW := Lib.hid (bmore HB.out hB (Nat.le_refl _))
    clear hB
    by_cases hlt : k < n
    · have hkz : k < l.length := by have := HLN.out; omega
      have hle : es.length = n := by have := congrArg List.length HEA.out; simp [LM.cmds] at this; rw [this]; exact HLN.out
      obtain ⟨ea, hea⟩ : ∃ ea, es[k]? = some ea := ⟨_, List.getElem?_eq_getElem (by omega)⟩
      obtain ⟨s, hs⟩ : ∃ s, l[k]? = some s := ⟨_, List.getElem?_eq_getElem hkz⟩
      have hx : ea.x = LM.cm s := by
        have h1 : (LM.cmds l)[k]? = some ea.x := by rw [← HEA.out, List.getElem?_map, hea]; rfl
        have h2 : (LM.cmds l)[k]? = some (LM.cm s) := by unfold LM.cmds; rw [List.getElem?_map, hs]; rfl
        rw [h1] at h2
        injection h2
      have her := HALL.out s (List.mem_of_getElem? hs)
      obtain ⟨ba, oa, rfl, hba, ata, ra1, ra2⟩ := HRA.out.below HB6.out k ea hea
      have hz1 := fun h => HF0.out h k s hs
      have hz2 := fun h h' => (HF1.out h).2.2.2 k s h' hs
      clear hea hle
      obtain ⟨A1, c1, P1, d1, xa⟩ := ea
      simp only at hx ata ra1 ra2
      have KW := Lib.hid (fun W (hb : Below wr.heap.size wr W) => (show Calls _ _ _ W (fun e w' => e = .returned (.tuple #[.string s, .int .i64 0]) ∧ Below W.heap.size W w') by
        have hmay := (LM.cm_may her).1
        rw [← hx] at hmay
        have := pwrite_any xa _ W ⟨A1, c1, P1, d1, rfl, ra1.below hb, ra2.below hb⟩ (fit_may hmay)
        unfold WrIs at this
        rw [if_pos hmay, if_pos hmay, show (⟨(CM.wr xa).toArray⟩ : ByteArray) = s by rw [hx]; exact txt_cm her] at this
        exact this))
      obtain ⟨k0, ⟨mi, mg, mt, mk, mb⟩, aid, atm, ams, atp, awh, an⟩ := xa
      obtain ⟨x0, x1, x2, x3, x4, x5, x6, x7, x8, x9, x10, x11⟩ := ata
      simp only at x0 x1 x2 x3 x4 x5 x6 x7 x8 x9 x10 x11 KW
      clear ra1 ra2 hx her
      go_wp2_with fail
      clear x0 x1 x2 x3 x4 x5 x6 x7 x8 x9 x10 x11
      refine (KW.out _ (Below.refl _ _)).mono ?_
      rintro e w7 ⟨rfl, hb⟩
      clear KW
      have HB7 := Lib.hid (bmore HB6.out hb (Nat.le_refl _))
      have hrd := (HT.out _ (bmore HB.out HB7.out (Nat.le_refl _))).1
      obtain ⟨ad, uu, rfl, _, hu, hcell⟩ := hrd.at_ hlt
      rw [tcx_at l k hkz] at hu
      injection hu with hu
      subst hu
      rw [List.getElem?_eq_getElem hkz] at hs
      injection hs with hs
      rw [hs] at hcell
      clear hb hrd hs
      have b0 : (s.toList == s.toList) = true := by simp
      have b1 : (s.toList != s.toList) = false := by simp
      rcases bb with _ | _
      · have hne := str_ne (hz1 rfl)
        clear hz1 hz2
        go_wp2_with fail
        go_roundw
        case rel => exact ⟨k + 1, by omega, by go_num, HB7.out⟩
        case measure => simp [intOf]; omega
      · have hp1 := (HF1.out rfl).1
        have hpn := (HF1.out rfl).2.1
        by_cases hkq : (k : Int) < p - 1
        · have hne := str_ne (hz2 rfl hkq)
          clear hz1 hz2
          go_wp2_with fail
          go_roundw
          case rel => exact ⟨k + 1, by omega, by go_num, HB7.out⟩
          case measure => simp [intOf]; omega
        · clear hz1 hz2
          go_wp2_with fail
          go_roundw
          case rel => exact ⟨k + 1, by omega, by go_num, HB7.out⟩
          case measure => simp [intOf]; omega
    · rcases bb with _ | _
      · go_wp2_with (first
          | (at_builtin; refine wpList_append_rd _ rfl _ _ 38 rfl wr.heap.size 9 i0 (.string ⟨#[]⟩) 16 Try.underlying38 hi hz0 hz1 hz2 rfl (.slice none 0 0) 0 [] rfl (World.ownsRow_nil _ _ _ _) _ n c (tcx l) rfl (HT.out _ HBW.out).1 (tcx_one l) (by unfold maxLen; omega) (by omega) (Nat.le_refl _) ?_; intro v3 w8 hown3 hg3 hob3; simp only [Nat.zero_add, List.nil_append] at hown3; have hb3 : Below wr.heap.size wr w8 := below_of_grown hg3 (by simp [Value.ownBlock]))
          | (at_builtin; refine wpList_append_rd _ rfl _ _ 38 rfl wr.heap.size 9 i0 (.string ⟨#[]⟩) 16 Try.underlying38 hi hz0 hz1 hz2 rfl v3 n (tcx l) rfl hown3 B m d (tcx more) rfl (HT2.out _ (bmore HBW.out hb3 (Nat.le_refl _))).1 (tcx_one more) (by unfold maxLen; omega) (by omega) hb3.size ?_; intro v4 w9 hown4 hg4 hob4; have hb4 := below_row hb3 hown3 hb3.size hg4; rw [← tcx_append] at hown4; obtain ⟨A4, c4, hv4, hT4⟩ := txIs_own hown4 HSZ.out; subst hv4))
        have HT4 := Lib.hid hT4
        have HB4 := Lib.hid (bmore HBW.out hb4 (Nat.le_refl _))
        clear hown3 hg3 hob3 hb3 hown4 hg4 hob4 hb4 hT4
        refine (KF2.out w9 _ _ HT4.out).mono ?_
        rintro e w10 ⟨rfl, hb⟩
        replace HB4 := Lib.hid (bmore HB4.out hb (Nat.le_refl _))
        clear hb KF2 HT4
        by_cases hy2 : y2 = 0
        rotate_left
        · go_wp2_with fail
          go_ret
          exact ⟨by first | rfl | simp, HB4.out⟩
        subst hy2
        go_wp2_with fail
        go_ret
        exact ⟨by first | rfl | simp, HB4.out⟩
      · obtain ⟨hp1, hpn, ⟨i, hin, hpi, hiv⟩, _⟩ := HF1.out rfl
        have hiz : i < l.length := by have := HLN.out; omega
        have hrd := (HT.out _ HBW.out).1
        obtain ⟨ad, uu, rfl, _, hu, hcell⟩ := hrd.at_ hin
        rw [tcx_at l i hiz] at hu
        injection hu with hu
        subst hu
        rw [List.getElem?_eq_getElem hiz] at hiv
        injection hiv with hiv
        rw [hiv] at hcell
        have b1 : (v.toList != v.toList) = false := by simp
        clear hrd hiv
        go_wp2_with (first
          | (at_builtin; refine wpList_append_rd _ rfl _ _ 38 rfl wr.heap.size 9 i0 (.string ⟨#[]⟩) 16 Try.underlying38 hi hz0 hz1 hz2 rfl (.slice none 0 0) 0 [] rfl (World.ownsRow_nil _ _ _ _) _ n c (tcx l) rfl (HT.out _ HBW.out).1 (tcx_one l) (by unfold maxLen; omega) (by omega) (Nat.le_refl _) ?_; intro v3 w8 hown3 hg3 hob3; simp only [Nat.zero_add, List.nil_append] at hown3; have hb3 : Below wr.heap.size wr w8 := below_of_grown hg3 (by simp [Value.ownBlock]))
          | (at_builtin; refine wpList_append_rd _ rfl _ _ 38 rfl wr.heap.size 9 i0 (.string ⟨#[]⟩) 16 Try.underlying38 hi hz0 hz1 hz2 rfl v3 n (tcx l) rfl hown3 B m d (tcx more) rfl (HT2.out _ (bmore HBW.out hb3 (Nat.le_refl _))).1 (tcx_one more) (by unfold maxLen; omega) (by omega) hb3.size ?_; intro v4 w9 hown4 hg4 hob4; have hb4 := below_row hb3 hown3 hb3.size hg4; rw [← tcx_append] at hown4; obtain ⟨A4, c4, hv4, hT4⟩ := txIs_own hown4 HSZ.out; subst hv4))
        have HT4 := Lib.hid hT4
        have HB4 := Lib.hid (bmore HBW.out hb4 (Nat.le_refl _))
        clear hown3 hg3 hob3 hb3 hown4 hg4 hob4 hb4 hT4
        refine (KF2.out w9 _ _ HT4.out).mono ?_
        rintro e w10 ⟨rfl, hb⟩
        replace HB4 := Lib.hid (bmore HB4.out hb (Nat.le_refl _))
        clear hb KF2 HT4
        by_cases hy2 : y2 = 0
        rotate_left
        · go_wp2_with fail
          go_ret
          exact ⟨by first | rfl | simp, HB4.out⟩
        subst hy2
        obtain ⟨e1, e2⟩ := H2.out rfl
        have e3 := HF2.out (by simp)
        have e4 : p2 = p := by rw [e1, e3]
        have e5 : bb2 = true := by rw [e2]; simp; omega
        clear e1 e2 e3
        subst e4
        subst e5
        go_wp2_with fail
        go_ret
        exact ⟨by first | rfl | simp, HB4.out⟩
end Go.Proofs.Ytodmpapfnilkoaa
