/-
  The document's own Check of a log (towncrierref13). Conditions: the slice reads as texts.
  The document's own All of a log (towncrierref13): its commands, in a row of the call's own. Conditions: the slice reads as texts, at most 100,000 of them.
-/
import Derived.Test.YteebeiaokfenmaaGreatK01
import Derived.Test.YteebeiaokfenmaaGreatK38
namespace Go.Proofs.YteebeiaokfenmaaGreat.LP
open Go.RowKit CP
open CM (Cm Mg)
set_option linter.unusedVariables false
set_option linter.unusedSimpArgs false
set_option maxRecDepth 100000

/-- the command of a value and its error, read by the document -/
theorem rd13 (s : ByteArray) (hs : s.size ≤ maxLen) (w : World) : Calls Tryz.prog 95 #[.string s] w (RdGe (LM.cm s) (LM.er s) w) := read12_ge s (LM.read_is s) hs w
set_option maxHeartbeats 2000000 in
theorem check13_any (A : Option Addr) (n c : Nat) (l : List ByteArray) (w : World) (h : TxIs w A n c l) :
    Calls Tryz.prog 74 #[.slice A n c] w (NumIs (LM.chk l) w) := by
  have hl := h.len
  have hm := h.2.2.1
  have hnc := h.2.1
  have hn : n ≤ 9223372036854775807 := by unfold maxLen at hm; omega
  by_cases h200 : 200 < n
  · have he : LM.chk l = 4 := by unfold LM.chk; rw [if_pos (by omega)]
    rw [he]
    clear h hl hm he hnc
    go_enter Tryz.func74, Tryz.ntmps74
    go_wp2
    go_ret
    exact ⟨rfl, Below.refl _ _⟩
  have h200' : n ≤ 200 := by omega
  clear h200
  obtain ⟨r, hrr⟩ : ∃ r, r = LM.chk l := ⟨_, rfl⟩
  have hst : LM.chkF (l.drop 0) = r := by rw [hrr]; unfold LM.chk; rw [if_neg (by omega)]; rfl
  rw [← hrr]
  have HS := Lib.hid hst
  have HT := Lib.hid h
  have HL := Lib.hid hl
  clear hrr hst h hl hm hnc
  go_enter Tryz.func74, Tryz.ntmps74
  go_wp2
  go_loopw [3] (fun i wr => ∃ k : Nat, k ≤ n ∧ i = .int .i64 k ∧ Below w.heap.size w wr ∧ Hid (LM.chkF (l.drop k) = r)) (fun i _ => n - (intOf i).toNat)
  case atStart => exact ⟨0, by omega, rfl, Below.refl _ _, HS⟩
  case round =>
    clear HS
    obtain ⟨k, hk, rfl, hB, HR⟩ := hrel
    have HB := Lib.hid hB
    clear hB
    by_cases hlt : k < n
    · have hkz : k < l.length := by have := HL.out; omega
      have hr := (HT.out.below HB.out).1
      obtain ⟨ad, u, rfl, _, hu, hcell⟩ := hr.at_ hlt
      rw [tcx_at l k hkz] at hu
      injection hu with hu
      subst hu
      have hd := HR.out
      rw [List.drop_eq_getElem_cons hkz] at hd
      have hsz := HT.out.2.2.2 _ (List.getElem_mem hkz)
      obtain ⟨z, hz⟩ : ∃ z, z = l[k] := ⟨_, rfl⟩
      rw [← hz] at hcell hd hsz
      clear hz HR hr
      unfold LM.chkF at hd
      have CR := Lib.hid (rd13 z hsz wr)
      have HE := Lib.hid (LM.er_cases z)
      obtain ⟨y, hy⟩ : ∃ y, y = LM.er z := ⟨_, rfl⟩
      rw [← hy] at CR HE hd
      have HD := Lib.hid hd
      clear hd hy hsz
      generalize LM.cm z = x at CR
      obtain ⟨k0, ⟨mi, mg, mt, mk, mb⟩, aid, atm, ams, atp, awh, an⟩ := x
      go_wp2_with fail
      refine (CR.out).mono ?_
      rintro e1 w2 ⟨v, rfl, ⟨A1, c1, P, q, rfl, _, _⟩, hb⟩
      unfold ccells
      replace HB := Lib.hid (bmore HB.out hb (Nat.le_refl _))
      replace HB := Lib.hid (HB.out.alloc HB.out.size (.cells #[.int .u8 k0, .int .i64 mi, .slice A1 mg.length c1, .int .i64 mt, .string mk, .string mb, .int .i64 aid, .int .i64 atm, .slice P ams.length q, .int .i64 atp, .int .i64 awh, .int .i64 an] 91))
      clear hb CR hcell
      go_upto_region 7 with (fail)
      generalize w2.alloc (.cells #[.int .u8 k0, .int .i64 mi, .slice A1 mg.length c1, .int .i64 mt, .string mk, .string mb, .int .i64 aid, .int .i64 atm, .slice P ams.length q, .int .i64 atp, .int .i64 awh, .int .i64 an] 91) = w3 at HB ⊢
      rcases HE.out with rfl | rfl | rfl
      · have HD2 := Lib.hid (show LM.chkF (l.drop (k + 1)) = r by have := HD.out; rwa [if_pos rfl] at this)
        clear HD HE
        go_wp2_with fail
        go_roundw
        case rel => exact ⟨k + 1, by omega, by go_num, HB.out, HD2⟩
        case measure => simp [intOf]; omega
      · have HD2 := Lib.hid (show (8 : Int) = r by have := HD.out; rwa [if_neg (by decide)] at this)
        clear HD HE
        go_wp2_with fail
        go_ret
        exact ⟨ret_int HD2.out, HB.out⟩
      · have HD2 := Lib.hid (show (8 : Int) = r by have := HD.out; rwa [if_neg (by decide)] at this)
        clear HD HE
        go_wp2_with fail
        go_ret
        exact ⟨ret_int HD2.out, HB.out⟩
    · have hd : 0 = r := by have := HR.out; rw [List.drop_of_length_le (by have := HL.out; omega)] at this; simpa [LM.chkF] using this
      have HD := Lib.hid hd
      clear hd
      go_wp2
      go_ret
      exact ⟨ret_int HD.out, HB.out⟩
end Go.Proofs.YteebeiaokfenmaaGreat.LP

namespace Go.Proofs.YteebeiaokfenmaaGreat.LP
open Go.RowKit CP
open CM (Cm Mg)
set_option linter.unusedVariables false
set_option linter.unusedSimpArgs false
set_option maxRecDepth 100000

theorem info_cm : (Tryz.prog.info? 91).map (fun i => (i.zero, i.size, i.bytes)) = some (some (.agg #[.int .u8 0, .int .i64 0, .slice none 0 0, .int .i64 0, .string ⟨#[]⟩, .string ⟨#[]⟩, .int .i64 0, .int .i64 0, .slice none 0 0, .int .i64 0, .int .i64 0, .int .i64 0]), 12, 144) := by kernel_rfl
theorem own_lt {w : World} {b n : Nat} {v : Value} {xs : List Value} {g : Nat} (h : w.ownsRow b 91 12 v n xs) (hg : v.ownBlock = some g) : g < w.heap.size := by
  obtain ⟨_, cur, hc⟩ := own_block h hg
  exact hc.lt
theorem cmds_take (l : List ByteArray) (k : Nat) (h : k < l.length) : LM.cmds (l.take (k + 1)) = LM.cmds (l.take k) ++ [LM.cm l[k]] := by
  unfold LM.cmds
  rw [List.take_succ_eq_append_getElem h, List.map_append]
  rfl
set_option maxHeartbeats 2000000 in
theorem all13_any (A : Option Addr) (n c : Nat) (l : List ByteArray) (w : World) (h : TxIs w A n c l) (h5 : n ≤ 100000) :
    Calls Tryz.prog 96 #[.slice A n c] w fun e w' => ∃ v, e = .returned v ∧ CmsO w' w.heap.size v (LM.cmds l) ∧ Below w.heap.size w w' := by
  obtain ⟨i0, hi, hz0, hz1, hz2⟩ := info_parts info_cm
  have HT := Lib.hid h
  have HL := Lib.hid h.len
  clear h
  go_enter Tryz.func96, Tryz.ntmps96
  go_wp2
  go_loopw [3, 4] (fun u i wr => ∃ k : Nat, k ≤ n ∧ i = .int .i64 k ∧ Below w.heap.size w wr ∧ CmsO wr w.heap.size u (LM.cmds (l.take k))) (fun _ i _ => n - (intOf i).toNat)
  case atStart => exact ⟨0, by omega, rfl, Below.refl _ _, cmsO_nil _ _⟩
  case round =>
    obtain ⟨k, hk, rfl, hB, hC⟩ := hrel
    have HB := Lib.hid hB
    have HLE := Lib.hid hB.size
    clear hB
    by_cases hlt : k < n
    · have hkz : k < l.length := by have := HL.out; omega
      have hr := (HT.out.below HB.out).1
      obtain ⟨ad, uu, rfl, _, hu, hcell⟩ := hr.at_ hlt
      rw [tcx_at l k hkz] at hu
      injection hu with hu
      subst hu
      have hsz := HT.out.2.2.2 _ (List.getElem_mem hkz)
      have HN := Lib.hid (cmds_take l k hkz)
      obtain ⟨z, hz⟩ : ∃ z, z = l[k] := ⟨_, rfl⟩
      rw [← hz] at hcell hsz HN
      clear hz hr
      have CR := Lib.hid (rd13 z hsz wr)
      have HC := Lib.hid hC
      clear hC hsz
      generalize LM.er z = y at CR
      generalize LM.cm z = x at CR HN
      obtain ⟨k0, ⟨mi, mg, mt, mk, mb⟩, aid, atm, ams, atp, awh, an⟩ := x
      go_wp2_with fail
      refine (CR.out).mono ?_
      rintro e1 w2 ⟨v, rfl, ⟨A1, c1, P, q, rfl, r1, r3⟩, hb⟩
      simp only at r1 r3
      unfold ccells
      have hb2 : Below w2.heap.size w2 ((w2.alloc (.cells #[.int .u8 k0, .int .i64 mi, .slice A1 mg.length c1, .int .i64 mt, .string mk, .string mb, .int .i64 aid, .int .i64 atm, .slice P ams.length q, .int .i64 atp, .int .i64 awh, .int .i64 an] 91)).alloc (.cells #[.int .u8 k0, .int .i64 mi, .slice A1 mg.length c1, .int .i64 mt, .string mk, .string mb, .int .i64 aid, .int .i64 atm, .slice P ams.length q, .int .i64 atp, .int .i64 awh, .int .i64 an] 91)) := ((Below.refl _ _).alloc (Nat.le_refl _) _).alloc (by simp) _
      have hb3 := bmore hb hb2 (Nat.le_refl _)
      replace HB := Lib.hid (bmore HB.out hb3 (Nat.le_refl _))
      have HX := Lib.hid (show Box ((w2.alloc (.cells #[.int .u8 k0, .int .i64 mi, .slice A1 mg.length c1, .int .i64 mt, .string mk, .string mb, .int .i64 aid, .int .i64 atm, .slice P ams.length q, .int .i64 atp, .int .i64 awh, .int .i64 an] 91)).alloc (.cells #[.int .u8 k0, .int .i64 mi, .slice A1 mg.length c1, .int .i64 mt, .string mk, .string mb, .int .i64 aid, .int .i64 atm, .slice P ams.length q, .int .i64 atp, .int .i64 awh, .int .i64 an] 91)) (w2.heap.size + 1) 91 #[.int .u8 k0, .int .i64 mi, .slice A1 mg.length c1, .int .i64 mt, .string mk, .string mb, .int .i64 aid, .int .i64 atm, .slice P ams.length q, .int .i64 atp, .int .i64 awh, .int .i64 an] from Box.new_at _ (by simp))
      obtain ⟨lst, g1, g2, g3⟩ := HC.out
      have hlt2 : ∀ g, u3.ownBlock = some g → g < wr.heap.size := fun g hg => own_lt g2 hg
      have N1 : Hid (∀ ad, A1 = some ad → 0 < mg.length → u3.ownBlock ≠ some ad.block) := Lib.hid (fun ad e hn q => by have := hlt2 _ q; have := r1.2 ad e hn; omega)
      have N2 : Hid (∀ ad, P = some ad → 0 < ams.length → u3.ownBlock ≠ some ad.block) := Lib.hid (fun ad e hn q => by have := hlt2 _ q; have := r3.2 ad e hn; omega)
      have HG1 := Lib.hid g1
      have HO := Lib.hid (own_below3 g2 hb3)
      have HRs := Lib.hid (g3.below hb3)
      have H1 := Lib.hid (r1.below hb2)
      have H2 := Lib.hid (r3.below hb2)
      have hll : lst.length ≤ 100000 := by have := congrArg List.length g1; simp [LM.cmds] at this; omega
      clear hb hb2 hb3 r1 r3 CR hcell g1 g2 g3 hlt2
      go_wp2_with (at_builtin; refine wpList_append_g _ rfl _ _ 73 rfl w.heap.size 91 i0 _ 12 144 Tryz.underlying73 hi hz0 hz1 hz2 rfl (by omega) _ _ _ rfl HO.out (some ⟨w2.heap.size + 1, 0, none⟩) 1 1 (ecell ⟨A1, c1, P, q, ⟨k0, ⟨mi, mg, mt, mk, mb⟩, aid, atm, ams, atp, awh, an⟩⟩) rfl (rdG_box HX.out rfl rfl) (ecell_one _) (by unfold maxLen; omega) (by omega) (by have := HB.out.size; exact this) ?_; intro v2 w5 hown2 hg2 hob2)
      have hnext := cmsO_next lst HG1.out HRs.out (H1.out.mono HLE.out) (H2.out.mono HLE.out) N1.out N2.out hg2 hown2 hob2
      have hB5 := below_row HB.out HO.out HB.out.size hg2
      clear hown2 hg2 hob2
      rw [← HN.out] at hnext
      go_roundw
      case rel => exact ⟨k + 1, by omega, by go_num, hB5, hnext⟩
      case measure => simp [intOf]; omega
    · have hd : l.take k = l := List.take_of_length_le (by have := HL.out; omega)
      have HC := Lib.hid (hd ▸ hC)
      clear hC hd
      go_wp2
      go_ret
      exact ⟨_, rfl, HC.out, HB.out⟩
end Go.Proofs.YteebeiaokfenmaaGreat.LP
