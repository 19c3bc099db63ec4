/-
  Package log: Commands, Check. Conditions: the slice reads as texts.
  Package log: slices.Index of texts, Find. Conditions: the slice reads as texts.
-/
import Derived.Test.YtodmpapfnilkoaaK25
import Derived.Test.YtodmpapfnilkoaaK13
namespace Go.Proofs.Ytodmpapfnilkoaa.LP
open Go.RowKit CP
open CM (Cm Mg)
set_option linter.unusedVariables false
set_option linter.unusedSimpArgs false
set_option maxRecDepth 100000

/-- what Commands answers, once its error is known to be r -/
theorem coIs_bad {l : List ByteArray} {w w' : World} {r : Int} (hr : LM.chk l = r) (h0 : r ≠ 0) (hb : Below w.heap.size w w') : CoIs l w (.returned (.tuple #[.slice none 0 0, .int .i64 r])) w' :=
  ⟨hb, .inl ⟨by rw [hr]; exact h0, by rw [hr]⟩⟩
theorem coIs_ok {l : List ByteArray} {w w' : World} {v : Value} (hr : LM.chk l = 0) (hv : CmsO w' w.heap.size v (LM.cmds l)) (hb : Below w.heap.size w w') : CoIs l w (.returned (.tuple #[v, .int .i64 0])) w' :=
  ⟨hb, .inr ⟨hr, v, rfl, hv⟩⟩
set_option maxHeartbeats 4000000 in
theorem pcommands_any (A : Option Addr) (n c : Nat) (l : List ByteArray) (w : World) (h : TxIs w A n c l) :
    Calls Try.prog 12 #[.slice A n c] w (CoIs l w) := by
  have hl := h.len
  have hm := h.2.2.1
  have hnc := h.2.1
  have hn : n ≤ 9223372036854775807 := by unfold maxLen at hm; omega
  by_cases h200 : 200 < n
  · have he : LM.chk l = 4 := by unfold LM.chk; rw [if_pos (by omega)]
    have HE := Lib.hid he
    clear h hl hm he hnc
    go_enter Try.func12, Try.ntmps12
    go_wp2
    go_ret2
    exact coIs_bad HE.out (by decide) (Below.refl _ _)
  have h200' : n ≤ 200 := by omega
  clear h200
  obtain ⟨i0, hi, hz0, hz1, hz2⟩ := info_parts info_cm
  obtain ⟨r, hrr⟩ : ∃ r, r = LM.chk l := ⟨_, rfl⟩
  have hst : LM.chkF (l.drop 0) = r := by rw [hrr]; unfold LM.chk; rw [if_neg (by omega)]; rfl
  have HS := Lib.hid hst
  have HR0 := Lib.hid hrr.symm
  have HT := Lib.hid h
  have HL := Lib.hid hl
  clear hrr hst h hl hm hnc
  go_enter Try.func12, Try.ntmps12
  go_wp2_with (at_make; refine wpList_make_own _ rfl _ _ 39 rfl w.heap.size 29 i0 _ 12 Try.underlying39 hi hz0 hz1 .i64 .i64 _ n rfl rfl rfl (by rw [hz2]; omega) (by unfold maxLen; omega) (Nat.le_refl _) ?_; intro w1 hown1 hg1; have HB1 := Lib.hid (below_of_grown hg1 (by simp)); have HC1 := Lib.hid (show CmsO w1 w.heap.size (.slice (some ⟨w.heap.size, 0, none⟩) 0 n) (LM.cmds (l.take 0)) from ⟨[], rfl, hown1, fun e he => by cases he⟩); clear hown1 hg1)
  go_loopw [4, 17] (fun u i wr => ∃ k : Nat, k ≤ n ∧ i = .int .i64 k ∧ Below w.heap.size w wr ∧ CmsO wr w.heap.size u (LM.cmds (l.take k)) ∧ Hid (LM.chkF (l.drop k) = r)) (fun _ i _ => n - (intOf i).toNat)
  case atStart => exact ⟨0, by omega, rfl, HB1.out, HC1.out, HS⟩
  case round =>
    clear HS
    obtain ⟨k, hk, rfl, hB, hC, HR⟩ := hrel
    have HB := Lib.hid hB
    have HLE := Lib.hid hB.size
    clear hB
    by_cases hlt : k < n
    · have hkz : k < l.length := by have := HL.out; omega
      have hr := (HT.out.below HB.out).1
      obtain ⟨ad, uu, rfl, _, hu, hcell⟩ := hr.at_ hlt
      rw [tcx_at l k hkz] at hu
      injection hu with hu
      subst hu
      have hsz := HT.out.2.2.2 _ (List.getElem_mem hkz)
      have HN := Lib.hid (cmds_take l k hkz)
      have hd := HR.out
      rw [List.drop_eq_getElem_cons hkz] at hd
      obtain ⟨z, hz⟩ : ∃ z, z = l[k] := ⟨_, rfl⟩
      rw [← hz] at hcell hsz HN hd
      clear hz hr HR
      unfold LM.chkF at hd
      have CR := Lib.hid (pread_ge z (LM.read_is z) hsz wr)
      have HE := Lib.hid (LM.er_cases z)
      have HC := Lib.hid hC
      clear hC hsz
      generalize LM.er z = y at CR HE hd
      generalize LM.cm z = x at CR HN
      have HD := Lib.hid hd
      clear hd
      obtain ⟨k0, ⟨mi, mg, mt, mk, mb⟩, aid, atm, ams, atp, awh, an⟩ := x
      go_wp2_with fail
      refine (CR.out).mono ?_
      rintro e1 w2 ⟨v, rfl, ⟨A1, c1, P, q, rfl, r1, r3⟩, hb⟩
      simp only at r1 r3
      unfold ccells
      rcases HE.out with rfl | hy
      · have HD2 := Lib.hid (show LM.chkF (l.drop (k + 1)) = r by have := HD.out; rwa [if_pos rfl] at this)
        clear HD HE
        have hb2 : Below w2.heap.size w2 ((w2.alloc (.cells #[.int .u8 k0, .int .i64 mi, .slice A1 mg.length c1, .int .i64 mt, .string mk, .string mb, .int .i64 aid, .int .i64 atm, .slice P ams.length q, .int .i64 atp, .int .i64 awh, .int .i64 an] 29)).alloc (.cells #[.int .u8 k0, .int .i64 mi, .slice A1 mg.length c1, .int .i64 mt, .string mk, .string mb, .int .i64 aid, .int .i64 atm, .slice P ams.length q, .int .i64 atp, .int .i64 awh, .int .i64 an] 29)) := ((Below.refl _ _).alloc (Nat.le_refl _) _).alloc (by simp) _
        have hb3 := bmore hb hb2 (Nat.le_refl _)
        replace HB := Lib.hid (bmore HB.out hb3 (Nat.le_refl _))
        have HX := Lib.hid (show Box ((w2.alloc (.cells #[.int .u8 k0, .int .i64 mi, .slice A1 mg.length c1, .int .i64 mt, .string mk, .string mb, .int .i64 aid, .int .i64 atm, .slice P ams.length q, .int .i64 atp, .int .i64 awh, .int .i64 an] 29)).alloc (.cells #[.int .u8 k0, .int .i64 mi, .slice A1 mg.length c1, .int .i64 mt, .string mk, .string mb, .int .i64 aid, .int .i64 atm, .slice P ams.length q, .int .i64 atp, .int .i64 awh, .int .i64 an] 29)) (w2.heap.size + 1) 29 #[.int .u8 k0, .int .i64 mi, .slice A1 mg.length c1, .int .i64 mt, .string mk, .string mb, .int .i64 aid, .int .i64 atm, .slice P ams.length q, .int .i64 atp, .int .i64 awh, .int .i64 an] from Box.new_at _ (by simp))
        obtain ⟨lst, g1, g2, g3⟩ := HC.out
        have hlt2 : ∀ g, u4.ownBlock = some g → g < wr.heap.size := fun g hg => own_lt g2 hg
        have N1 : Hid (∀ ad, A1 = some ad → 0 < mg.length → u4.ownBlock ≠ some ad.block) := Lib.hid (fun ad e hn q => by have := hlt2 _ q; have := r1.2 ad e hn; omega)
        have N2 : Hid (∀ ad, P = some ad → 0 < ams.length → u4.ownBlock ≠ some ad.block) := Lib.hid (fun ad e hn q => by have := hlt2 _ q; have := r3.2 ad e hn; omega)
        have HG1 := Lib.hid g1
        have HO := Lib.hid (own_below3 g2 hb3)
        have HRs := Lib.hid (g3.below hb3)
        have H1 := Lib.hid (r1.below hb2)
        have H2 := Lib.hid (r3.below hb2)
        have hll : lst.length ≤ 100000 := by have := congrArg List.length g1; simp [LM.cmds] at this; omega
        clear hb hb2 hb3 r1 r3 CR hcell g1 g2 g3 hlt2
        go_wp2_with (at_builtin; refine wpList_append_g _ rfl _ _ 39 rfl w.heap.size 29 i0 _ 12 144 Try.underlying39 hi hz0 hz1 hz2 rfl (by omega) _ _ _ rfl HO.out (some ⟨w2.heap.size + 1, 0, none⟩) 1 1 (ecell ⟨A1, c1, P, q, ⟨k0, ⟨mi, mg, mt, mk, mb⟩, aid, atm, ams, atp, awh, an⟩⟩) rfl (rdG_box HX.out rfl rfl) (ecell_one _) (by unfold maxLen; omega) (by omega) (by have := HB.out.size; exact this) ?_; intro v2 w5 hown2 hg2 hob2)
        have hnext := cmsO_next lst HG1.out HRs.out (H1.out.mono HLE.out) (H2.out.mono HLE.out) N1.out N2.out hg2 hown2 hob2
        have hB5 := below_row HB.out HO.out HB.out.size hg2
        clear hown2 hg2 hob2
        rw [← HN.out] at hnext
        go_roundw
        case rel => exact ⟨k + 1, by omega, by go_num, hB5, hnext, HD2⟩
        case measure => simp [intOf]; omega
      · have HD2 := Lib.hid (show (8 : Int) = r by have := HD.out; rwa [if_neg (by rcases hy with rfl | rfl <;> decide)] at this)
        replace HB := Lib.hid ((bmore HB.out hb (Nat.le_refl _)).alloc (by have := HB.out.size; have := hb.size; omega) (.cells #[.int .u8 k0, .int .i64 mi, .slice A1 mg.length c1, .int .i64 mt, .string mk, .string mb, .int .i64 aid, .int .i64 atm, .slice P ams.length q, .int .i64 atp, .int .i64 awh, .int .i64 an] 29))
        clear HD HE hb CR hcell r1 r3 HC HN
        rcases hy with rfl | rfl
        all_goals
          go_wp2_with fail
          go_ret2
          exact coIs_bad (by rw [HR0.out]; exact HD2.out.symm) (by decide) HB.out
    · have hd : l.take k = l := List.take_of_length_le (by have := HL.out; omega)
      have h0 : 0 = r := by have := HR.out; rw [List.drop_of_length_le (by have := HL.out; omega)] at this; simpa [LM.chkF] using this
      have HC := Lib.hid (hd ▸ hC)
      have H0 := Lib.hid h0
      clear hC hd h0
      go_wp2
      go_ret2
      exact coIs_ok (by rw [HR0.out]; exact H0.out.symm) HC.out HB.out
set_option maxHeartbeats 2000000 in
theorem pcheck13_any (A : Option Addr) (n c : Nat) (l : List ByteArray) (w : World) (h : TxIs w A n c l) :
    Calls Try.prog 15 #[.slice A n c] w (NumIs (LM.chk l) w) := by
  have CC := Lib.hid (pcommands_any A n c l w h)
  obtain ⟨y, hy⟩ : ∃ y, y = LM.chk l := ⟨_, rfl⟩
  unfold CoIs at CC
  rw [← hy] at CC ⊢
  clear h hy
  go_enter Try.func15, Try.ntmps15
  go_wp2_with fail
  refine (CC.out).mono ?_
  rintro e w1 ⟨hb, ⟨hy, rfl⟩ | ⟨rfl, v, rfl, hv⟩⟩
  all_goals
    have HB := Lib.hid hb
    clear hb CC
    go_wp2_with fail
    go_ret
    exact ⟨rfl, HB.out⟩
end Go.Proofs.Ytodmpapfnilkoaa.LP

namespace Go.Proofs.Ytodmpapfnilkoaa.LP
open Go.RowKit CP
open CM (Cm Mg)
set_option linter.unusedVariables false
set_option linter.unusedSimpArgs false
set_option maxRecDepth 100000

theorem str_ne' {a b : ByteArray} (h : a ≠ b) : (b.toList == a.toList) = false := str_ne (fun e => h e.symm)
set_option maxHeartbeats 1000000 in
theorem indexS_any (A : Option Addr) (n c : Nat) (l : List ByteArray) (v : ByteArray) (w : World) (h : TxIs w A n c l) :
    Calls Try.prog 38 #[.slice A n c, .string v] w fun e w' => e = .returned (.int .i64 ((LM.place l v : Nat) - 1 : Int)) ∧ w = w' := by
  have hl := h.len
  obtain ⟨hr, _, hm, _⟩ := h
  have hn : n ≤ 9223372036854775807 := by unfold maxLen at hm; omega
  obtain ⟨r, hrr⟩ : ∃ r, r = LM.place l v := ⟨_, rfl⟩
  rw [← hrr]
  have HL := Lib.hid hl
  have HS := Lib.hid (show LM.placeF v 0 (l.drop 0) = r by rw [hrr]; rfl)
  clear hrr hl hm
  go_enter Try.func38, Try.ntmps38
  go_wp2
  go_loop [8] (fun i => ∃ k : Nat, k ≤ n ∧ i = .int .i64 k ∧ Hid (LM.placeF v k (l.drop k) = r)) (fun i => n - (intOf i).toNat)
  case atStart => exact ⟨0, by omega, rfl, HS⟩
  case round =>
    clear HS
    obtain ⟨k, hk, rfl, HR⟩ := hrel
    by_cases hlt : k < n
    · have hkz : k < l.length := by have := HL.out; omega
      obtain ⟨ad, u, rfl, _, hu, hcell⟩ := hr.at_ hlt
      rw [tcx_at l k hkz] at hu
      injection hu with hu
      subst hu
      have hd := HR.out
      rw [List.drop_eq_getElem_cons hkz] at hd
      obtain ⟨z, hz⟩ : ∃ z, z = l[k] := ⟨_, rfl⟩
      rw [← hz] at hcell hd
      clear hz HR
      unfold LM.placeF at hd
      by_cases h1 : z = v
      · rw [if_pos h1] at hd
        subst h1
        have b1 : (z.toList == z.toList) = true := by simp
        have HD := Lib.hid (show (k : Int) = ((r : Nat) - 1 : Int) by omega)
        clear hd
        go_wp2
        go_ret
        exact ⟨ret_int HD.out, rfl⟩
      · rw [if_neg h1] at hd
        have b1 := str_ne' h1
        have HD := Lib.hid hd
        clear hd h1
        go_wp2
        go_round
        case rel => exact ⟨k + 1, by omega, by go_num, HD⟩
        case measure => simp [intOf]; omega
    · have hd : 0 = r := by have := HR.out; rw [List.drop_of_length_le (by have := HL.out; omega)] at this; simpa [LM.placeF] using this
      have HD := Lib.hid (show (-1 : Int) = ((r : Nat) - 1 : Int) by omega)
      clear hd
      go_wp2
      go_ret
      exact ⟨ret_int HD.out, rfl⟩
theorem place_le (l : List ByteArray) (v : ByteArray) : LM.place l v ≤ l.length := by
  by_cases h : v ∈ l
  · obtain ⟨i, h1, h2, _⟩ := LM.placeF_at (k := 0) h
    show LM.placeF v 0 l ≤ _
    omega
  · have : LM.place l v = 0 := LM.placeF_zero.2 h
    omega
set_option maxHeartbeats 2000000 in
theorem pfind_any (A : Option Addr) (n c : Nat) (l : List ByteArray) (v : ByteArray) (w : World) (h : TxIs w A n c l) :
    Calls Try.prog 10 #[.slice A n c, .string v] w (FiIs l v w) := by
  have CK := Lib.hid (pcheck13_any A n c l w h)
  have CP := Lib.hid (fun W (hb : Below w.heap.size w W) => indexS_any A n c l v W (h.below hb))
  have HC := Lib.hid (LM.chk_cases l)
  have hpl := place_le l v
  have hln := h.len
  have hcm := h.2.2.1
  have hnc := h.2.1
  obtain ⟨y, hy⟩ : ∃ y, y = LM.chk l := ⟨_, rfl⟩
  unfold FiIs
  rw [← hy] at CK HC ⊢
  generalize LM.place l v = p at CP hpl ⊢
  have hp0 : (0 : Int) ≤ (p : Int) := by omega
  have hpm : (p : Int) ≤ 9223372036854775807 := by unfold maxLen at hcm; omega
  clear h hy hpl hln hcm hnc
  rcases HC.out with rfl | rfl | rfl
  · rw [if_pos rfl, if_pos rfl]
    obtain ⟨q, hq⟩ : ∃ q : Int, q = (p : Int) - 1 := ⟨_, rfl⟩
    rw [← hq] at CP
    have hw : IntKind.i64.wrap (q + 1) = q + 1 := by rw [IntKind.wrap_i64]; omega
    have hp : decide ((0 : Int) < q + 1) = decide (0 < p) := by by_cases h : 0 < p <;> simp [h] <;> omega
    have he : q + 1 = (p : Int) := by omega
    have HP := Lib.hid hp
    have HE := Lib.hid he
    have hql : -1 ≤ q := by omega
    have hqm : q + 1 ≤ 9223372036854775807 := by omega
    clear hp he hq hp0 hpm
    go_enter Try.func10, Try.ntmps10
    go_wp2_with fail
    refine (CK.out).mono ?_
    rintro e w1 ⟨rfl, hb⟩
    have HB := Lib.hid hb
    clear hb CK
    go_wp2_with fail
    refine (CP.out _ HB.out).mono ?_
    rintro e w2 ⟨rfl, rfl⟩
    go_wp2_with fail
    go_ret3
    exact ⟨HB.out, by rw [← HP.out, ← HE.out]; first | rfl | simp⟩
  all_goals
    go_enter Try.func10, Try.ntmps10
    go_wp2_with fail
    refine (CK.out).mono ?_
    rintro e w1 ⟨rfl, hb⟩
    have HB := Lib.hid hb
    clear hb CK
    go_wp2_with fail
    go_ret3
    exact ⟨HB.out, rfl⟩
end Go.Proofs.Ytodmpapfnilkoaa.LP
