/-
  Package order: what two orders have in common. Conditions: slices of stamps that read, at most 4,096, their ids ints.
  The laws' own 'whole' (towncrierlaw16). Conditions: deliveries as they read; what is not behind the other's last one is there.
  What num.Text and num.GetText answer, in one form each (an error and what stands beside it), and at literals. Conditions: as each theorem says.
  The document's own least of what waits (towncrierref15). Conditions: something waits.
  The document's own SameStamps and SameMessages of any two lists (towncrierref15). Conditions: slices that read as such.
  What the document's own functions of layer 1 (towncrierref01) do: In. Conditions: as each theorem says.
  What num.Put, num.Ints, num.Get and num.GetInts answer, in one form each, and at literals. Conditions: as each theorem says.
  What package command's Write gathers: its closure that gathers bytes, its closure that writes numbers. Conditions: as each theorem says.
-/
import Derived.Test.YteebeiaokfenmaaGreatK01
import Derived.Test.YteebeiaokfenmaaGreatK11
import Derived.Test.YteebeiaokfenmaaGreatK14
import Derived.Test.YteebeiaokfenmaaGreatK08
import Derived.Test.YteebeiaokfenmaaGreatK09
import Derived.Test.YteebeiaokfenmaaGreatK04
import Derived.Deep.QuietTactic
import Derived.BigQuiet
import Derived.Deep.DeepCutAuto
import Derived.Test.YteebeiaokfenmaaGreatK06
namespace Go.Proofs.YteebeiaokfenmaaGreat.KP
open Go.RowKit CP TP
open Go.Maps (Keyed IsMap Tidy int_keyed keyOf_int_mk)
open CM (Mg Cm)
open TM (Sp)
open KM (Wt Sk)
set_option linter.unusedVariables false
set_option linter.unusedSimpArgs false
set_option maxRecDepth 100000
theorem any_mem {y : List Sp} {i : Int} : decide (i ∈ y.map fun s => s.i) = y.any fun z => z.i == i := by
 rw [Bool.eq_iff_iff, decide_eq_true_iff, List.any_eq_true, List.mem_map]
 simp
set_option maxHeartbeats 2000000 in
theorem pcommon16_any (A B : Option Addr) (n m ca cb : Nat) (x y : List Sp) (w : World) (h1 : SpsIs w A n ca x) (h2 : SpsIs w B m cb y) (hn4 : n ≤ 4096) (hm4 : m ≤ 4096) (hi1 : ∀ s ∈ x, i64In s.i) (hi2 : ∀ s ∈ y, i64In s.i) :
  Calls Tryz.prog 43 #[.slice A n ca, .slice B m cb] w fun e w' => ∃ v, e = .returned v ∧ w'.ownsRow w.heap.size 46 2 v (OM.com x y).length (flat spc (OM.com x y)) ∧ Below w.heap.size w w' := by
 obtain ⟨j0, hj, hy0, hy1, hy2⟩ := info_parts info_sp
 have hn := h1.small
 have HX := h! h1.2.1
 have H1 := h! h1
 have HI := h! hi1
 have HP := h! (pplS_any B m cb y w h2 hm4 hi2)
 clear h1 h2 hi1 hi2
 go_enter Tryz.func43, Tryz.ntmps43
 go_wp2_with fail
 refine (HP.out).mono ?_
 rintro e w1 ⟨v, rfl, ⟨b, rfl, hm⟩, hb⟩
 have HM := h! (fun W (hb : Below w1.heap.size w1 W) => ownsMap_below hm hb)
 have H11 := h! (H1.out.below hb)
 have HBW := h! hb
 have HT0 := h! (show CoR w1 x y 0 (.slice none 0 0) w1 from ⟨Below.refl _ _, World.ownsRow_nil _ _ _ _⟩)
 clear hm hb HP
 go_wp2_with fail
 go_loopw [6, 15] (fun u i wr => ∃ k : Nat, k ≤ n ∧ i = .int .i64 k ∧ Hid (CoR w1 x y k u wr)) (fun _ i _ => n - (intOf i).toNat)
 case atStart => exact ⟨0, by omega, rfl, HT0⟩
 case round =>
  clear HT0
  obtain ⟨k, hk, rfl, HT⟩ := hrel
  by_cases hlt : k < n
  ·obtain ⟨a, ha⟩ : ∃ a, x[k]? = some a := ⟨_, List.getElem?_eq_getElem (by have := HX.out; omega)⟩
   have HMR := h! (com_more (y := y) ha)
   have HIA := h! (HI.out a (List.mem_of_getElem? ha))
   obtain ⟨b1, o1, rfl, _, _, x0, x1⟩ := (H11.out.below HT.out.bl).at_ ha
   have hk0 : (0 : Int) ≤ (k : Int) := by omega
   have hkn : (k : Int) < (n : Int) := by omega
   clear ha
   obtain ⟨ta, ia⟩ := a
   simp only at x0 x1 HMR HIA
   have HB := h! (show Below wr.heap.size wr (wr.alloc (.cells #[.int .i64 ta, .int .i64 ia] 46)) from (Below.refl _ _).alloc n! _)
   have Y := h! (Box.new wr 46 #[.int .i64 ta, .int .i64 ia])
   go_upto_region 6 with (fail)
   clear x0 x1
   generalize wr.alloc (.cells #[.int .i64 ta, .int .i64 ia] 46) = w4 at HB Y ⊢
   generalize wr.heap.size = g4 at Y ⊢
   have HT4 := h! (HT.out.below HB.out)
   have y0 := Y.out.cell 0
   have y1 := Y.out.cell 1
   simp at y0 y1
   have HHAS := h! (show Maps.has (plD (y.map fun s => s.i)) (.int .i64 ia) = (y.any fun z => z.i == ia) by rw [plD_has, any_mem])
   obtain ⟨bb, hbb⟩ : ∃ bb, bb = y.any fun z => z.i == ia := ⟨_, rfl⟩
   rw [← hbb] at HHAS HMR
   clear hbb
   have hf4 : n ≤ 4096 := hn4
   have hql : (OM.com (x.take k) y).length ≤ 4096 := by
    refine Nat.le_trans (List.length_filter_le _ _) ?_
    rw [List.length_take]
    omega
   obtain ⟨q, hq⟩ : ∃ q, q = OM.com (x.take k) y := ⟨_, rfl⟩
   have HQ := h! hq
   rw [← hq] at hql
   clear hq
   rcases bb with _ | _
   ·have NX := h! (show CoR w1 x y (k + 1) u6 w4 from by
     have h1 := HMR.out
     simp only [Bool.false_eq_true, if_false, List.append_nil] at h1
     exact ⟨HT4.out.bl, by rw [h1]; exact HT4.out.ow⟩)
    go_wp2_with (at_lookup; refine wpList_lookup_own_ok_int _ rfl _ _ 72 rfl 3 3 .i64 lawI Tryz.underlying72 Tryz.underlying3 (zeroI _) b _ _ rfl (HM.out _ HT4.out.bl) _ _ rfl (keyOf_int_mk Tryz.underlying3 (wfI HIA.out)) ?_; intro cc hat hwc; rw [HHAS.out]; clear hat hwc)
    go_roundw
    case rel => exact ⟨k + 1, by omega, by go_num, NX⟩
    case measure => simp [intOf]; omega
   ·obtain ⟨A9, c9, rfl, hc9, hm9⟩ := own_form HT4.out.ow
    rw [← HQ.out] at hc9 ⊢
    have hal : Below w4.heap.size w4 (w4.alloc (.cells #[.int .i64 ta, .int .i64 ia] 46)) := b!
    have HO5 := h! (show (w4.alloc (.cells #[.int .i64 ta, .int .i64 ia] 46)).ownsRow w1.heap.size 46 2 (.slice A9 q.length c9) q.length (flat spc q) by
     have := own_below3 HT4.out.ow hal
     rwa [← HQ.out] at this)
    have HBA := h! (bmore HT4.out.bl hal n!)
    have HRG := h! (rdG_box (s := 2) (n := 1) (Box.new w4 46 #[.int .i64 ta, .int .i64 ia]) (xs := spc ⟨ta, ia⟩) rfl rfl)
    clear hal
    go_wp2_with (first
     | (at_lookup; refine wpList_lookup_own_ok_int _ rfl _ _ 72 rfl 3 3 .i64 lawI Tryz.underlying72 Tryz.underlying3 (zeroI _) b _ _ rfl (HM.out _ HT4.out.bl) _ _ rfl (keyOf_int_mk Tryz.underlying3 (wfI HIA.out)) ?_; intro cc hat hwc; rw [HHAS.out]; clear hat hwc)
     | (at_builtin; refine wpList_append_g _ rfl _ _ 22 rfl w1.heap.size 46 j0 _ 2 16 Tryz.underlying22 hj hy0 hy1 hy2 rfl (by omega) (.slice A9 q.length c9) q.length (flat spc q) rfl HO5.out (some ⟨w4.heap.size, 0, none⟩) 1 1 (spc ⟨ta, ia⟩) rfl HRG.out (spc_one _) (by unfold maxLen; omega) (by omega) HBA.out.size ?_; intro v2 w6 hown hgr hob; have HB6 := h! (below_row HBA.out HO5.out HBA.out.size hgr); have HO6 := h! hown; clear hown hgr hob))
    have NX := h! (show CoR w1 x y (k + 1) v2 w6 from by
     have h1 := HMR.out
     simp only [if_true] at h1
     refine ⟨HB6.out, ?_⟩
     rw [h1, ← HQ.out, List.length_append]
     have := HO6.out
     simpa [flat] using this)
    go_wp2_with fail
    go_roundw
    case rel => exact ⟨k + 1, by omega, by go_num, NX⟩
    case measure => simp [intOf]; omega
  ·obtain rfl : n = k := by omega
   have HE := h! (show CoR w1 x y n u6 wr ∧ x.take n = x from ⟨HT.out, List.take_of_length_le (by have := HX.out; omega)⟩)
   clear HT
   go_wp2_with fail
   go_ret
   have h1 := HE.out.1.ow
   rw [HE.out.2] at h1
   exact ⟨_, rfl, own_base h1 HBW.out.size, bmore HBW.out HE.out.1.bl n!⟩
end Go.Proofs.YteebeiaokfenmaaGreat.KP

namespace Go.Proofs.YteebeiaokfenmaaGreat.KP
open Go.RowKit CP TP
open CM (Mg Cm)
open TM (Sp)
open KM (Wt Sk)
set_option linter.unusedVariables false
set_option linter.unusedSimpArgs false
set_option maxRecDepth 100000
theorem any_int {y : List Int} {j : Nat} {b : Int} {p : Int → Bool} (h : y[j]? = some b) : (y.take (j + 1)).any p = ((y.take j).any p || p b) := by
 rw [List.take_add_one, h, List.any_append]
 simp
set_option maxHeartbeats 1600000 in
theorem whole_any (A B C : Option Addr) (n k0 ca cb cc : Nat) (x : List Sp) (y : List Mg) (z : List Sp) (g : Int) (w : World) (h1 : SpsIs w A n ca x) (h2 : KR KM_ w B n cb y) (h3 : SpsIs w C k0 cc z)
  (H : ∀ (i : Nat) d m, x[i]? = some d → y[i]? = some m → g ∈ m.gs → ∀ e, z.getLast? = some e → TM.less e d = false → d ∈ z) :
  Calls Tryz.prog 29 #[.slice A n ca, .slice B n cb, .int .i64 g, .slice C k0 cc] w (IsB true w) := by
 have hn63 := h1.small
 have hk63 := h3.small
 have HX := h! h1.2.1
 have HY := h! h2.len
 have HZ := h! h3.2.1
 have H1 := h! h1
 have H2 := h! h2
 have H3 := h! h3
 have HH := h! H
 have HR := h! (Below.refl w.heap.size w)
 clear h1 h2 h3 H
 go_enter Tryz.func29, Tryz.ntmps29
 go_wp2_with fail
 go_loopw [9] (fun i wr => ∃ k : Nat, k ≤ n ∧ i = .int .i64 k ∧ Hid (Below w.heap.size w wr)) (fun i _ => n - (intOf i).toNat)
 case atStart => exact ⟨0, by omega, rfl, HR⟩
 case round =>
  clear HR
  obtain ⟨k, hk, rfl, HB⟩ := hrel
  by_cases hlt : k < n
  ·obtain ⟨d, hd⟩ : ∃ d, x[k]? = some d := ⟨_, List.getElem?_eq_getElem (by have := HX.out; omega)⟩
   obtain ⟨m, hm⟩ : ∃ m, y[k]? = some m := ⟨_, List.getElem?_eq_getElem (by have := HY.out; omega)⟩
   have HD := h! hd
   have HIT := h! (HH.out k d m hd hm)
   obtain ⟨b1, o1, G, cg, rfl, _, hbl, ⟨_, q1, _, _, _⟩, hrow⟩ := mgs_at H2.out hm
   obtain ⟨gs, hgs⟩ : ∃ gs, gs = m.gs := ⟨_, rfl⟩
   rw [← hgs] at q1 hrow HIT
   have HC1 := h! (fun (W : World) (hb : Below w.heap.size w W) => (hb.cell (p := ⟨b1, o1 + k * 5 + 1, none⟩) hbl).trans q1)
   have HROW := h! hrow
   have hg63 : gs.length ≤ 9223372036854775807 := by have := hrow.2; unfold maxLen at this; omega
   have hk0 : (0 : Int) ≤ (k : Int) := by omega
   have hkn : (k : Int) < (n : Int) := by omega
   clear hd hm q1 hrow hgs hbl
   go_wp2_with fail
   go_loopw [10, 11] (fun s i wi => ∃ (j : Nat) (b : Bool), j ≤ gs.length ∧ s = .bool b ∧ i = .int .i64 j ∧ Hid (b = (gs.take j).any fun q => q == g) ∧ Hid (Below w.heap.size w wi)) (fun _ i _ => gs.length - (intOf i).toNat)
   case atStart => exact ⟨0, false, by omega, rfl, rfl, h! rfl, HB⟩
   case round =>
    clear HB
    obtain ⟨j, b, hj, rfl, rfl, HBB, HB⟩ := hrel
    have c1 := HC1.out wr HB.out
    by_cases hlt2 : j < gs.length
    ·obtain ⟨ad, u, rfl, _, hu, hcell⟩ := ((HROW.out.below HB.out).1.at_ (k := j) hlt2)
     obtain ⟨v, hv⟩ : ∃ v, gs[j]? = some v := ⟨_, List.getElem?_eq_getElem hlt2⟩
     have hu2 : u = .int .i64 v := by
      have : (ic gs)[j]? = some (.int .i64 v) := by unfold ic; rw [List.getElem?_map, hv]; rfl
      rw [this] at hu
      injection hu with hu
      exact hu.symm
     subst hu2
     have HM := h! (any_int (p := fun q => q == g) hv)
     have hj0 : (0 : Int) ≤ (j : Int) := by omega
     have hjn : (j : Int) < (gs.length : Int) := by omega
     clear hu hv
     rcases b with _ | _
     all_goals
      go_wp2_with fail
      go_roundw
      case rel => exact ⟨j + 1, _, by omega, rfl, by go_num, h! (by rw [HM.out, ← HBB.out]; simp), HB⟩
      case measure => simp [intOf]; omega
    ·obtain rfl : j = gs.length := by omega
     have HT := h! (show b = gs.any fun q => q == g by have := HBB.out; rwa [List.take_of_length_le n!] at this)
     obtain ⟨b2, o2, rfl, _, hb2, x0, x1⟩ := (H1.out.below HB.out).at_ HD.out
     rcases b with _ | _
     ·have NX := h! (below_drewN HB.out 1)
      go_wp2_with fail
      go_region
      go_wp2_with fail
      go_roundw
      case rel => exact ⟨k + 1, by omega, by go_num, NX⟩
      case measure => simp [intOf]; omega
     ·have HG := h! (show g ∈ gs by
       obtain ⟨v, hv, e⟩ := List.any_eq_true.1 HT.out.symm
       rw [← eq_of_beq e]; exact hv)
      rcases hz : z.getLast? with _ | e
      ·have hk00 : k0 = 0 := by have := HZ.out; rw [List.getLast?_eq_none_iff.1 hz] at this; exact this.symm
       subst hk00
       have NX := h! (below_drewN HB.out 1)
       clear hz
       go_wp2_with fail
       go_region
       go_wp2_with fail
       go_roundw
       case rel => exact ⟨k + 1, by omega, by go_num, NX⟩
       case measure => simp [intOf]; omega
      ·have hzl : 0 < z.length := by
        rcases z with _ | ⟨a, l⟩
        ·simp at hz
        ·simp
       obtain ⟨kk, hkk⟩ : ∃ kk, kk = k0 - 1 := ⟨_, rfl⟩
       have hk01 : k0 = kk + 1 := by have := HZ.out; omega
       have hze : z[kk]? = some e := by
        rw [List.getLast?_eq_getElem?] at hz
        rw [← hz]
        congr 1
        have := HZ.out
        omega
       obtain ⟨b3, o3, rfl, _, hb3, y0, y1⟩ := (H3.out.below HB.out).at_ hze
       obtain ⟨q, hq⟩ : ∃ q, q = TM.less e d := ⟨_, rfl⟩
       have HIN := h! (fun (h : q = false) => show d ∈ z from HIT.out HG.out e hz (by rw [← hq]; exact h))
       have CL := h! (fun w => pless_any e d w)
       rw [← hq] at CL
       have HDD := h! (rfl : d = d)
       obtain ⟨d', hd'⟩ : ∃ d', d' = d := ⟨_, rfl⟩
       have HD' := h! hd'
       obtain ⟨et, ei⟩ := e
       obtain ⟨dt, di⟩ := d
       unfold vsp at CL
       simp only at x0 x1 y0 y1 CL
       have hkj : IntKind.i64.wrap ((k0 : Int) - 1) = (kk : Int) := by rw [IntKind.wrap_i64]; omega
       have hkk0 : (0 : Int) ≤ (kk : Int) := by omega
       have hkk1 : (kk : Int) < (k0 : Int) := by omega
       have hz0 : ((k0 : Int) == 0) = false := by simp; omega
       have HSS := h! (fun (W : World) (h : Below wr.heap.size wr W) => show W.cell? ⟨b3, o3 + kk * 2, none⟩ = some (.int .i64 et) ∧ W.cell? ⟨b3, o3 + kk * 2 + 1, none⟩ = some (.int .i64 ei) ∧ W.cell? ⟨b2, o2 + k * 2, none⟩ = some (.int .i64 dt) ∧ W.cell? ⟨b2, o2 + k * 2 + 1, none⟩ = some (.int .i64 di) from
        ⟨(h.cell (cell_block y0)).trans y0, (h.cell (cell_block y1)).trans y1, (h.cell (cell_block x0)).trans x0, (h.cell (cell_block x1)).trans x1⟩)
       have bb1 : Below wr.heap.size wr wr.drew := (Below.refl _ _).drew
       clear hz hze hzl hkk hk01 hq hd' HIT HT HBB
       go_wp2_with fail
       go_region_held3 (fun W => W.cell? ⟨b3, o3 + kk * 2, none⟩ = some (.int .i64 et) ∧ W.cell? ⟨b3, o3 + kk * 2 + 1, none⟩ = some (.int .i64 ei) ∧ W.cell? ⟨b2, o2 + k * 2, none⟩ = some (.int .i64 dt) ∧ W.cell? ⟨b2, o2 + k * 2 + 1, none⟩ = some (.int .i64 di))
        (first | exact HSS.out _ bb1 | exact HSS.out _ hb4 | go_keep)
        ((go_at_call 54; refine (CL.out _).mono ?_; rintro e w5 ⟨rfl, hb⟩; have hb4 := bmore bb1 hb n!))
       all_goals
        have HN := h! (bmore HB.out hb4 n!)
        clear hb4 hb bb1 HSS x0 x1 y0 y1 CL
        rcases q with _ | _
        ·have HI := h! (HIN.out rfl)
         go_wp2_with fail
         go_loopw [12, 13] (fun s i wi => ∃ (j : Nat) (b : Bool), j ≤ k0 ∧ s = .bool b ∧ i = .int .i64 j ∧ Hid (b = (z.take j).any fun q => q.t == dt && q.i == di) ∧ Hid (Below w.heap.size w wi)) (fun _ i _ => k0 - (intOf i).toNat)
         case atStart => exact ⟨0, false, by omega, rfl, rfl, h! rfl, HN⟩
         case round =>
          clear HN
          obtain ⟨j, b, hj, rfl, rfl, HBB, HB3⟩ := hrel
          by_cases hlt3 : j < k0
          ·obtain ⟨c, hc⟩ : ∃ c, z[j]? = some c := ⟨_, List.getElem?_eq_getElem (by have := HZ.out; omega)⟩
           obtain ⟨bx, ox, ex, _, _, x0, x1⟩ := (H1.out.below HB3.out).at_ HD.out
           injection ex with ex
           injection ex with ex1 ex2
           subst ex1 ex2
           obtain ⟨bx, ox, ex, _, _, y0, y1⟩ := (H3.out.below HB3.out).at_ hc
           injection ex with ex
           injection ex with ex1 ex2
           subst ex1 ex2
           have HM := h! (any_more (p := fun q => q.t == dt && q.i == di) hc)
           have hj0 : (0 : Int) ≤ (j : Int) := by omega
           have hjn : (j : Int) < (k0 : Int) := by omega
           have NX := h! (below_drewN HB3.out 1)
           clear hc
           obtain ⟨ct, ci⟩ := c
           simp only at x0 x1 y0 y1 HM
           rcases b with _ | _
           ·rcases (show (ct = dt ∧ ci = di) ∨ (ct == dt) = false ∨ ((ct == dt) = true ∧ (ci == di) = false) by by_cases e1 : ct = dt <;> by_cases e2 : ci = di <;> simp [e1, e2]) with ⟨rfl, rfl⟩ | hc3 | ⟨hc3, hc4⟩
            ·have NB := h! (show true = (z.take (j + 1)).any fun q => q.t == ct && q.i == ci by rw [HM.out, ← HBB.out]; simp)
             go_wp2_with fail
             go_region
             go_wp2_with fail
             go_roundw
             case rel => exact ⟨j + 1, true, by omega, rfl, by go_num, NB, NX⟩
             case measure => simp [intOf]; omega
            ·have NB := h! (show false = (z.take (j + 1)).any fun q => q.t == dt && q.i == di by rw [HM.out, ← HBB.out, hc3]; rfl)
             go_wp2_with fail
             go_region
             go_wp2_with fail
             go_roundw
             case rel => exact ⟨j + 1, false, by omega, rfl, by go_num, NB, NX⟩
             case measure => simp [intOf]; omega
            ·have NB := h! (show false = (z.take (j + 1)).any fun q => q.t == dt && q.i == di by rw [HM.out, ← HBB.out, hc3, hc4]; rfl)
             go_wp2_with fail
             go_region
             go_wp2_with fail
             go_roundw
             case rel => exact ⟨j + 1, false, by omega, rfl, by go_num, NB, NX⟩
             case measure => simp [intOf]; omega
           ·have NB := h! (show true = (z.take (j + 1)).any fun q => q.t == dt && q.i == di by rw [HM.out, ← HBB.out]; rfl)
            go_wp2_with fail
            go_region
            go_wp2_with fail
            go_roundw
            case rel => exact ⟨j + 1, true, by omega, rfl, by go_num, NB, NX⟩
            case measure => simp [intOf]; omega
          ·obtain rfl : j = k0 := by omega
           have HT := h! (show b = true by
            have h1 := HBB.out
            rw [List.take_of_length_le (by have := HZ.out; omega)] at h1
            rw [h1]
            exact List.any_eq_true.2 ⟨_, HI.out, by simp⟩)
           clear HBB
           obtain rfl := HT.out
           go_wp2_with fail
           go_roundw
           case rel => exact ⟨k + 1, by omega, by go_num, HB3⟩
           case measure => simp [intOf]; omega
        ·go_wp2_with fail
         go_roundw
         case rel => exact ⟨k + 1, by omega, by go_num, HN⟩
         case measure => simp [intOf]; omega
  ·go_wp2_with fail
   go_ret
   exact ⟨rfl, HB.out⟩
end Go.Proofs.YteebeiaokfenmaaGreat.KP

namespace Go.Proofs.YteebeiaokfenmaaGreat
open Go.RowKit
set_option linter.unusedVariables false
set_option maxRecDepth 100000
theorem str_at {w : World} {A : Option Addr} {n : Nat} {l : List UInt8} (h : Rd w A n (bc l)) (cap : Nat) : (convert 120 9 (.slice A n cap)).run Tryz.prog w = .ok (.string ⟨l.toArray⟩) w :=
 run_string_of _ _ _ 5 _ _ cap _ Tryz.underlying120 Tryz.underlying5 Tryz.underlying9 h
end Go.Proofs.YteebeiaokfenmaaGreat

namespace Go.Proofs.YteebeiaokfenmaaGreat.KP
open Go.RowKit CP TP
open CM (Mg Cm)
open TM (Sp)
open KM (Wt Sk)
set_option linter.unusedVariables false
set_option linter.unusedSimpArgs false
set_option maxRecDepth 100000
set_option maxHeartbeats 8000000 in
theorem rleast_any (A : Option Addr) (n c : Nat) (l : List Wt) (w : World) (h : KR KW w A n c l) (hne : l ≠ []) : Calls Tryz.prog 120 #[.slice A n c] w (IsN (KM.lst l : Nat) w) := by
 obtain ⟨r, hr⟩ : ∃ r, r = KM.lst l := ⟨_, rfl⟩
 rw [← hr]
 have HR := h! hr
 have HL := h! h.len
 have hn63 := h.small
 have H := h! (fun W (hb : Below w.heap.size w W) => h.below hb)
 have H1 := h! (upto_one hne)
 clear h hne hr
 go_enter Tryz.func120, Tryz.ntmps120
 go_wp2_with fail
 go_loopw [3, 4] (fun a i wr => ∃ p k : Nat, k ≤ n + 1 ∧ a = .int .i64 p ∧ i = .int .i64 k ∧ Below w.heap.size w wr ∧ Hid (Upto l k p)) (fun a i _ => n + 1 - (intOf i).toNat)
 case atStart => exact ⟨0, 1, by omega, rfl, rfl, Below.refl _ _, H1⟩
 case round =>
  clear H1
  obtain ⟨p, k, hk, rfl, rfl, hB, HU⟩ := hrel
  have HB := h! hB
  clear hB
  by_cases hlt : k < n
  ·obtain ⟨y, hy⟩ : ∃ y, l[k]? = some y := ⟨_, List.getElem?_eq_getElem (by have := HL.out; omega)⟩
   have HY := h! hy
   obtain ⟨x, hx⟩ : ∃ x, l[p]? = some x := by obtain ⟨x, h, _⟩ := HU.out; exact ⟨x, h⟩
   have HXx := h! hx
   obtain ⟨bl, o, P, q, rfl, _, _, hat, _⟩ := wts_at (H.out _ HB.out) hy
   obtain ⟨bl', o', P', q', e', hpn, _, hat', _⟩ := wts_at (H.out _ HB.out) hx
   injection e' with e'
   injection e' with e1 e2
   subst e1 e2
   have HAT := h! (And.intro hat hat')
   obtain ⟨b0, b1, b2, b3, b4, b5, b6⟩ := hat
   obtain ⟨a0, a1, a2, a3, a4, a5, a6⟩ := hat'
   clear hx hy
   have hk0 : (0 : Int) ≤ (k : Int) := by omega
   have hkn : (k : Int) < (n : Int) := by omega
   have hp0 : (0 : Int) ≤ (p : Int) := by omega
   have hp1 : (p : Int) < (n : Int) := by omega
   obtain ⟨d, hd⟩ : ∃ d, d = TM.less (KM.stp y) (KM.stp x) := ⟨_, rfl⟩
   have HD := h! hd
   have C1 := h! (fun w => rstamp_any P q y w)
   have C2 := h! (fun w => rstamp_any P' q' x w)
   have C3 := h! (fun w => rless_any (KM.stp y) (KM.stp x) w)
   rw [← hd] at C3
   clear hd
   have hbl := cell_block b0
   obtain ⟨⟨yi, yg, yt, yk, yb⟩, ym, yf⟩ := y
   obtain ⟨⟨xi, xg, xt, xk, xb⟩, xm, xf⟩ := x
   unfold vwt at C1 C2
   unfold KM.stp at C1 C2 C3
   unfold vsp at C3
   simp only at a0 a1 a2 a3 a4 a5 a6 b0 b1 b2 b3 b4 b5 b6 C1 C2 C3
   have HSS := h! (fun (w' : World) (h : Below wr.heap.size wr w') => show w'.cell? ⟨bl, o + k * 7, none⟩ = some (.int .i64 yi) ∧ w'.cell? ⟨bl, o + k * 7 + 1, none⟩ = some (.slice P yg.length q) ∧ w'.cell? ⟨bl, o + k * 7 + 2, none⟩ = some (.int .i64 yt) ∧ w'.cell? ⟨bl, o + k * 7 + 3, none⟩ = some (.string yk) ∧ w'.cell? ⟨bl, o + k * 7 + 4, none⟩ = some (.string yb) ∧ w'.cell? ⟨bl, o + k * 7 + 5, none⟩ = some (.int .i64 ym) ∧ w'.cell? ⟨bl, o + k * 7 + 6, none⟩ = some (.bool yf) ∧ w'.cell? ⟨bl, o + p * 7, none⟩ = some (.int .i64 xi) ∧ w'.cell? ⟨bl, o + p * 7 + 1, none⟩ = some (.slice P' xg.length q') ∧ w'.cell? ⟨bl, o + p * 7 + 2, none⟩ = some (.int .i64 xt) ∧ w'.cell? ⟨bl, o + p * 7 + 3, none⟩ = some (.string xk) ∧ w'.cell? ⟨bl, o + p * 7 + 4, none⟩ = some (.string xb) ∧ w'.cell? ⟨bl, o + p * 7 + 5, none⟩ = some (.int .i64 xm) ∧ w'.cell? ⟨bl, o + p * 7 + 6, none⟩ = some (.bool xf) from
    ⟨(h.cell (cell_block b0)).trans b0, (h.cell (cell_block b1)).trans b1, (h.cell (cell_block b2)).trans b2, (h.cell (cell_block b3)).trans b3, (h.cell (cell_block b4)).trans b4, (h.cell (cell_block b5)).trans b5, (h.cell (cell_block b6)).trans b6, (h.cell (cell_block a0)).trans a0, (h.cell (cell_block a1)).trans a1, (h.cell (cell_block a2)).trans a2, (h.cell (cell_block a3)).trans a3, (h.cell (cell_block a4)).trans a4, (h.cell (cell_block a5)).trans a5, (h.cell (cell_block a6)).trans a6⟩)
   have bb1 : Below wr.heap.size wr wr.drew := (Below.refl _ _).drew
   go_wp2_with fail
   obtain ⟨ud, hud⟩ : ∃ ud, ud = wr.drew := ⟨_, rfl⟩
   refine wp_region_held_drew (S := fun w' => w'.cell? ⟨bl, o + k * 7, none⟩ = some (.int .i64 yi) ∧ w'.cell? ⟨bl, o + k * 7 + 1, none⟩ = some (.slice P yg.length q) ∧ w'.cell? ⟨bl, o + k * 7 + 2, none⟩ = some (.int .i64 yt) ∧ w'.cell? ⟨bl, o + k * 7 + 3, none⟩ = some (.string yk) ∧ w'.cell? ⟨bl, o + k * 7 + 4, none⟩ = some (.string yb) ∧ w'.cell? ⟨bl, o + k * 7 + 5, none⟩ = some (.int .i64 ym) ∧ w'.cell? ⟨bl, o + k * 7 + 6, none⟩ = some (.bool yf) ∧ w'.cell? ⟨bl, o + p * 7, none⟩ = some (.int .i64 xi) ∧ w'.cell? ⟨bl, o + p * 7 + 1, none⟩ = some (.slice P' xg.length q') ∧ w'.cell? ⟨bl, o + p * 7 + 2, none⟩ = some (.int .i64 xt) ∧ w'.cell? ⟨bl, o + p * 7 + 3, none⟩ = some (.string xk) ∧ w'.cell? ⟨bl, o + p * 7 + 4, none⟩ = some (.string xb) ∧ w'.cell? ⟨bl, o + p * 7 + 5, none⟩ = some (.int .i64 xm) ∧ w'.cell? ⟨bl, o + p * 7 + 6, none⟩ = some (.bool xf)) (by kernel_rfl) (HSS.out _ bb1) (fun hHeld => ?_)
   rw [← hud] at bb1 hHeld ⊢
   clear hud
   refine qT 0 ?_; try simp only [Act.put, qq]
   refine qT 1 ?_; try simp only [Act.put, qq]
   refine qT 2 ?_; try simp only [Act.put, qq]
   refine qT 3 ?_; try simp only [Act.put, qq]
   refine qT 5 ?_; try simp only [Act.put, qq]
   refine qT 6 ?_; try simp only [Act.put, qq]
   refine qT 7 ?_; try simp only [Act.put, qq]
   refine qT 8 ?_; try simp only [Act.put, qq]
   refine qR 4 fun K hK => ?_
   go_simp
   refine (C1.out _).mono ?_
   rintro e w3 ⟨rfl, hb⟩
   have bb2 := bmore bb1 hb n!
   clear hb
   unfold vsp
   refine hK.out _ _ (HSS.out _ bb2) (fun hHeld => ?_)
   clear hK
   try simp only [Act.put, qq]
   refine qR 9 fun K hK => ?_
   go_simp
   refine (C2.out _).mono ?_
   rintro e w4 ⟨rfl, hb⟩
   have bb3 := bmore bb2 hb n!
   clear hb
   unfold vsp
   refine hK.out _ _ (HSS.out _ bb3) (fun hHeld => ?_)
   clear hK
   try simp only [Act.put, qq]
   refine qR 10 fun K hK => ?_
   go_simp
   refine (C3.out _).mono ?_
   rintro e w5 ⟨rfl, hb⟩
   have bb4 := bmore bb3 hb n!
   clear hb
   refine hK.out _ _ (HSS.out _ bb4) (fun hHeld => ?_)
   clear hK
   try simp only [Act.put, qq]
   refine wpAnyH_done (by kernel_rfl) ?_ _
   clear hHeld HSS
   have HN := h! (bmore HB.out bb4 n!)
   clear a0 a1 a2 a3 a4 a5 a6 b0 b1 b2 b3 b4 b5 b6 C1 C2 C3 HAT
   rcases d with _ | _
   ·have HF := h! (HU.out.keep HXx.out HY.out HD.out.symm)
    go_wp2_with fail
    go_roundw
    case rel => exact ⟨p, k + 1, by omega, rfl, by go_num, HN.out, HF⟩
    case measure => simp [intOf]; omega
   ·have HF := h! (HU.out.turn HXx.out HY.out HD.out.symm)
    go_wp2_with fail
    go_roundw
    case rel => exact ⟨k, k + 1, by omega, rfl, by go_num, HN.out, HF⟩
    case measure => simp [intOf]; omega
  ·have HF := h! (show r = p by rw [HR.out]; exact HU.out.all (by have := HL.out; omega))
   go_wp2_with fail
   go_ret
   exact ⟨by rw [HF.out]; rfl, HB.out⟩
end Go.Proofs.YteebeiaokfenmaaGreat.KP

namespace Go.Proofs.YteebeiaokfenmaaGreat.KP
open Go.RowKit CP TP
open CM (Mg Cm)
open TM (Sp)
open KM (Wt Sk)
set_option linter.unusedVariables false
set_option linter.unusedSimpArgs false
set_option maxRecDepth 100000
set_option maxHeartbeats 8000000 in
theorem rsameMessages_any (A B : Option Addr) (n m ca cb : Nat) (x y : List Mg) (w : World) (h1 : KR KM_ w A n ca x) (h2 : KR KM_ w B m cb y) :
  Calls Tryz.prog 22 #[.slice A n ca, .slice B m cb] w (IsB (decide (x = y)) w) := by
 obtain ⟨r, hr⟩ : ∃ r, r = decide (x = y) := ⟨_, rfl⟩
 rw [← hr]
 have HR := h! hr
 have hn := h1.small
 have hm := h2.small
 have HX := h! h1.len
 have HY := h! h2.len
 have H1 := h! h1
 have H2 := h! h2
 clear h1 h2 hr
 by_cases hnm : n = m
 rotate_left
 ·have HF := h! (show r = false by rw [HR.out]; exact decide_eq_false (fun e => hnm (by have := HX.out; have := HY.out; rw [e] at *; omega)))
  have hb : ((n : Int) != (m : Int)) = true := by simp; omega
  clear hnm
  go_enter Tryz.func22, Tryz.ntmps22
  go_wp2_with fail
  go_ret
  exact ⟨by rw [HF.out]; rfl, Below.refl _ _⟩
 subst hnm
 have hne : ((n : Int) != (n : Int)) = false := by simp
 go_enter Tryz.func22, Tryz.ntmps22
 go_wp2_with fail
 go_loopw [5] (fun i wr => ∃ k : Nat, k ≤ n ∧ i = .int .i64 k ∧ Below w.heap.size w wr ∧ Hid (x.take k = y.take k)) (fun i _ => n - (intOf i).toNat)
 case atStart => exact ⟨0, by omega, rfl, Below.refl _ _, h! rfl⟩
 case round =>
  obtain ⟨k, hk, rfl, hB, HT⟩ := hrel
  have HB := h! hB
  clear hB
  by_cases hlt : k < n
  ·obtain ⟨a, ha⟩ : ∃ a, x[k]? = some a := ⟨_, List.getElem?_eq_getElem (by have := HX.out; omega)⟩
   obtain ⟨b, hb⟩ : ∃ b, y[k]? = some b := ⟨_, List.getElem?_eq_getElem (by have := HY.out; omega)⟩
   have HA := h! ha
   have HBb := h! hb
   obtain ⟨b1, o1, P1, q1, rfl, _, _, hat1, hr1⟩ := mgs_at (H1.out.below HB.out) ha
   obtain ⟨b2, o2, P2, q2, rfl, _, _, hat2, hr2⟩ := mgs_at (H2.out.below HB.out) hb
   obtain ⟨x0, x1, x2, x3, x4⟩ := hat1
   obtain ⟨y0, y1, y2, y3, y4⟩ := hat2
   clear ha hb
   have hk0 : (0 : Int) ≤ (k : Int) := by omega
   have hkn : (k : Int) < (n : Int) := by omega
   obtain ⟨d, hd⟩ : ∃ d, d = decide (a = b) := ⟨_, rfl⟩
   have HD := h! hd
   have C := h! (fun W (hb : Below wr.heap.size wr W) => sameMessage_any a b _ _ W ⟨P1, q1, rfl, hr1.below hb⟩ ⟨P2, q2, rfl, hr2.below hb⟩)
   rw [← hd] at C
   clear hd hr1 hr2
   obtain ⟨ai, ag, at', ak, ab⟩ := a
   obtain ⟨bi, bg, bt, bk, bb⟩ := b
   unfold mcells at C
   simp only at x0 x1 x2 x3 x4 y0 y1 y2 y3 y4 C
   have HSS := h! (fun (w' : World) (h : Below wr.heap.size wr w') => show w'.cell? ⟨b1, o1 + k * 5, none⟩ = some (.int .i64 ai) ∧ w'.cell? ⟨b1, o1 + k * 5 + 1, none⟩ = some (.slice P1 ag.length q1) ∧ w'.cell? ⟨b1, o1 + k * 5 + 2, none⟩ = some (.int .i64 at') ∧ w'.cell? ⟨b1, o1 + k * 5 + 3, none⟩ = some (.string ak) ∧ w'.cell? ⟨b1, o1 + k * 5 + 4, none⟩ = some (.string ab) ∧ w'.cell? ⟨b2, o2 + k * 5, none⟩ = some (.int .i64 bi) ∧ w'.cell? ⟨b2, o2 + k * 5 + 1, none⟩ = some (.slice P2 bg.length q2) ∧ w'.cell? ⟨b2, o2 + k * 5 + 2, none⟩ = some (.int .i64 bt) ∧ w'.cell? ⟨b2, o2 + k * 5 + 3, none⟩ = some (.string bk) ∧ w'.cell? ⟨b2, o2 + k * 5 + 4, none⟩ = some (.string bb) from
    ⟨(h.cell (cell_block x0)).trans x0, (h.cell (cell_block x1)).trans x1, (h.cell (cell_block x2)).trans x2, (h.cell (cell_block x3)).trans x3, (h.cell (cell_block x4)).trans x4, (h.cell (cell_block y0)).trans y0, (h.cell (cell_block y1)).trans y1, (h.cell (cell_block y2)).trans y2, (h.cell (cell_block y3)).trans y3, (h.cell (cell_block y4)).trans y4⟩)
   have bb1 : Below wr.heap.size wr wr.drew := (Below.refl _ _).drew
   go_wp2_with fail
   obtain ⟨ud, hud⟩ : ∃ ud, ud = wr.drew := ⟨_, rfl⟩
   refine wp_region_held_drew (S := fun w' => w'.cell? ⟨b1, o1 + k * 5, none⟩ = some (.int .i64 ai) ∧ w'.cell? ⟨b1, o1 + k * 5 + 1, none⟩ = some (.slice P1 ag.length q1) ∧ w'.cell? ⟨b1, o1 + k * 5 + 2, none⟩ = some (.int .i64 at') ∧ w'.cell? ⟨b1, o1 + k * 5 + 3, none⟩ = some (.string ak) ∧ w'.cell? ⟨b1, o1 + k * 5 + 4, none⟩ = some (.string ab) ∧ w'.cell? ⟨b2, o2 + k * 5, none⟩ = some (.int .i64 bi) ∧ w'.cell? ⟨b2, o2 + k * 5 + 1, none⟩ = some (.slice P2 bg.length q2) ∧ w'.cell? ⟨b2, o2 + k * 5 + 2, none⟩ = some (.int .i64 bt) ∧ w'.cell? ⟨b2, o2 + k * 5 + 3, none⟩ = some (.string bk) ∧ w'.cell? ⟨b2, o2 + k * 5 + 4, none⟩ = some (.string bb)) (by kernel_rfl) (HSS.out _ bb1) (fun hHeld => ?_)
   rw [← hud] at bb1 hHeld ⊢
   clear hud
   refine qT 0 ?_; try simp only [Act.put, qq]
   refine qT 1 ?_; try simp only [Act.put, qq]
   refine qT 2 ?_; try simp only [Act.put, qq]
   refine qT 3 ?_; try simp only [Act.put, qq]
   refine qT 4 ?_; try simp only [Act.put, qq]
   refine qT 5 ?_; try simp only [Act.put, qq]
   refine qT 6 ?_; try simp only [Act.put, qq]
   refine qT 7 ?_; try simp only [Act.put, qq]
   refine qR 8 fun K hK => ?_
   go_simp
   refine (C.out _ bb1).mono ?_
   rintro e w3 ⟨rfl, hb⟩
   have bb2 := bmore bb1 hb n!
   clear hb
   refine hK.out _ _ (HSS.out _ bb2) (fun hHeld => ?_)
   clear hK
   try simp only [Act.put, qq]
   refine qT 9 ?_; try simp only [Act.put, qq]
   refine wpAnyH_done (by kernel_rfl) ?_ _
   clear hHeld HSS
   have HN := h! (bmore HB.out bb2 n!)
   clear x0 x1 x2 x3 x4 y0 y1 y2 y3 y4 C
   rcases d with _ | _
   ·simp only [Bool.not_false]
    have HF := h! (show r = false by rw [HR.out]; exact decide_eq_false (ne_at HA.out HBb.out (of_decide_eq_false HD.out.symm)))
    go_wp2_with fail
    go_ret
    exact ⟨by rw [HF.out]; rfl, HN.out⟩
   ·simp only [Bool.not_true]
    have HF := h! (take_more HT.out HA.out (by rw [of_decide_eq_true HD.out.symm]; exact HBb.out))
    go_wp2_with fail
    go_roundw
    case rel => exact ⟨k + 1, by omega, by go_num, HN.out, HF⟩
    case measure => simp [intOf]; omega
  ·have HF := h! (show r = true by
    rw [HR.out]
    exact decide_eq_true (take_all HT.out (by have := HX.out; omega) (by have := HY.out; omega)))
   go_wp2_with fail
   go_ret
   exact ⟨by rw [HF.out]; rfl, HB.out⟩
end Go.Proofs.YteebeiaokfenmaaGreat.KP

namespace Go.Proofs.YteebeiaokfenmaaGreat
open Go.RowKit
set_option linter.unusedVariables false
set_option maxRecDepth 100000
theorem refIn_yes (n : Int) (w : World) (h : 0 ≤ n ∧ n ≤ 1099511627776) :
  Calls Tryz.prog 167 #[.int .i64 n] w fun e w' => e = .returned (.bool true) ∧ w = w' := by
 obtain ⟨h1, h2⟩ := h
 go_enter Tryz.func167, Tryz.ntmps167
 go_wp2
 go_ret
 exact ⟨rfl, rfl⟩
theorem refIn_no (n : Int) (w : World) (h : ¬ (0 ≤ n ∧ n ≤ 1099511627776)) :
  Calls Tryz.prog 167 #[.int .i64 n] w fun e w' => e = .returned (.bool false) ∧ w = w' := by
 by_cases h1 : 0 ≤ n
 ·have h2 : decide (n ≤ 1099511627776) = false := by simp; omega
  clear h
  go_enter Tryz.func167, Tryz.ntmps167
  go_wp2
  go_ret
  exact ⟨rfl, rfl⟩
 ·have h2 : n < 0 := by omega
  clear h h1
  go_enter Tryz.func167, Tryz.ntmps167
  go_wp2
  go_ret
  exact ⟨rfl, rfl⟩
end Go.Proofs.YteebeiaokfenmaaGreat

namespace Go.Proofs.YteebeiaokfenmaaGreat
open Go.RowKit
set_option linter.unusedVariables false
set_option maxRecDepth 100000
end Go.Proofs.YteebeiaokfenmaaGreat

namespace Go.Proofs.YteebeiaokfenmaaGreat.CP
open Go.RowKit
open CM (Mg Cm)
set_option linter.unusedVariables false
set_option linter.unusedSimpArgs false
def gval (g : Nat) : Value := .func (.func 66) #[] #[.pointer (some ⟨g, 0, none⟩)]
def GatV (w : World) (g : Nat) (v : Value) (pre : List UInt8) : Prop :=
 Box w g 120 #[v] ∧ Box w (g + 1) 121 #[gval g] ∧ w.ownsRow (g + 2) 5 1 v pre.length (bc pre)
theorem GatV.below {w w' : World} {g : Nat} {v : Value} {pre : List UInt8} (h : GatV w g v pre) (hb : Below w.heap.size w w') : GatV w' g v pre := by
 obtain ⟨h1, h2, h3⟩ := h
 exact ⟨h1.below hb h1.lt, h2.below hb h2.lt, own_below h3 hb⟩
def Kp (w w' : World) (g : Nat) (v v' : Value) : Prop := ∀ h t cs, Box w h t cs → h ≠ g → v.ownBlock ≠ some h → Box w' h t cs ∧ v'.ownBlock ≠ some h
theorem Kp.trans {a b c : World} {g : Nat} {u v x : Value} (h : Kp a b g u v) (k : Kp b c g v x) : Kp a c g u x := fun y t cs hb hg hu => by
 obtain ⟨h1, h2⟩ := h y t cs hb hg hu
 exact k y t cs h1 hg h2
theorem Kp.ofBelow {a b : World} (hb : Below a.heap.size a b) (g : Nat) (v : Value) : Kp a b g v v := fun y t cs h hg hu => ⟨h.below hb h.lt, hu⟩
theorem box_grown1 {w w' : World} {g : Nat} {t : TypeId} {cs : Array Value} {r : Option Nat} (h : Box w g t cs) (hg : w.grownBy w' r) (hr : ∀ k, r = some k → g + 1 ≤ k) : Box w' g t cs :=
 (hg.block g h.lt (fun e => by have := hr g e.symm; omega)).trans h
theorem own_ge {w : World} {base : Nat} {e : TypeId} {v : Value} {n : Nat} {xs : List Value} (h : w.ownsRow base e 1 v n xs) : ∀ k, v.ownBlock = some k → base ≤ k := by
 intro k hk
 rcases h.2 with ⟨rfl, _⟩ | ⟨g', cap, cur, rfl, hb, _⟩
 ·simp [Value.ownBlock] at hk
 ·simp [Value.ownBlock] at hk; omega
theorem gat_more {w w2 : World} {g : Nat} {v v2 : Value} {pre l : List UInt8} (b1 : Box w g 120 #[v]) (b2 : Box w (g + 1) 121 #[gval g]) (hg : w.grownBy w2 v.ownBlock) (hr : ∀ k, v.ownBlock = some k → g + 2 ≤ k)
  (ho : w2.ownsRow (g + 2) 5 1 v2 (pre.length + l.length) (bc pre ++ bc l)) (hob : v2.ownBlock = v.ownBlock ∨ v2.ownBlock = some w.heap.size) :
  GatV (w2.setCell ⟨g, 0, none⟩ v2) g v2 (pre ++ l) ∧ Kp w (w2.setCell ⟨g, 0, none⟩ v2) g v v2 ∧ Below g w (w2.setCell ⟨g, 0, none⟩ v2) := by
 have h1 := box_grown1 b1 hg (fun k hk => by have := hr k hk; omega)
 have h2 := box_grown1 b2 hg (fun k hk => by have := hr k hk; omega)
 refine ⟨⟨?_, ?_, ?_⟩, ?_, ?_⟩
 ·have := h1.stored 0 v2
  simpa using this
 ·exact h2.far (p := ⟨g, 0, none⟩) (by simp) v2
 ·rw [List.length_append, bc_append]
  exact ownsRow_setCell_below ho (by simp) _
 ·intro h t cs hb hne hv
  have hb2 : Box w2 h t cs := (hg.block h hb.lt (fun e => hv e.symm)).trans hb
  refine ⟨hb2.far (p := ⟨g, 0, none⟩) (by first | exact hne | exact hne.symm) v2, ?_⟩
  rcases hob with e | e
  ·rw [e]; exact hv
  ·rw [e]
   intro k
   injection k with k
   have := hb.lt
   omega
 ·have hb := (Below.refl g w).grown hg (by have := b1.lt; omega) (fun k hk => by have := hr k hk; omega)
  exact hb.setCell (p := ⟨g, 0, none⟩) n! _
theorem info_u8g : (Tryz.prog.info? 5).map (fun i => (i.zero, i.size, i.bytes)) = some (some (.int .u8 0), 1, 1) := by kernel_rfl
set_option maxRecDepth 100000 in
set_option maxHeartbeats 1000000 in
theorem gather_any (g : Nat) (pre l : List UInt8) (A : Option Addr) (n c : Nat) (v : Value) (w : World) (h : GatV w g v pre) (hr : Rd w A n (bc l)) (hn : n ≤ 10000) (hp : pre.length ≤ 10000) :
  Calls Tryz.prog 66 #[.slice A n c, .int .i64 0, .pointer (some ⟨g, 0, none⟩)] w fun e w' => e = .returned (.tuple #[]) ∧ ∃ v', GatV w' g v' (pre ++ l) ∧ Kp w w' g v v' ∧ Below g w w' := by
 obtain ⟨i0, hi, hz0, hz1, hz2⟩ := info_parts info_u8g
 obtain ⟨b1, b2, ho⟩ := h
 have hl : l.length = n := by have := hr.1; rwa [bc_length] at this
 have hg2 : g + 2 ≤ w.heap.size := by have := b2.lt; omega
 have c1 := b1.cell 0
 simp at c1
 have B1 := h! b1; have B2 := h! b2; have HO := h! ho; have HR := h! hr; have HL := h! hl
 have HG := h! (own_ge ho)
 clear b1 b2 ho hr hl
 go_enter Tryz.func66, Tryz.ntmps66
 go_wp2_with (at_builtin; refine wpList_append_rd _ rfl _ _ 120 rfl (g + 2) 5 i0 (.int .u8 0) 1 Tryz.underlying120 hi hz0 hz1 hz2 rfl v _ _ rfl HO.out A n c (bc l) rfl HR.out (bc_one l) (by unfold maxLen; omega) (by omega) hg2 ?_; intro v2 w2 hown2 hgr2 hob2; have b1 := box_grown1 B1.out hgr2 (fun k hk => (by have := HG.out k hk; omega)); have d1 := b1.cell 0; have f1 := b1.frozen 0; clear b1; simp at d1; have HOB := h! hob2; obtain ⟨A2, c3, rfl, _, _⟩ := own_slice hown2)
 go_end0
 exact ⟨rfl, _, gat_more (pre := pre) (l := l) B1.out B2.out hgr2 HG.out (by rw [HL.out]; exact hown2) HOB.out⟩
end Go.Proofs.YteebeiaokfenmaaGreat.CP
