/-
  The document's own waits, done, Stamp, least of a clock (towncrierref15). Conditions: a clock that reads as one.
  The document's own MayMessage (towncrierref12). Conditions: as MgIs and MgFit say.
  What num.Text and num.GetText do, for every text and whatever bytes. Conditions: the slice reads as bytes.
  What num.Ints and num.GetInts do, for every list and whatever bytes. Conditions: the slices read as numbers, as bytes.
  What num.GetInts does, for whatever bytes and bound. Conditions: the slice reads as bytes.
  The document's own Agree of two orders, and what both have (towncrierref16). Conditions: slices of stamps that read, at most 4,096.
  The document's own Check of members (towncrierref06). Conditions: the slices read as ints.
-/
import Derived.Test.YteebeiaokfenmaaGreatK01
import Derived.Test.YteebeiaokfenmaaGreatProg
import Derived.Test.YteebeiaokfenmaaGreatK09
import Derived.Test.YteebeiaokfenmaaGreatK08
import Derived.Test.YteebeiaokfenmaaGreatK05
import Derived.Deep.QuietTactic
import Derived.BigQuiet
import Derived.Deep.RegionHeld3
import Derived.Deep.DeepCutAuto
import Derived.Test.YteebeiaokfenmaaGreatK13
import Derived.Test.YteebeiaokfenmaaGreatK06
import Derived.Test.YteebeiaokfenmaaGreatK04
import Derived.Test.YteebeiaokfenmaaGreatK11
namespace Go.Proofs.YteebeiaokfenmaaGreat.KP
open Go.RowKit CP TP
open CM (Mg Cm)
open TM (Sp)
open KM (Wt Sk)
set_option linter.unusedVariables false
set_option linter.unusedSimpArgs false
set_option maxRecDepth 100000
def watI (l : List Wt) (id : Int) : Int := if KM.wat l id < l.length then (KM.wat l id : Int) else -1
theorem watI_at {l : List Wt} {id : Int} {k : Nat} {x : Wt} (hk : l[k]? = some x) (hx : x.m.id = id) (hno : ∀ j y, j < k → l[j]? = some y → y.m.id ≠ id) : watI l id = (k : Int) := by
 have h := KM.wat_eq hk hx hno
 unfold watI
 rw [h, if_pos (List.getElem?_eq_some_iff.1 hk).1]
theorem watI_no {l : List Wt} {id : Int} {k : Nat} (hl : l.length ≤ k) (hno : ∀ j y, j < k → l[j]? = some y → y.m.id ≠ id) : watI l id = -1 := by
 have h : KM.wat l id = l.length := KM.wat_no.2 fun w hw => by
  obtain ⟨j, hj⟩ := List.getElem?_of_mem hw
  exact hno j w (by have := (List.getElem?_eq_some_iff.1 hj).1; omega) hj
 unfold watI
 rw [h, if_neg (Nat.lt_irrefl _)]
set_option maxHeartbeats 4000000 in
theorem rwaits_any (v : Value) (s : Sk) (id : Int) (w : World) (h : SkIs w v s) : Calls Tryz.prog 115 #[v, .int .i64 id] w (IsN (watI s.ws id) w) := by
 obtain ⟨A, c, B, d, rfl, h1, h2⟩ := h
 obtain ⟨n, hn⟩ : ∃ n, n = s.ws.length := ⟨_, rfl⟩
 obtain ⟨r, hr⟩ : ∃ r, r = watI s.ws id := ⟨_, rfl⟩
 rw [← hr]
 rw [← hn] at h1 ⊢
 have HR := h! hr
 have HL := h! hn
 have hn63 := h1.small
 have H := h! (fun W (hb : Below w.heap.size w W) => h1.below hb)
 have HB := h! (show Below w.heap.size w (w.alloc (.cells #[.int .i64 s.c, .slice A n c, .slice B s.ds.length d] 39)) from (Below.refl _ _).alloc n! _)
 have X := h! (Box.new w 39 #[.int .i64 s.c, .slice A n c, .slice B s.ds.length d])
 clear h1 h2 hr hn
 unfold vsk
 obtain ⟨sc, ws, ds⟩ := s
 simp only at *
 go_enter Tryz.func115, Tryz.ntmps115
 go_upto_region 1 with (fail)
 generalize w.alloc (.cells #[.int .i64 sc, .slice A n c, .slice B ds.length d] 39) = w1 at HB X ⊢
 generalize hg : w.heap.size = g at X ⊢
 clear hg
 go_wp2_with fail
 go_loopw [5] (fun i wr => ∃ k : Nat, k ≤ n ∧ i = .int .i64 k ∧ Below w1.heap.size w1 wr ∧ Hid (∀ j y, j < k → ws[j]? = some y → y.m.id ≠ id)) (fun i _ => n - (intOf i).toNat)
 case atStart => exact ⟨0, by omega, rfl, Below.refl _ _, h! fun j y hj => absurd hj (by omega)⟩
 case round =>
  obtain ⟨k, hk, rfl, hB, HN⟩ := hrel
  have HB2 := h! hB
  obtain ⟨x0, x1, x2⟩ := box_sk (X.out.below hB X.out.lt)
  clear hB
  by_cases hlt : k < n
  ·obtain ⟨a, ha⟩ : ∃ a, ws[k]? = some a := ⟨_, List.getElem?_eq_getElem (by have := HL.out; omega)⟩
   have HA := h! ha
   obtain ⟨bl, o, P, q, rfl, _, _, hat, _⟩ := wts_at (H.out _ (bmore HB.out HB2.out n!)) ha
   obtain ⟨a0, a1, a2, a3, a4, a5, a6⟩ := hat
   clear ha
   have hk0 : (0 : Int) ≤ (k : Int) := by omega
   have hkn : (k : Int) < (n : Int) := by omega
   by_cases he : a.m.id = id
   ·have HF := h! (show r = (k : Int) by rw [HR.out]; exact watI_at HA.out he HN.out)
    have hb : (a.m.id == id) = true := by simpa using he
    clear he
    go_wp2_with fail
    go_ret
    exact ⟨by rw [HF.out]; rfl, bmore HB.out HB2.out n!⟩
   ·have HF := h! (show ∀ j y, j < k + 1 → ws[j]? = some y → y.m.id ≠ id from fun j y hj hy => by
     rcases (show j < k ∨ j = k by omega) with h | rfl
     ·exact HN.out j y h hy
     ·rw [HA.out] at hy; injection hy with hy; subst hy; exact he)
    have hb : (a.m.id == id) = false := by simpa using he
    clear he
    go_wp2_with fail
    go_roundw
    case rel => exact ⟨k + 1, by omega, by go_num, HB2.out, HF⟩
    case measure => simp [intOf]; omega
  ·have HF := h! (show r = -1 by rw [HR.out]; exact watI_no (k := k) (by have := HL.out; omega) HN.out)
   go_wp2_with fail
   go_ret
   exact ⟨by rw [HF.out]; rfl, bmore HB.out HB2.out n!⟩
set_option maxHeartbeats 4000000 in
theorem rdone_any (v : Value) (s : Sk) (id : Int) (w : World) (h : SkIs w v s) : Calls Tryz.prog 116 #[v, .int .i64 id] w (IsB (KM.doneF s.ds id) w) := by
 obtain ⟨A, c, B, d, rfl, h1, h2⟩ := h
 obtain ⟨n, hn⟩ : ∃ n, n = s.ds.length := ⟨_, rfl⟩
 obtain ⟨r, hr⟩ : ∃ r, r = KM.doneF s.ds id := ⟨_, rfl⟩
 rw [← hr]
 rw [← hn] at h2 ⊢
 have HR := h! hr
 have HL := h! hn
 have hn63 := h2.small
 have H := h! (fun W (hb : Below w.heap.size w W) => h2.below hb)
 have HB := h! (show Below w.heap.size w (w.alloc (.cells #[.int .i64 s.c, .slice A s.ws.length c, .slice B n d] 39)) from (Below.refl _ _).alloc n! _)
 have X := h! (Box.new w 39 #[.int .i64 s.c, .slice A s.ws.length c, .slice B n d])
 clear h1 h2 hr hn
 unfold vsk
 obtain ⟨sc, ws, ds⟩ := s
 simp only at *
 go_enter Tryz.func116, Tryz.ntmps116
 go_upto_region 1 with (fail)
 generalize w.alloc (.cells #[.int .i64 sc, .slice A ws.length c, .slice B n d] 39) = w1 at HB X ⊢
 generalize hg : w.heap.size = g at X ⊢
 clear hg
 go_wp2_with fail
 go_loopw [5] (fun i wr => ∃ k : Nat, k ≤ n ∧ i = .int .i64 k ∧ Below w1.heap.size w1 wr ∧ Hid (∀ j y, j < k → ds[j]? = some y → y.i ≠ id)) (fun i _ => n - (intOf i).toNat)
 case atStart => exact ⟨0, by omega, rfl, Below.refl _ _, h! fun j y hj => absurd hj (by omega)⟩
 case round =>
  obtain ⟨k, hk, rfl, hB, HN⟩ := hrel
  have HB2 := h! hB
  obtain ⟨x0, x1, x2⟩ := box_sk (X.out.below hB X.out.lt)
  clear hB
  by_cases hlt : k < n
  ·obtain ⟨a, ha⟩ : ∃ a, ds[k]? = some a := ⟨_, List.getElem?_eq_getElem (by have := HL.out; omega)⟩
   have HA := h! ha
   obtain ⟨bl, o, rfl, _, _, a0, a1⟩ := (H.out _ (bmore HB.out HB2.out n!)).at_ ha
   clear ha
   have hk0 : (0 : Int) ≤ (k : Int) := by omega
   have hkn : (k : Int) < (n : Int) := by omega
   by_cases he : a.i = id
   ·have HF := h! (show r = true by
     rw [HR.out]
     rcases hd : KM.doneF ds id with _ | _
     ·exact absurd he (KM.doneF_no.1 hd a (List.mem_of_getElem? HA.out))
     ·rfl)
    have hb : (a.i == id) = true := by simpa using he
    clear he
    go_wp2_with fail
    go_ret
    exact ⟨by rw [HF.out]; rfl, bmore HB.out HB2.out n!⟩
   ·have HF := h! (show ∀ j y, j < k + 1 → ds[j]? = some y → y.i ≠ id from fun j y hj hy => by
     rcases (show j < k ∨ j = k by omega) with h | rfl
     ·exact HN.out j y h hy
     ·rw [HA.out] at hy; injection hy with hy; subst hy; exact he)
    have hb : (a.i == id) = false := by simpa using he
    clear he
    go_wp2_with fail
    go_roundw
    case rel => exact ⟨k + 1, by omega, by go_num, HB2.out, HF⟩
    case measure => simp [intOf]; omega
  ·have HF := h! (show r = false by
    rw [HR.out]
    refine KM.doneF_no.2 fun x hx => ?_
    obtain ⟨j, hj⟩ := List.getElem?_of_mem hx
    exact HN.out j x (by have := (List.getElem?_eq_some_iff.1 hj).1; have := HL.out; omega) hj)
   go_wp2_with fail
   go_ret
   exact ⟨by rw [HF.out]; rfl, bmore HB.out HB2.out n!⟩
set_option maxHeartbeats 1000000 in
theorem rstamp_any (A : Option Addr) (c : Nat) (x : Wt) (w : World) : Calls Tryz.prog 121 #[vwt A c x] w (IsSp (KM.stp x) w) := by
 have HB := h! (show Below w.heap.size w ((w.alloc (.cells #[.int .i64 x.m.id, .slice A x.m.gs.length c, .int .i64 x.m.tp, .string x.m.key, .string x.m.body, .int .i64 x.t, .bool x.f] 78)).alloc (.cells #[.int .i64 0, .int .i64 0] 46)) from ((Below.refl _ _).alloc n! _).alloc (by simp) _)
 have X := h! ((Box.new w 78 #[.int .i64 x.m.id, .slice A x.m.gs.length c, .int .i64 x.m.tp, .string x.m.key, .string x.m.body, .int .i64 x.t, .bool x.f]).alloc (.cells #[.int .i64 0, .int .i64 0] 46))
 have Y := h! (Box.new_at (w := w.alloc (.cells #[.int .i64 x.m.id, .slice A x.m.gs.length c, .int .i64 x.m.tp, .string x.m.key, .string x.m.body, .int .i64 x.t, .bool x.f] 78)) (t := 46) (cs := #[.int .i64 0, .int .i64 0]) (w.heap.size + 1) (by simp))
 obtain ⟨⟨mi, mg, mt, mk, mb⟩, t, f⟩ := x
 unfold vwt
 simp only at HB X Y ⊢
 go_enter Tryz.func121, Tryz.ntmps121
 go_upto_region 1 with (fail)
 generalize (w.alloc (.cells #[.int .i64 mi, .slice A mg.length c, .int .i64 mt, .string mk, .string mb, .int .i64 t, .bool f] 78)).alloc (.cells #[.int .i64 0, .int .i64 0] 46) = w1 at HB X Y ⊢
 obtain ⟨g0, hg0⟩ : ∃ g0, w.heap.size = g0 := ⟨_, rfl⟩
 rw [hg0] at X Y
 simp only [hg0]
 have HG := h! hg0
 clear hg0
 obtain ⟨x0, x1, x2, x3, x4, x5, x6⟩ := box_wt X.out
 have y0 := Y.out.cell 0
 have y1 := Y.out.cell 1
 have f0 := Y.out.frozen 0
 have f1 := Y.out.frozen 1
 simp at y0 y1
 have Z := h! (Y.out.put (.int .i64 t) (.int .i64 mi))
 go_wp2_with fail
 obtain ⟨z0, z1⟩ := box_two Z.out
 exact bodyPost_ret (v := .agg #[.int .i64 t, .int .i64 mi]) (by simp [results, Tryz.results121, go_sem, z0, z1]; try rfl) rfl ⟨rfl, below_put HB.out (by have := HG.out; omega) _ _⟩
end Go.Proofs.YteebeiaokfenmaaGreat.KP

namespace Go.Proofs.YteebeiaokfenmaaGreat.CP
open Go.RowKit
open CM (Mg Cm)
set_option linter.unusedVariables false
set_option linter.unusedSimpArgs false
set_option maxRecDepth 100000
theorem in_quiet (n a b : Int) (W : World) (v : Bool) (hv : decide (a ≤ n ∧ n < b) = v) (nq : Nat) : Calls Tryz.prog 77 #[.int .i64 n, .int .i64 a, .int .i64 b] (W.drewN nq) fun e w' => e = .returned (.bool v) ∧ ∃ m, w' = W.drewN m :=
 (In_any n a b (W.drewN nq)).mono fun e w' ⟨h1, h2⟩ => ⟨by rw [h1, hv], nq, h2⟩
set_option maxHeartbeats 8000000 in
theorem mayMessage_any (m : Mg) (v : Value) (w : World) (h : MgIs w v m) (hf : MgFit m) :
  Calls Tryz.prog 50 #[v] w (BoolIs (decide (CM.mgOk m)) w) := by
 obtain ⟨A, c, rfl, r1, r1c, r1m⟩ := h
 obtain ⟨mi, mg, mt, mk, mb⟩ := m
 obtain ⟨_, _, f1, f2⟩ := hf
 simp only at r1 r1c f1 f2
 unfold maxLen at r1m f1 f2
 have hiff : CM.mgOk ⟨mi, mg, mt, mk, mb⟩ ↔ (CM.idOk mi ∧ mg ≠ [] ∧ CM.riseG (-1) mg = true ∧ (0 ≤ mt ∧ mt < 4) ∧ mk.size ≤ 16 ∧ mb.size ≤ 64) := Iff.rfl
 have hno : ¬ (CM.idOk mi ∧ mg ≠ [] ∧ CM.riseG (-1) mg = true ∧ (0 ≤ mt ∧ mt < 4) ∧ mk.size ≤ 16 ∧ mb.size ≤ 64) → false = decide (CM.mgOk ⟨mi, mg, mt, mk, mb⟩) := fun h => by
  rw [decide_eq_false (fun e => h (hiff.1 e))]
 have hyes : (CM.idOk mi ∧ mg ≠ [] ∧ CM.riseG (-1) mg = true ∧ (0 ≤ mt ∧ mt < 4) ∧ mk.size ≤ 16 ∧ mb.size ≤ 64) → true = decide (CM.mgOk ⟨mi, mg, mt, mk, mb⟩) := fun h => by
  rw [decide_eq_true (hiff.2 h)]
 have HNO := h! hno
 have HYES := h! hyes
 clear hno hyes hiff
 generalize decide (CM.mgOk ⟨mi, mg, mt, mk, mb⟩) = r at HNO HYES ⊢
 show Calls _ _ #[.agg #[.int .i64 mi, .slice A mg.length c, .int .i64 mt, .string mk, .string mb]] _ _
 have hb0 : Below w.heap.size w (w.alloc (.cells #[.int .i64 mi, .slice A mg.length c, .int .i64 mt, .string mk, .string mb] 33)) := b!
 have HX := h! (Box.new w 33 #[.int .i64 mi, .slice A mg.length c, .int .i64 mt, .string mk, .string mb])
 have HR := h! (r1.below hb0)
 have HB := h! hb0
 clear r1 hb0
 go_enter Tryz.func50, Tryz.ntmps50
 go_upto_region 1 with (fail)
 generalize w.alloc (.cells #[.int .i64 mi, .slice A mg.length c, .int .i64 mt, .string mk, .string mb] 33) = w1 at HX HR HB ⊢
 generalize w.heap.size = g0 at HX ⊢
 obtain ⟨x0, x1, x2, x3, x4⟩ := box_mg HX.out
 obtain ⟨rg, hrg⟩ : ∃ rg, rg = CM.riseG (-1) mg := ⟨_, rfl⟩
 rw [← hrg] at HNO HYES
 have HS := h! (show CM.riseG (-1) (mg.drop 0) = rg from hrg.symm)
 clear hrg
 go_wp2_with fail
 clear x0 x1 x2 x3 x4
 have G1 := h! HX.out.lt
 go_loopw [3] (fun i wr => ∃ (k : Nat) (p : Int), k ≤ mg.length ∧ i = .int .i64 k ∧ Hid (Below w1.heap.size w1 wr) ∧ Hid (CM.riseG p (mg.drop k) = rg) ∧ Hid (k = 0 ∧ p = -1 ∨ 0 < k ∧ -1 ≤ p ∧ mg[k - 1]? = some p)) (fun i _ => mg.length - (intOf i).toNat)
 case atStart => exact ⟨0, -1, by omega, rfl, h! (Below.refl _ _), HS, h! (.inl ⟨rfl, rfl⟩)⟩
 case round =>
  clear HS
  obtain ⟨k, p, hk, rfl, HW, HQ, HP⟩ := hrel
  obtain ⟨x0, x1, x2, x3, x4⟩ := box_mg (HX.out.below HW.out G1.out)
  have HRW := h! (HR.out.below HW.out)
  replace HB := h! (HB.out.trans (HW.out.mono HB.out.size))
  by_cases hlt : k < mg.length
  ·obtain ⟨ad, u, rfl, _, hu, hcell⟩ := HRW.out.at_ hlt
   rw [ic_get mg k hlt] at hu
   injection hu with hu
   subst hu
   have hd := HQ.out
   rw [List.drop_eq_getElem_cons hlt] at hd
   have hzg : mg[k + 1 - 1]? = some mg[k] := by rw [Nat.add_sub_cancel]; exact List.getElem?_eq_getElem hlt
   obtain ⟨z, hz⟩ : ∃ z, z = mg[k] := ⟨_, rfl⟩
   rw [← hz] at hcell hd hzg
   clear hz HQ
   have HZG := h! hzg; clear hzg
   have hk0 : (0 : Int) ≤ (k : Int) := by omega
   have hkn : (k : Int) < (mg.length : Int) := by omega
   by_cases hin : 0 ≤ z ∧ z < 4
   ·have C := h! (in_quiet z 0 4 wr true (by simp; exact hin))
    have HIN := h! hin; clear hin
    rcases HP.out with ⟨hk1, hp⟩ | ⟨hk1, hp, hpz⟩
    ·have HD := h! ((rise_up (by have := HIN.out; omega) HIN.out.2).symm.trans hd)
     have hq1 : decide ((0 : Int) < (k : Int)) = false := by simp; omega
     have hq2 : decide (0 < k) = false := by simp; omega
     clear HP hk1 hp hd
     go_wp2_with fail
     go_quiet ((go_at_call 77; with_reducible exact C.out _))
     go_wp2_with fail
     go_roundw
     case rel => exact ⟨k + 1, z, by omega, by go_num, h! (below_drewN HW.out _), HD, h! (.inr ⟨by omega, by have := HIN.out; omega, HZG.out⟩)⟩
     case measure => simp [intOf]; omega
    ·have hkz1 : k - 1 < mg.length := by omega
     obtain ⟨ad2, u2, hA2, _, hu2, hcell2⟩ := HRW.out.at_ hkz1
     injection hA2 with hA2
     subst hA2
     have hu3 : u2 = .int .i64 p := by
      have : (ic mg)[k - 1]? = some (.int .i64 p) := by unfold ic; rw [List.getElem?_map, hpz]; rfl
      rw [this] at hu2
      injection hu2 with hu2
      exact hu2.symm
     subst hu3
     clear hu2 hkz1 hpz HP
     have hq1 : decide (0 < k) = true := by simp; omega
     have hq2 : decide ((0 : Int) < (k : Int)) = true := by simp; omega
     have s1 : IntKind.i64.wrap ((k : Int) - 1) = (k : Int) - 1 := IntWalk.i64_in _ ⟨by omega, by omega⟩
     have s2 : (0 : Int) ≤ (k : Int) - 1 := by omega
     have s3 : ((k : Int) - 1).toNat = k - 1 := by omega
     have s4 : (k : Int) - 1 < (mg.length : Int) := by omega
     by_cases hpl : p < z
     ·have HD := h! ((rise_up hpl HIN.out.2).symm.trans hd)
      have b2 : decide (z ≤ p) = false := by simp; omega
      clear hd
      go_wp2_with fail
      go_quiet ((go_at_call 77; with_reducible exact C.out _))
      clear s1 s3
      go_wp2_with fail
      go_roundw
      case rel => exact ⟨k + 1, z, by omega, by go_num, h! (below_drewN HW.out _), HD, h! (.inr ⟨by omega, by have := HIN.out; omega, HZG.out⟩)⟩
      case measure => simp [intOf]; omega
     ·have HD := h! ((rise_le (by omega)).symm.trans hd)
      have b2 : decide (z ≤ p) = true := by simp; omega
      clear hd
      go_wp2_with fail
      go_quiet ((go_at_call 77; with_reducible exact C.out _))
      clear s1 s3
      go_wp2_with fail
      go_ret
      exact bool_ret (HNO.out (fun h => by have := h.2.2.1; rw [← HD.out] at this; cases this)) (below_drewN HB.out _)
   ·have C := h! (in_quiet z 0 4 wr false (by simpa using hin))
    have HD := h! ((rise_no hin (by rcases HP.out with ⟨_, h⟩ | ⟨_, h, _⟩ <;> omega)).symm.trans hd)
    clear hd hin HP
    go_wp2_with fail
    go_quiet ((go_at_call 77; with_reducible exact C.out _))
    go_wp2_with fail
    go_ret
    exact bool_ret (HNO.out (fun h => by have := h.2.2.1; rw [← HD.out] at this; cases this)) (below_drewN HB.out _)
  ·have hrg : rg = true := by
    have := HQ.out
    rw [List.drop_of_length_le (by omega)] at this
    rw [← this]; rfl
   subst hrg
   clear HQ HP
   have CI := h! (Id_any mi)
   have CT := h! (In_any mt 0 4)
   by_cases g1 : mg = []
   ·have HF := h! (HNO.out (fun h => h.2.1 g1))
    have b1 : mg.length = 0 := by rw [g1]; rfl
    have b2 : (0 : Int) < (mg.length : Int) → False := fun h => by omega
    clear g1 HNO HYES
    go_wp2_with fail
    go_ret
    exact bool_ret HF.out HB.out
   have b1 : (0 : Int) < (mg.length : Int) := by have := List.length_pos_iff.2 g1; omega
   go_wp2_with fail
   refine (CI.out _).mono ?_
   rintro e w2 ⟨rfl, rfl⟩
   by_cases g2 : CM.idOk mi
   rotate_left
   ·have HF := h! (HNO.out (fun h => g2 h.1))
    rw [decide_eq_false g2]
    clear g2 HNO HYES
    go_wp2_with fail
    go_ret
    exact bool_ret HF.out HB.out
   rw [decide_eq_true g2]
   go_wp2_with fail
   refine (CT.out _).mono ?_
   rintro e w2 ⟨rfl, rfl⟩
   by_cases g3 : 0 ≤ mt ∧ mt < 4
   rotate_left
   ·have HF := h! (HNO.out (fun h => g3 h.2.2.2.1))
    rw [decide_eq_false g3]
    clear g3 HNO HYES
    go_wp2_with fail
    go_ret
    exact bool_ret HF.out HB.out
   rw [decide_eq_true g3]
   by_cases g4 : mk.size ≤ 16
   rotate_left
   ·have HF := h! (HNO.out (fun h => g4 h.2.2.2.2.1))
    have b4 : decide ((mk.size : Int) ≤ 16) = false := by simp; omega
    clear HNO HYES
    go_wp2_with fail
    go_ret
    exact bool_ret HF.out HB.out
   have b4 : decide ((mk.size : Int) ≤ 16) = true := by simp; omega
   by_cases g5 : mb.size ≤ 64
   rotate_left
   ·have HF := h! (HNO.out (fun h => g5 h.2.2.2.2.2))
    have b5 : decide ((mb.size : Int) ≤ 64) = false := by simp; omega
    clear HNO HYES
    go_wp2_with fail
    go_ret
    exact bool_ret HF.out HB.out
   have b5 : decide ((mb.size : Int) ≤ 64) = true := by simp; omega
   have HF := h! (HYES.out ⟨g2, g1, by simp, g3, g4, g5⟩)
   clear HNO HYES
   go_wp2_with fail
   go_ret
   exact bool_ret HF.out HB.out
end Go.Proofs.YteebeiaokfenmaaGreat.CP

namespace Go.Proofs.YteebeiaokfenmaaGreat
open Go.RowKit
set_option linter.unusedVariables false
set_option maxRecDepth 100000
theorem text_len (s : ByteArray) : s.data.toList.length = s.size := by rw [Array.length_toList]; rfl
set_option maxHeartbeats 400000 in
theorem text_ok (s : ByteArray) (w : World) (hs : s.size ≤ 4096) :
  Calls Tryz.prog 71 #[.string s] w fun e w' => ∃ v, e = .returned (.tuple #[v, .int .i64 0]) ∧ w'.ownsRow w.heap.size 5 1 v (NM.text s.data.toList).length (bc (NM.text s.data.toList)) ∧ Below w.heap.size w w' := by
 obtain ⟨i0, hi, hz0, hz1, hz2⟩ := info_parts info_u8
 have hl := NM.enc_le s.size
 go_enter Tryz.func71, Tryz.ntmps71
 go_wp2_with (first
  | (go_at_call 94; refine (appendNumber_any w.heap.size _ 0 [] s.size _ (by omega) (by omega) (World.ownsRow_nil _ _ _ _) n!).mono ?_; rintro e w1 ⟨v1, rfl, hown, hg, hob⟩; simp only [Nat.zero_add, List.nil_append] at hown)
  | (at_builtin; refine Lib.wpList_append_own_string _ rfl _ _ 120 9 rfl w.heap.size 5 i0 Tryz.underlying120 Tryz.underlying9 hi hz0 hz1 hz2 _ _ _ rfl hown s rfl (by unfold maxLen; omega) (by omega) hg.size ?_; intro v2 w2 hown2 hg2 _))
 go_ret2
 have hb := below_of_grown hg (by simp [Value.ownBlock])
 refine ⟨v2, rfl, ?_, ?_⟩
 ·rw [bc_str, ← bc_append] at hown2
  unfold NM.text
  rw [List.length_append, text_len]
  exact hown2
 ·exact hb.grown hg2 hb.size (fun k hk => by
   rcases hob with e | e
   ·have hk' : v1.ownBlock = some k := hk
    rw [e] at hk'; simp [Value.ownBlock] at hk'
   ·exact e k hk)
def textRes : Option (List UInt8 × Nat) → Value
 | none => .tuple #[.string ⟨#[]⟩, .int .i64 0, .int .i64 8]
 | some (t, k) => .tuple #[.string ⟨t.toArray⟩, .int .i64 k, .int .i64 0]
set_option maxHeartbeats 1000000 in
theorem getText_any (A : Option Addr) (n c : Nat) (l : List UInt8) (w : World) (hr : Rd w A n (bc l)) (hnc : n ≤ c) (hm : c ≤ maxLen) :
  Calls Tryz.prog 128 #[.slice A n c] w fun e w' => e = .returned (textRes (NM.getText l)) ∧ w = w' := by
 have hg := get_any A n c l w hr (Nat.le_trans hnc hm)
 unfold maxLen at hm
 have hl : l.length = n := by have := hr.1; rwa [bc_length] at this
 have HL := h! hl; clear hl
 rcases hd : NM.dec l with _ | ⟨x, k⟩
 ·rw [hd] at hg
  have hfin : NM.getText l = none := by unfold NM.getText; rw [hd]
  have HF := h! hfin; clear hfin hd
  have HG := h! hg; clear hg
  go_enter Tryz.func128, Tryz.ntmps128
  go_wp2_with (go_at_call 124; refine (HG.out).mono ?_; rintro e w' ⟨rfl, rfl⟩; unfold getRes)
  go_ret3
  rw [HF.out]
  exact ⟨rfl, rfl⟩
 ·have hb := NM.dec_bound l x k hd
  rw [hd] at hg
  obtain ⟨hx, hk1, hkl, hk6, _⟩ := hb
  rw [HL.out] at hkl
  have hfin : NM.getText l = if x ≤ 4096 ∧ x ≤ n - k then some ((l.drop k).take x, k + x) else none := by unfold NM.getText; rw [hd]; simp only [HL.out]
  have HF := h! hfin; clear hfin hd
  have HG := h! hg; clear hg
  by_cases h1 : x ≤ 4096
  ·by_cases h2 : x ≤ n - k
   ·have hkx : k + x ≤ n := by omega
    have hc1 : ∀ cap, (convert 120 9 (.slice (Option.map (fun x => x.add k) A) x cap)).run Tryz.prog w = .ok (.string ⟨((l.drop k).take x).toArray⟩) w := fun cap =>
     run_string_of w _ _ 5 _ _ cap ((l.drop k).take x) Tryz.underlying120 Tryz.underlying5 Tryz.underlying9 (by rw [← bc_take, ← bc_drop]; exact hr.mid hkx)
    obtain ⟨t, ht⟩ : ∃ t, t = (l.drop k).take x := ⟨_, rfl⟩
    rw [← ht] at hc1
    have HT := h! ht; clear ht
    have HR := h! hr; clear hr
    by_cases hck : c = k
    ·obtain rfl : x = 0 := by omega
     have hc2 : ∀ cap, (convert 120 9 (.slice A 0 cap)).run Tryz.prog w = .ok (.string ⟨t.toArray⟩) w := fun cap =>
      run_string_of w _ _ 5 _ _ cap t Tryz.underlying120 Tryz.underlying5 Tryz.underlying9 (by rw [HT.out]; simpa [bc] using Rd.nil)
     subst hck
     go_enter Tryz.func128, Tryz.ntmps128
     go_wp2_with (go_at_call 124; refine (HG.out).mono ?_; rintro e w' ⟨rfl, rfl⟩; unfold getRes)
     go_ret3
     rw [HF.out, if_pos (by omega), HT.out]
     exact ⟨rfl, rfl⟩
    ·go_enter Tryz.func128, Tryz.ntmps128
     go_wp2_with (go_at_call 124; refine (HG.out).mono ?_; rintro e w' ⟨rfl, rfl⟩; unfold getRes)
     go_ret3
     rw [HF.out, if_pos (by omega), HT.out]
     exact ⟨rfl, rfl⟩
   ·have h2' : (n : Int) - k < x := by omega
    go_enter Tryz.func128, Tryz.ntmps128
    go_wp2_with (go_at_call 124; refine (HG.out).mono ?_; rintro e w' ⟨rfl, rfl⟩; unfold getRes)
    go_ret3
    rw [HF.out, if_neg (by omega)]
    exact ⟨rfl, rfl⟩
  ·go_enter Tryz.func128, Tryz.ntmps128
   go_wp2_with (go_at_call 124; refine (HG.out).mono ?_; rintro e w' ⟨rfl, rfl⟩; unfold getRes)
   go_ret3
   rw [HF.out, if_neg (by omega)]
   exact ⟨rfl, rfl⟩
end Go.Proofs.YteebeiaokfenmaaGreat

namespace Go.Proofs.YteebeiaokfenmaaGreat
open Go.RowKit
set_option linter.unusedVariables false
set_option maxRecDepth 100000
def okAll (zs : List Int) : Prop := ∀ z ∈ zs, 0 ≤ z ∧ z ≤ 1099511627776
def nats (zs : List Int) : List Nat := zs.map Int.toNat
theorem nats_length (zs : List Int) : (nats zs).length = zs.length := by simp [nats]
theorem nats_take (zs : List Int) (k : Nat) (h : k < zs.length) : nats (zs.take (k + 1)) = nats (zs.take k) ++ [zs[k].toNat] := by
 unfold nats
 rw [List.take_succ_eq_append_getElem h, List.map_append]; rfl
theorem okAll_take (zs : List Int) (k : Nat) (h : k < zs.length) (h1 : okAll (zs.take k)) (h2 : 0 ≤ zs[k] ∧ zs[k] ≤ 1099511627776) : okAll (zs.take (k + 1)) := by
 intro z hz
 rw [List.take_succ_eq_append_getElem h, List.mem_append] at hz
 rcases hz with hz | hz
 ·exact h1 z hz
 ·simp at hz; subst hz; exact h2
def IntsPost (w : World) (zs : List Int) (e : Ending) (w' : World) : Prop :=
 Below w.heap.size w w' ∧ ((okAll zs ∧ ∃ v, e = .returned (.tuple #[v, .int .i64 0]) ∧ w'.ownsRow w.heap.size 5 1 v (NM.ints (nats zs)).length (bc (NM.ints (nats zs)))) ∨
  (¬ okAll zs ∧ e = .returned (.tuple #[.slice none 0 0, .int .i64 2])))
def IntsRel (w : World) (zs : List Int) (k : Nat) (u : Value) (wr : World) : Prop :=
 okAll (zs.take k) ∧ wr.ownsRow w.heap.size 5 1 u (NM.enc zs.length ++ NM.body (nats (zs.take k))).length (bc (NM.enc zs.length ++ NM.body (nats (zs.take k)))) ∧ Below w.heap.size w wr
theorem intsRel_next {w wr w2 : World} {zs : List Int} {k x : Nat} {u v : Value} (hk : k < zs.length) (h : IntsRel w zs k u wr) (hx : zs[k] = (x : Int)) (hx2 : x ≤ 1099511627776)
  (ho : w2.ownsRow w.heap.size 5 1 v ((NM.enc zs.length ++ NM.body (nats (zs.take k))).length + (NM.enc x).length) (bc (NM.enc zs.length ++ NM.body (nats (zs.take k))) ++ bc (NM.enc x)))
  (hg : wr.grownBy w2 u.ownBlock) : IntsRel w zs (k + 1) v w2 := by
 obtain ⟨h1, h2, h3⟩ := h
 refine ⟨okAll_take zs k hk h1 (by rw [hx]; omega), ?_, ?_⟩
 ·rw [nats_take zs k hk, NM.body_snoc, hx, Int.toNat_natCast, ← List.append_assoc, bc_append (NM.enc zs.length ++ _), List.length_append (bs := NM.enc x)]
  exact ho
 ·refine h3.grown hg h3.size fun g hgu => ?_
  rcases h2.2 with ⟨rfl, _⟩ | ⟨g', cap, cur, rfl, hb, _⟩
  ·simp [Value.ownBlock] at hgu
  ·simp [Value.ownBlock] at hgu; omega
set_option maxHeartbeats 1000000 in
theorem ints_any (A : Option Addr) (n c : Nat) (zs : List Int) (w : World) (hr : Rd w A n (ic zs)) (hn : n ≤ 4096) :
  Calls Tryz.prog 70 #[.slice A n c] w (IntsPost w zs) := by
 have hl : zs.length = n := by have := hr.1; rwa [ic_length] at this
 have HL := h! hl
 go_enter Tryz.func70, Tryz.ntmps70
 go_wp2_with (go_at_call 94; refine (appendNumber_any w.heap.size _ 0 [] n _ (by omega) (by omega) (World.ownsRow_nil _ _ _ _) n!).mono ?_; rintro e w1 ⟨v1, rfl, hown, hg, hob⟩)
 have hstart : IntsRel w zs 0 v1 w1 := ⟨by intro z hz; simp at hz, by simpa [nats, NM.body, hl] using hown, below_of_grown hg (by simp [Value.ownBlock])⟩
 clear hown hg hob hl
 go_loopw [4, 15] (fun u i wr => ∃ k : Nat, k ≤ n ∧ i = .int .i64 k ∧ IntsRel w zs k u wr) (fun _ i _ => n - (intOf i).toNat)
 case atStart => exact ⟨0, by omega, rfl, hstart⟩
 case round =>
  clear hstart
  obtain ⟨k, hk, rfl, hrel⟩ := hrel
  by_cases hlt : k < n
  ·have hkl : k < zs.length := by have := HL.out; omega
   obtain ⟨ad, u, rfl, _, hu, hcell⟩ := (hr.below hrel.2.2).at_ hlt
   rw [ic_get zs k hkl] at hu
   injection hu with hu
   subst hu
   obtain ⟨z, hz⟩ : ∃ z, z = zs[k] := ⟨_, rfl⟩
   rw [← hz] at hcell
   have HZ := h! hz; clear hz
   by_cases hin : 0 ≤ z ∧ z ≤ 1099511627776
   ·obtain ⟨x, rfl⟩ := Int.eq_ofNat_of_zero_le hin.1
    have hx2 : x ≤ 1099511627776 := by omega
    have hle := NM.body_le (nats (zs.take k))
    rw [nats_length, List.length_take] at hle
    have hen := NM.enc_le zs.length
    have hlen : (NM.enc zs.length ++ NM.body (nats (zs.take k))).length ≤ 1000000 := by rw [List.length_append]; omega
    have HR := h! hrel; clear hrel
    clear hle hen
    have HI := h! hlen; clear hlen
    go_wp2_with (first
     | (go_at_call 93; refine (may_any _ _ hin).mono ?_; rintro e w' ⟨rfl, rfl⟩)
     | (go_at_call 94; refine (appendNumber_any w.heap.size _ _ _ x _ hx2 HI.out HR.out.2.1 HR.out.2.2.size).mono ?_; rintro e w1 ⟨v1, rfl, hown, hg, hob⟩))
    have hnext := intsRel_next hkl HR.out HZ.out.symm hx2 hown hg
    clear hown hg hob
    go_roundw
    case rel => exact ⟨k + 1, by omega, by go_num, hnext⟩
    case measure => simp [intOf]; omega
   ·have hb := hrel.2.2
    have HR := h! hrel; clear hrel
    go_wp2_with (go_at_call 93; refine (may_not _ _ hin).mono ?_; rintro e w' ⟨rfl, rfl⟩)
    go_ret2
    exact ⟨hb, .inr ⟨fun h => hin (by have := h zs[k] (List.getElem_mem hkl); rw [HZ.out]; exact this), rfl⟩⟩
  ·obtain ⟨h1, h2, h3⟩ := hrel
   rw [List.take_of_length_le (by have := HL.out; omega)] at h1 h2
   go_wp2
   go_ret2
   refine ⟨h3, .inl ⟨h1, _, rfl, ?_⟩⟩
   unfold NM.ints
   rw [nats_length]
   exact h2
end Go.Proofs.YteebeiaokfenmaaGreat

namespace Go.Proofs.YteebeiaokfenmaaGreat
open Go.RowKit
set_option linter.unusedVariables false
set_option maxRecDepth 100000
def intsOf (xs : List Nat) : List Int := xs.map Int.ofNat
theorem intsOf_snoc (xs : List Nat) (x : Nat) : intsOf (xs ++ [x]) = intsOf xs ++ [(x : Int)] := by simp [intsOf]
def GetIntsPost (w : World) (o : Option (List Nat × Nat)) (e : Ending) (w' : World) : Prop :=
 Below w.heap.size w w' ∧ ((o = none ∧ e = .returned (.tuple #[.slice none 0 0, .int .i64 0, .int .i64 8])) ∨
  ∃ xs k v, o = some (xs, k) ∧ e = .returned (.tuple #[v, .int .i64 (k : Int), .int .i64 0]) ∧ w'.ownsRow w.heap.size 3 1 v xs.length (ic (intsOf xs)))
def GetIntsAt (w : World) (l : List UInt8) (o : Option (List Nat × Nat)) (m n i at_ : Nat) (u : Value) (wr : World) (pre : List Nat) : Prop :=
 pre.length = i ∧ i ≤ m ∧ at_ ≤ n ∧ NM.liftB pre at_ (NM.getBody (m - i) (l.drop at_)) = o ∧ wr.ownsRow w.heap.size 3 1 u i (ic (intsOf pre)) ∧ Below w.heap.size w wr
def GetIntsRel (w : World) (l : List UInt8) (o : Option (List Nat × Nat)) (m n i at_ : Nat) (u : Value) (wr : World) : Prop :=
 ∃ pre : List Nat, GetIntsAt w l o m n i at_ u wr pre
theorem getIntsRel_next {w wr w2 : World} {l : List UInt8} {o : Option (List Nat × Nat)} {m n i j x k : Nat} {u v : Value} {b : Value} {pre : List Nat} (h : GetIntsAt w l o m n i j u wr pre) (hl : l.length = n) (hi : i < m) (hd : NM.dec (l.drop j) = some (x, k))
  (ho : w2.ownsRow w.heap.size 3 1 v (i + 1) (ic (intsOf pre) ++ [.int .i64 (x : Int)]))
  (hg : (wr.alloc (.cells #[b] 3)).grownBy w2 u.ownBlock) : GetIntsRel w l o m n (i + 1) (j + k) v w2 := by
 obtain ⟨h1, h2, h3, h4, h5, h6⟩ := h
 have hb := NM.dec_bound _ x k hd
 rw [List.length_drop] at hb
 refine ⟨pre ++ [x], by simp [h1], by omega, by omega, ?_, ?_, ?_⟩
 ·rw [← h4, show m - i = (m - (i + 1)) + 1 by omega, NM.liftB_some pre j _ _ x k hd, List.drop_drop]
 ·rw [intsOf_snoc, ic_append]; exact ho
 ·refine (h6.alloc h6.size _).grown hg (by have := h6.size; simp; omega) fun g hgu => ?_
  rcases h5.2 with ⟨rfl, _⟩ | ⟨g', cap, cur, rfl, hb, _⟩
  ·simp [Value.ownBlock] at hgu
  ·simp [Value.ownBlock] at hgu; omega
set_option maxHeartbeats 2000000 in
theorem getInts_any (A : Option Addr) (n c most : Nat) (l : List UInt8) (w : World) (hr : Rd w A n (bc l)) (hnc : n ≤ c) (hm : c ≤ maxLen) (hmost : most ≤ 4096) :
  Calls Tryz.prog 126 #[.slice A n c, .int .i64 most] w (GetIntsPost w (NM.getInts l most)) := by
 obtain ⟨i0, hi, hz0, hz1, hz2⟩ := info_parts info_int
 have hg := get_any A n c l w hr (Nat.le_trans hnc hm)
 have hm2 : c ≤ 9223372036854775807 := by unfold maxLen at hm; omega
 have hl : l.length = n := by have := hr.1; rwa [bc_length] at this
 have HL := h! hl; clear hl
 have HM := h! hm; clear hm
 rcases hd : NM.dec l with _ | ⟨x, k⟩
 ·rw [hd] at hg
  have hfin : NM.getInts l most = none := by unfold NM.getInts; rw [hd]
  have HF := h! hfin; clear hfin hd
  have HG := h! hg; clear hg
  go_enter Tryz.func126, Tryz.ntmps126
  go_wp2_with (go_at_call 124; refine (HG.out).mono ?_; rintro e w' ⟨rfl, rfl⟩; unfold getRes)
  go_ret3
  exact ⟨Below.refl _ _, .inl ⟨HF.out, rfl⟩⟩
 ·have hb := NM.dec_bound l x k hd
  rw [hd] at hg
  obtain ⟨hx, hk1, hkl, hk6, hdrop⟩ := hb
  clear hdrop
  rw [HL.out] at hkl
  have HG := h! hg; clear hg
  by_cases h1 : x ≤ most
  ·have hfin := NM.getInts_of l most x k hd h1
   obtain ⟨o, ho⟩ : ∃ o, o = NM.getInts l most := ⟨_, rfl⟩
   have hstart : GetIntsRel w l o x n 0 k (.slice none 0 0) w := ⟨[], rfl, by omega, hkl, by rw [ho, hfin]; rfl, World.ownsRow_nil _ _ _ _, Below.refl _ _⟩
   rw [← ho]
   clear hfin hd ho
   have HS := h! hstart; clear hstart
   have t1 : decide ((4096 : Int) < (most : Int)) = false := by simp; omega
   have t2 : decide ((most : Int) < (x : Int)) = false := by simp; omega
   have t3 : decide (most < x) = false := by simp; omega
   go_enter Tryz.func126, Tryz.ntmps126
   go_wp2_with (go_at_call 124; refine (HG.out).mono ?_; rintro e w' ⟨rfl, rfl⟩; unfold getRes)
   go_loopw [4, 5, 31] (fun u s t wr => ∃ i j : Nat, i ≤ x ∧ j ≤ n ∧ s = .int .i64 j ∧ t = .int .i64 i ∧ GetIntsRel w l o x n i j u wr) (fun _ _ t _ => x - (intOf t).toNat)
   case atStart => exact ⟨0, k, by omega, hkl, rfl, rfl, HS.out⟩
   case round =>
    clear HS HG
    obtain ⟨i, j, hix, hjn, rfl, rfl, hrel⟩ := hrel
    have hbel : Below w.heap.size w wr := by obtain ⟨pre, _, _, _, _, _, h⟩ := hrel; exact h
    have hr2 := hr.below hbel
    by_cases hlt : i < x
    ·have hjl : ∃ ys, ys = l.drop j := ⟨_, rfl⟩
     obtain ⟨ys, hys⟩ := hjl
     rcases hd2 : NM.dec (l.drop j) with _ | ⟨y, q⟩
     ·have hfin : o = none := by
       obtain ⟨pre, h1, h2, h3, h4, h5, h6⟩ := hrel
       rw [← h4, show x - i = (x - (i + 1)) + 1 by omega, NM.liftB_none _ _ _ _ hd2]
      have HF := h! hfin; clear hfin hrel
      have HB := h! hbel; clear hbel
      by_cases hcj : c = j
      ·have hg2 : Calls Tryz.prog 124 #[.slice A 0 0] wr fun e w' => e = .returned (getRes none) ∧ wr = w' := by
        have := get_any A 0 0 [] wr Rd.nil (by omega)
        exact this
       subst hcj
       obtain rfl : n = c := by omega
       have HG2 := h! hg2; clear hg2 hr2 hd2 hys
       have HR := h! hr; clear hr
       go_wp2_with (go_at_call 124; refine (HG2.out).mono ?_; rintro e w' ⟨rfl, rfl⟩; unfold getRes)
       go_ret3
       exact ⟨HB.out, .inl ⟨HF.out, rfl⟩⟩
      ·have hg2 := get_any (A.map (fun x => x.add j)) (n - j) (c - j) (l.drop j) wr (by rw [← bc_drop]; exact hr2.cutm hjn) (by have := HM.out; omega)
       rw [hd2] at hg2
       have HG2 := h! hg2; clear hg2 hr2 hd2 hys
       have HR := h! hr; clear hr
       go_wp2_with (go_at_call 124; refine (HG2.out).mono ?_; rintro e w' ⟨rfl, rfl⟩; unfold getRes)
       go_ret3
       exact ⟨HB.out, .inl ⟨HF.out, rfl⟩⟩
     ·have hbd := NM.dec_bound _ y q hd2
      rw [List.length_drop, HL.out] at hbd
      obtain ⟨hy, hq1, hqn, hq6, hqd⟩ := hbd
      clear hqd hys
      have hcj : c ≠ j := by omega
      have hg2 := get_any (A.map (fun x => x.add j)) (n - j) (c - j) (l.drop j) wr (by rw [← bc_drop]; exact hr2.cutm hjn) (by have := HM.out; omega)
      rw [hd2] at hg2
      obtain ⟨pre, hrel⟩ := hrel
      have hown0 : wr.ownsRow w.heap.size 3 1 u4 i (ic (intsOf pre)) := hrel.2.2.2.2.1
      have hbs := hbel.size
      have HG2 := h! hg2; clear hg2 hr2
      have HR := h! hr; clear hr
      have HD := h! hd2; clear hd2
      have HRel := h! hrel; clear hrel
      go_wp2_with (first
       | (go_at_call 124; refine (HG2.out).mono ?_; rintro e w' ⟨rfl, rfl⟩; unfold getRes)
       | (at_builtin; refine wpList_append_rd _ rfl _ _ 31 rfl w.heap.size 3 i0 (.int .i64 0) 8 Tryz.underlying31 hi hz0 hz1 hz2 rfl _ _ _ rfl (hown0.alloc _) (some ⟨wr.heap.size, 0, none⟩) 1 1 [.int .i64 (y : Int)] rfl (rd_new _ _ _) (by intro u hu; simp at hu; subst hu; rfl) (by unfold maxLen; omega) (by omega) (by simp; omega) ?_; intro v2 w2 hown2 hg2 hob2))
      have hnext := getIntsRel_next HRel.out HL.out hlt HD.out hown2 hg2
      clear hown2 hg2 hob2
      go_roundw
      case rel => exact ⟨i + 1, j + q, by omega, by omega, by go_num, by go_num, hnext⟩
      case measure => simp [intOf]; omega
    ·obtain ⟨pre, g1, g2, g3, h4, h5, h6⟩ := hrel
     obtain rfl : i = x := by omega
     rw [Nat.sub_self, NM.liftB_end] at h4
     have HF := h! h4; clear h4
     have H1 := h! g1; clear g1
     go_wp2
     go_ret3
     refine ⟨h6, .inr ⟨pre, j, _, HF.out.symm, rfl, ?_⟩⟩
     rw [H1.out]
     exact h5
  ·have hfin : NM.getInts l most = none := by unfold NM.getInts; rw [hd]; simp only [if_neg h1]
   have HF := h! hfin; clear hfin hd
   go_enter Tryz.func126, Tryz.ntmps126
   go_wp2_with (go_at_call 124; refine (HG.out).mono ?_; rintro e w' ⟨rfl, rfl⟩; unfold getRes)
   go_ret3
   exact ⟨Below.refl _ _, .inl ⟨HF.out, rfl⟩⟩
end Go.Proofs.YteebeiaokfenmaaGreat

namespace Go.Proofs.YteebeiaokfenmaaGreat.KP
open Go.RowKit CP TP
open CM (Mg Cm)
open TM (Sp)
open KM (Wt Sk)
set_option linter.unusedVariables false
set_option linter.unusedSimpArgs false
set_option maxRecDepth 100000
theorem sps_new {w : World} {b : Nat} {v : Value} {l : List Sp} (h : w.ownsRow b 46 2 v l.length (flat spc l)) : ∃ A c, v = .slice A l.length c ∧ SpsIs w A l.length c l := by
 obtain ⟨A, c, rfl, h1, h2⟩ := own_form h
 exact ⟨A, c, rfl, ⟨rdg_own h, rfl, h1, h2⟩⟩
structure CoR (w : World) (x y : List Sp) (k : Nat) (v : Value) (wr : World) : Prop where
 bl : Below w.heap.size w wr
 ow : wr.ownsRow w.heap.size 46 2 v (OM.com (x.take k) y).length (flat spc (OM.com (x.take k) y))
theorem CoR.below {w wr w' : World} {x y : List Sp} {k : Nat} {v : Value} (h : CoR w x y k v wr) (hb : Below wr.heap.size wr w') : CoR w x y k v w' := ⟨bmore h.bl hb n!, own_below3 h.ow hb⟩
theorem com_more {x y : List Sp} {k : Nat} {a : Sp} (h : x[k]? = some a) : OM.com (x.take (k + 1)) y = OM.com (x.take k) y ++ (if (y.any fun z => z.i == a.i) then [a] else []) := by
 unfold OM.com
 exact filter_take h
theorem any_more {y : List Sp} {j : Nat} {b : Sp} {p : Sp → Bool} (h : y[j]? = some b) : (y.take (j + 1)).any p = ((y.take j).any p || p b) := by
 rw [List.take_add_one, h, List.any_append]
 simp
end Go.Proofs.YteebeiaokfenmaaGreat.KP

namespace Go.Proofs.YteebeiaokfenmaaGreat
open Go.RowKit
set_option linter.unusedVariables false
set_option maxRecDepth 100000
def NumPost (y : Int) (w : World) (e : Ending) (w' : World) : Prop := e = .returned (.int .i64 y) ∧ ∃ q, w' = w.drewN q
theorem rqCheck_any (A : Option Addr) (n c : Nat) (zs : List Int) (y : Int) (w : World) (hr : Rd w A n (ic zs)) (hm : n ≤ 9223372036854775807) (hy : QM.ChkIs zs y) :
  Calls Tryz.prog 145 #[.slice A n c] w (NumPost y w) := by
 have hl : zs.length = n := by have := hr.1; rwa [ic_length] at this
 have h := rMay_any A n c zs w hr hm
 rcases hy with ⟨h6, rfl⟩ | ⟨h6, hf, rfl⟩ | ⟨ht, rfl⟩
 ·rw [hl] at h6
  clear h hl
  go_enter Tryz.func145, Tryz.ntmps145
  go_wp2
  go_ret
  exact ⟨rfl, 0, rfl⟩
 ·rw [hl] at h6
  rw [hf] at h
  have H := h! h
  clear h hl hf
  go_enter Tryz.func145, Tryz.ntmps145
  go_wp2_with fail
  refine H.out.mono ?_
  rintro e w1 ⟨rfl, q, rfl⟩
  go_wp2
  go_ret
  exact ⟨rfl, q, rfl⟩
 ·obtain ⟨_, h2, _⟩ := QM.may_len ht
  rw [hl] at h2
  rw [ht] at h
  have H := h! h
  clear h hl ht
  go_enter Tryz.func145, Tryz.ntmps145
  go_wp2_with fail
  refine H.out.mono ?_
  rintro e w1 ⟨rfl, q, rfl⟩
  go_wp2
  go_ret
  exact ⟨rfl, q, rfl⟩
end Go.Proofs.YteebeiaokfenmaaGreat
