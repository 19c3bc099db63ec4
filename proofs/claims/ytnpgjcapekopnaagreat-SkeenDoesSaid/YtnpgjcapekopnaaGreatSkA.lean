/-
  The document's own waits, done, Stamp, least of a clock (towncrierref15). Conditions: a clock that reads as one.
-/
import Derived.Test.YtnpgjcapekopnaaGreatProg
import Derived.Test.YtnpgjcapekopnaaGreatSkDef
import Derived.Test.YtnpgjcapekopnaaGreatSpRa
import Derived.Test.YtnpgjcapekopnaaGreatCmSame
import Derived.Deep.QuietTactic
import Derived.BigQuiet
import Derived.Deep.RegionHeld3
import Derived.Deep.DeepCutAuto
namespace Go.Proofs.YtnpgjcapekopnaaGreat.KP
open Go.RowKit CP TP
open CM (Mg Cm)
open TM (Sp)
open KM (Wt Sk)
set_option linter.unusedVariables false
set_option linter.unusedSimpArgs false
set_option maxRecDepth 100000

/-- where an id waits, as the document tells it -/
def watI (l : List Wt) (id : Int) : Int := if KM.wat l id < l.length then (KM.wat l id : Int) else -1
theorem watI_at {l : List Wt} {id : Int} {k : Nat} {x : Wt} (hk : l[k]? = some x) (hx : x.m.id = id) (hno : ∀ j y, j < k → l[j]? = some y → y.m.id ≠ id) : watI l id = (k : Int) := by
  have h := KM.wat_eq hk hx hno
  unfold watI
  rw [h, if_pos (List.getElem?_eq_some_iff.1 hk).1]
theorem watI_no {l : List Wt} {id : Int} {k : Nat} (hl : l.length ≤ k) (hno : ∀ j y, j < k → l[j]? = some y → y.m.id ≠ id) : watI l id = -1 := by
  have h : KM.wat l id = l.length := KM.wat_no.2 fun w hw => by
    obtain ⟨j, hj⟩ := List.getElem?_of_mem hw
    exact hno j w (by have := (List.getElem?_eq_some_iff.1 hj).1; omega) hj
  unfold watI
  rw [h, if_neg (Nat.lt_irrefl _)]
set_option maxHeartbeats 4000000 in
theorem rwaits_any (v : Value) (s : Sk) (id : Int) (w : World) (h : SkIs w v s) : Calls Tryz.prog 27 #[v, .int .i64 id] w (IsN (watI s.ws id) w) := by
  obtain ⟨A, c, B, d, rfl, h1, h2⟩ := h
  obtain ⟨n, hn⟩ : ∃ n, n = s.ws.length := ⟨_, rfl⟩
  obtain ⟨r, hr⟩ : ∃ r, r = watI s.ws id := ⟨_, rfl⟩
  rw [← hr]
  rw [← hn] at h1 ⊢
  have HR := Lib.hid hr
  have HL := Lib.hid hn
  have hn63 := h1.small
  have H := Lib.hid (fun W (hb : Below w.heap.size w W) => h1.below hb)
  have HB := Lib.hid (show Below w.heap.size w (w.alloc (.cells #[.int .i64 s.c, .slice A n c, .slice B s.ds.length d] 25)) from (Below.refl _ _).alloc (Nat.le_refl _) _)
  have X := Lib.hid (Box.new w 25 #[.int .i64 s.c, .slice A n c, .slice B s.ds.length d])
  clear h1 h2 hr hn
  unfold vsk
  obtain ⟨sc, ws, ds⟩ := s
  simp only at *
  go_enter Tryz.func27, Tryz.ntmps27
  go_upto_region 1 with (fail)
  generalize w.alloc (.cells #[.int .i64 sc, .slice A n c, .slice B ds.length d] 25) = w1 at HB X ⊢
  generalize hg : w.heap.size = g at X ⊢
  clear hg
  go_wp2_with fail
  go_loopw [5] (fun i wr => ∃ k : Nat, k ≤ n ∧ i = .int .i64 k ∧ Below w1.heap.size w1 wr ∧ Hid (∀ j y, j < k → ws[j]? = some y → y.m.id ≠ id)) (fun i _ => n - (intOf i).toNat)
  case atStart => exact ⟨0, by omega, rfl, Below.refl _ _, Lib.hid fun j y hj => absurd hj (by omega)⟩
  case round =>
    obtain ⟨k, hk, rfl, hB, HN⟩ := hrel
    have HB2 := Lib.hid hB
    obtain ⟨x0, x1, x2⟩ := box_sk (X.out.below hB X.out.lt)
    clear hB
    by_cases hlt : k < n
    · obtain ⟨a, ha⟩ : ∃ a, ws[k]? = some a := ⟨_, List.getElem?_eq_getElem (by have := HL.out; omega)⟩
      have HA := Lib.hid ha
      obtain ⟨bl, o, P, q, rfl, _, _, hat, _⟩ := wts_at (H.out _ (bmore HB.out HB2.out (Nat.le_refl _))) ha
      obtain ⟨a0, a1, a2, a3, a4, a5, a6⟩ := hat
      clear ha
      have hk0 : (0 : Int) ≤ (k : Int) := by omega
      have hkn : (k : Int) < (n : Int) := by omega
      by_cases he : a.m.id = id
      · have HF := Lib.hid (show r = (k : Int) by rw [HR.out]; exact watI_at HA.out he HN.out)
        have hb : (a.m.id == id) = true := by simpa using he
        clear he
        go_wp2_with fail
        go_ret
        exact ⟨by rw [HF.out]; rfl, bmore HB.out HB2.out (Nat.le_refl _)⟩
      · have HF := Lib.hid (show ∀ j y, j < k + 1 → ws[j]? = some y → y.m.id ≠ id from fun j y hj hy => by
          rcases (show j < k ∨ j = k by omega) with h | rfl
          · exact HN.out j y h hy
          · rw [HA.out] at hy; injection hy with hy; subst hy; exact he)
        have hb : (a.m.id == id) = false := by simpa using he
        clear he
        go_wp2_with fail
        go_roundw
        case rel => exact ⟨k + 1, by omega, by go_num, HB2.out, HF⟩
        case measure => simp [intOf]; omega
    · have HF := Lib.hid (show r = -1 by rw [HR.out]; exact watI_no (k := k) (by have := HL.out; omega) HN.out)
      go_wp2_with fail
      go_ret
      exact ⟨by rw [HF.out]; rfl, bmore HB.out HB2.out (Nat.le_refl _)⟩
set_option maxHeartbeats 4000000 in
theorem rdone_any (v : Value) (s : Sk) (id : Int) (w : World) (h : SkIs w v s) : Calls Tryz.prog 41 #[v, .int .i64 id] w (IsB (KM.doneF s.ds id) w) := by
  obtain ⟨A, c, B, d, rfl, h1, h2⟩ := h
  obtain ⟨n, hn⟩ : ∃ n, n = s.ds.length := ⟨_, rfl⟩
  obtain ⟨r, hr⟩ : ∃ r, r = KM.doneF s.ds id := ⟨_, rfl⟩
  rw [← hr]
  rw [← hn] at h2 ⊢
  have HR := Lib.hid hr
  have HL := Lib.hid hn
  have hn63 := h2.small
  have H := Lib.hid (fun W (hb : Below w.heap.size w W) => h2.below hb)
  have HB := Lib.hid (show Below w.heap.size w (w.alloc (.cells #[.int .i64 s.c, .slice A s.ws.length c, .slice B n d] 25)) from (Below.refl _ _).alloc (Nat.le_refl _) _)
  have X := Lib.hid (Box.new w 25 #[.int .i64 s.c, .slice A s.ws.length c, .slice B n d])
  clear h1 h2 hr hn
  unfold vsk
  obtain ⟨sc, ws, ds⟩ := s
  simp only at *
  go_enter Tryz.func41, Tryz.ntmps41
  go_upto_region 1 with (fail)
  generalize w.alloc (.cells #[.int .i64 sc, .slice A ws.length c, .slice B n d] 25) = w1 at HB X ⊢
  generalize hg : w.heap.size = g at X ⊢
  clear hg
  go_wp2_with fail
  go_loopw [5] (fun i wr => ∃ k : Nat, k ≤ n ∧ i = .int .i64 k ∧ Below w1.heap.size w1 wr ∧ Hid (∀ j y, j < k → ds[j]? = some y → y.i ≠ id)) (fun i _ => n - (intOf i).toNat)
  case atStart => exact ⟨0, by omega, rfl, Below.refl _ _, Lib.hid fun j y hj => absurd hj (by omega)⟩
  case round =>
    obtain ⟨k, hk, rfl, hB, HN⟩ := hrel
    have HB2 := Lib.hid hB
    obtain ⟨x0, x1, x2⟩ := box_sk (X.out.below hB X.out.lt)
    clear hB
    by_cases hlt : k < n
    · obtain ⟨a, ha⟩ : ∃ a, ds[k]? = some a := ⟨_, List.getElem?_eq_getElem (by have := HL.out; omega)⟩
      have HA := Lib.hid ha
      obtain ⟨bl, o, rfl, _, _, a0, a1⟩ := (H.out _ (bmore HB.out HB2.out (Nat.le_refl _))).at_ ha
      clear ha
      have hk0 : (0 : Int) ≤ (k : Int) := by omega
      have hkn : (k : Int) < (n : Int) := by omega
      by_cases he : a.i = id
      · have HF := Lib.hid (show r = true by
          rw [HR.out]
          rcases hd : KM.doneF ds id with _ | _
          · exact absurd he (KM.doneF_no.1 hd a (List.mem_of_getElem? HA.out))
          · rfl)
        have hb : (a.i == id) = true := by simpa using he
        clear he
        go_wp2_with fail
        go_ret
        exact ⟨by rw [HF.out]; rfl, bmore HB.out HB2.out (Nat.le_refl _)⟩
      · have HF := Lib.hid (show ∀ j y, j < k + 1 → ds[j]? = some y → y.i ≠ id from fun j y hj hy => by
          rcases (show j < k ∨ j = k by omega) with h | rfl
          · exact HN.out j y h hy
          · rw [HA.out] at hy; injection hy with hy; subst hy; exact he)
        have hb : (a.i == id) = false := by simpa using he
        clear he
        go_wp2_with fail
        go_roundw
        case rel => exact ⟨k + 1, by omega, by go_num, HB2.out, HF⟩
        case measure => simp [intOf]; omega
    · have HF := Lib.hid (show r = false by
        rw [HR.out]
        refine KM.doneF_no.2 fun x hx => ?_
        obtain ⟨j, hj⟩ := List.getElem?_of_mem hx
        exact HN.out j x (by have := (List.getElem?_eq_some_iff.1 hj).1; have := HL.out; omega) hj)
      go_wp2_with fail
      go_ret
      exact ⟨by rw [HF.out]; rfl, bmore HB.out HB2.out (Nat.le_refl _)⟩
set_option maxHeartbeats 1000000 in
theorem rstamp_any (A : Option Addr) (c : Nat) (x : Wt) (w : World) : Calls Tryz.prog 42 #[vwt A c x] w (IsSp (KM.stp x) w) := by
  have HB := Lib.hid (show Below w.heap.size w ((w.alloc (.cells #[.int .i64 x.m.id, .slice A x.m.gs.length c, .int .i64 x.m.tp, .string x.m.key, .string x.m.body, .int .i64 x.t, .bool x.f] 52)).alloc (.cells #[.int .i64 0, .int .i64 0] 70)) from ((Below.refl _ _).alloc (Nat.le_refl _) _).alloc (by simp) _)
  have X := Lib.hid ((Box.new w 52 #[.int .i64 x.m.id, .slice A x.m.gs.length c, .int .i64 x.m.tp, .string x.m.key, .string x.m.body, .int .i64 x.t, .bool x.f]).alloc (.cells #[.int .i64 0, .int .i64 0] 70))
  have Y := Lib.hid (Box.new_at (w := w.alloc (.cells #[.int .i64 x.m.id, .slice A x.m.gs.length c, .int .i64 x.m.tp, .string x.m.key, .string x.m.body, .int .i64 x.t, .bool x.f] 52)) (t := 70) (cs := #[.int .i64 0, .int .i64 0]) (w.heap.size + 1) (by simp))
  obtain ⟨⟨mi, mg, mt, mk, mb⟩, t, f⟩ := x
  unfold vwt
  simp only at HB X Y ⊢
  go_enter Tryz.func42, Tryz.ntmps42
  go_upto_region 1 with (fail)
  generalize (w.alloc (.cells #[.int .i64 mi, .slice A mg.length c, .int .i64 mt, .string mk, .string mb, .int .i64 t, .bool f] 52)).alloc (.cells #[.int .i64 0, .int .i64 0] 70) = w1 at HB X Y ⊢
  obtain ⟨g0, hg0⟩ : ∃ g0, w.heap.size = g0 := ⟨_, rfl⟩
  rw [hg0] at X Y
  simp only [hg0]
  have HG := Lib.hid hg0
  clear hg0
  obtain ⟨x0, x1, x2, x3, x4, x5, x6⟩ := box_wt X.out
  have y0 := Y.out.cell 0
  have y1 := Y.out.cell 1
  have f0 := Y.out.frozen 0
  have f1 := Y.out.frozen 1
  simp at y0 y1
  have Z := Lib.hid (Y.out.put (.int .i64 t) (.int .i64 mi))
  go_wp2_with fail
  obtain ⟨z0, z1⟩ := box_two Z.out
  exact bodyPost_ret (v := .agg #[.int .i64 t, .int .i64 mi]) (by simp [results, Tryz.results42, go_sem, z0, z1]; try rfl) rfl ⟨rfl, below_put HB.out (by have := HG.out; omega) _ _⟩
end Go.Proofs.YtnpgjcapekopnaaGreat.KP
