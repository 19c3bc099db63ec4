/-
  What the document's own Less of stamps answers (towncrierref14). Conditions: as each theorem says.
  The document's own waits, done, Stamp, least of a clock (towncrierref15). Conditions: a clock that reads as one.
  The document's own SameStamps and SameMessages of any two lists (towncrierref15). Conditions: slices that read as such.
-/
import Derived.Test.YteebeiaokfenmaaGreatK01
import Derived.Deep.QuietTactic
import Derived.BigQuiet
import Derived.Deep.RegionHeld3
import Derived.Deep.DeepCutAuto
import Derived.Lib.MinMax
import Derived.WalkKit
import Derived.Test.YteebeiaokfenmaaGreatProg
import Derived.Test.YteebeiaokfenmaaGreatK53
import Derived.Test.YteebeiaokfenmaaGreatK11
namespace Go.Proofs.YteebeiaokfenmaaGreat.TP
open Go.RowKit
open TM (Sp)
set_option linter.unusedVariables false
set_option linter.unusedSimpArgs false
set_option maxRecDepth 100000

theorem box_two {w : World} {g : Nat} {t : TypeId} {a b : Value} (h : Box w g t #[a, b]) : w.cell? ⟨g, 0, none⟩ = some a ∧ w.cell? ⟨g, 1, none⟩ = some b := ⟨h.cell 0, h.cell 1⟩
set_option maxHeartbeats 2000000 in
theorem rless_any (a b : Sp) (w : World) : Calls Tryz.prog 146 #[vsp a, vsp b] w (IsB (TM.less a b) w) := by
  obtain ⟨at_, ai⟩ := a
  obtain ⟨bt, bi⟩ := b
  unfold vsp
  have HB := Lib.hid (show Below w.heap.size w ((w.alloc (.cells #[.int .i64 at_, .int .i64 ai] 46)).alloc (.cells #[.int .i64 bt, .int .i64 bi] 46)) from
    ((Below.refl _ _).alloc (Nat.le_refl _) _).alloc (by simp) _)
  have X := Lib.hid ((Box.new w 46 #[.int .i64 at_, .int .i64 ai]).alloc (.cells #[.int .i64 bt, .int .i64 bi] 46))
  have Y := Lib.hid (Box.new_at (w := w.alloc (.cells #[.int .i64 at_, .int .i64 ai] 46)) (t := 46) (cs := #[.int .i64 bt, .int .i64 bi]) (w.heap.size + 1) (by simp))
  simp only
  rcases (show at_ < bt ∨ (¬ at_ < bt ∧ at_ = bt ∧ ai < bi) ∨ (¬ at_ < bt ∧ at_ = bt ∧ ¬ ai < bi) ∨ (¬ at_ < bt ∧ at_ ≠ bt) by omega) with h | ⟨h0, h1, h⟩ | ⟨h0, h1, h⟩ | ⟨h0, h⟩
  · rw [show TM.less ⟨at_, ai⟩ ⟨bt, bi⟩ = true from decide_eq_true (.inl h)]
    go_enter Tryz.func146, Tryz.ntmps146
    go_upto_region 1 with (fail)
    generalize (w.alloc (.cells #[.int .i64 at_, .int .i64 ai] 46)).alloc (.cells #[.int .i64 bt, .int .i64 bi] 46) = w1 at HB X Y ⊢
    generalize hg : w.heap.size = g at X Y ⊢
    clear hg
    obtain ⟨x0, x1⟩ := box_two X.out
    obtain ⟨y0, y1⟩ := box_two Y.out
    go_wp2_with fail
    go_ret
    exact ⟨rfl, HB.out⟩
  · rw [show TM.less ⟨at_, ai⟩ ⟨bt, bi⟩ = true from decide_eq_true (.inr ⟨h1, h⟩)]
    have e1 : (at_ == bt) = true := by simpa using h1
    clear h1
    go_enter Tryz.func146, Tryz.ntmps146
    go_upto_region 1 with (fail)
    generalize (w.alloc (.cells #[.int .i64 at_, .int .i64 ai] 46)).alloc (.cells #[.int .i64 bt, .int .i64 bi] 46) = w1 at HB X Y ⊢
    generalize hg : w.heap.size = g at X Y ⊢
    clear hg
    obtain ⟨x0, x1⟩ := box_two X.out
    obtain ⟨y0, y1⟩ := box_two Y.out
    go_wp2_with fail
    go_ret
    exact ⟨rfl, HB.out⟩
  · rw [show TM.less ⟨at_, ai⟩ ⟨bt, bi⟩ = false from decide_eq_false (fun g => by unfold TM.lt at g; simp only at g; omega)]
    have e1 : (at_ == bt) = true := by simpa using h1
    clear h1
    go_enter Tryz.func146, Tryz.ntmps146
    go_upto_region 1 with (fail)
    generalize (w.alloc (.cells #[.int .i64 at_, .int .i64 ai] 46)).alloc (.cells #[.int .i64 bt, .int .i64 bi] 46) = w1 at HB X Y ⊢
    generalize hg : w.heap.size = g at X Y ⊢
    clear hg
    obtain ⟨x0, x1⟩ := box_two X.out
    obtain ⟨y0, y1⟩ := box_two Y.out
    go_wp2_with fail
    go_ret
    exact ⟨rfl, HB.out⟩
  · rw [show TM.less ⟨at_, ai⟩ ⟨bt, bi⟩ = false from decide_eq_false (fun g => by unfold TM.lt at g; simp only at g; omega)]
    have e1 : (at_ == bt) = false := by simpa using h
    clear h
    go_enter Tryz.func146, Tryz.ntmps146
    go_upto_region 1 with (fail)
    generalize (w.alloc (.cells #[.int .i64 at_, .int .i64 ai] 46)).alloc (.cells #[.int .i64 bt, .int .i64 bi] 46) = w1 at HB X Y ⊢
    generalize hg : w.heap.size = g at X Y ⊢
    clear hg
    obtain ⟨x0, x1⟩ := box_two X.out
    obtain ⟨y0, y1⟩ := box_two Y.out
    go_wp2_with fail
    go_ret
    exact ⟨rfl, HB.out⟩
end Go.Proofs.YteebeiaokfenmaaGreat.TP

namespace Go.Proofs.YteebeiaokfenmaaGreat.KP
open Go.RowKit CP TP
open CM (Mg Cm)
open TM (Sp)
open KM (Wt Sk)
set_option linter.unusedVariables false
set_option linter.unusedSimpArgs false
set_option maxRecDepth 100000

/-- where an id waits, as the document tells it -/
def watI (l : List Wt) (id : Int) : Int := if KM.wat l id < l.length then (KM.wat l id : Int) else -1
theorem watI_at {l : List Wt} {id : Int} {k : Nat} {x : Wt} (hk : l[k]? = some x) (hx : x.m.id = id) (hno : ∀ j y, j < k → l[j]? = some y → y.m.id ≠ id) : watI l id = (k : Int) := by
  have h := KM.wat_eq hk hx hno
  unfold watI
  rw [h, if_pos (List.getElem?_eq_some_iff.1 hk).1]
theorem watI_no {l : List Wt} {id : Int} {k : Nat} (hl : l.length ≤ k) (hno : ∀ j y, j < k → l[j]? = some y → y.m.id ≠ id) : watI l id = -1 := by
  have h : KM.wat l id = l.length := KM.wat_no.2 fun w hw => by
    obtain ⟨j, hj⟩ := List.getElem?_of_mem hw
    exact hno j w (by have := (List.getElem?_eq_some_iff.1 hj).1; omega) hj
  unfold watI
  rw [h, if_neg (Nat.lt_irrefl _)]
set_option maxHeartbeats 4000000 in
theorem rwaits_any (v : Value) (s : Sk) (id : Int) (w : World) (h : SkIs w v s) : Calls Tryz.prog 115 #[v, .int .i64 id] w (IsN (watI s.ws id) w) := by
  obtain ⟨A, c, B, d, rfl, h1, h2⟩ := h
  obtain ⟨n, hn⟩ : ∃ n, n = s.ws.length := ⟨_, rfl⟩
  obtain ⟨r, hr⟩ : ∃ r, r = watI s.ws id := ⟨_, rfl⟩
  rw [← hr]
  rw [← hn] at h1 ⊢
  have HR := Lib.hid hr
  have HL := Lib.hid hn
  have hn63 := h1.small
  have H := Lib.hid (fun W (hb : Below w.heap.size w W) => h1.below hb)
  have HB := Lib.hid (show Below w.heap.size w (w.alloc (.cells #[.int .i64 s.c, .slice A n c, .slice B s.ds.length d] 39)) from (Below.refl _ _).alloc (Nat.le_refl _) _)
  have X := Lib.hid (Box.new w 39 #[.int .i64 s.c, .slice A n c, .slice B s.ds.length d])
  clear h1 h2 hr hn
  unfold vsk
  obtain ⟨sc, ws, ds⟩ := s
  simp only at *
  go_enter Tryz.func115, Tryz.ntmps115
  go_upto_region 1 with (fail)
  generalize w.alloc (.cells #[.int .i64 sc, .slice A n c, .slice B ds.length d] 39) = w1 at HB X ⊢
  generalize hg : w.heap.size = g at X ⊢
  clear hg
  go_wp2_with fail
  go_loopw [5] (fun i wr => ∃ k : Nat, k ≤ n ∧ i = .int .i64 k ∧ Below w1.heap.size w1 wr ∧ Hid (∀ j y, j < k → ws[j]? = some y → y.m.id ≠ id)) (fun i _ => n - (intOf i).toNat)
  case atStart => exact ⟨0, by omega, rfl, Below.refl _ _, Lib.hid fun j y hj => absurd hj (by omega)⟩
  case round =>
    obtain ⟨k, hk, rfl, hB, HN⟩ := hrel
    have HB2 := Lib.hid hB
    obtain ⟨x0, x1, x2⟩ := box_sk (X.out.below hB X.out.lt)
    clear hB
    by_cases hlt : k < n
    · obtain ⟨a, ha⟩ : ∃ a, ws[k]? = some a := ⟨_, List.getElem?_eq_getElem (by have := HL.out; omega)⟩
      have HA := Lib.hid ha
      obtain ⟨bl, o, P, q, rfl, _, _, hat, _⟩ := wts_at (H.out _ (bmore HB.out HB2.out (Nat.le_refl _))) ha
      obtain ⟨a0, a1, a2, a3, a4, a5, a6⟩ := hat
      clear ha
      have hk0 : (0 : Int) ≤ (k : Int) := by omega
      have hkn : (k : Int) < (n : Int) := by omega
      by_cases he : a.m.id = id
      · have HF := Lib.hid (show r = (k : Int) by rw [HR.out]; exact watI_at HA.out he HN.out)
        have hb : (a.m.id == id) = true := by simpa using he
        clear he
        go_wp2_with fail
        go_ret
        exact ⟨by rw [HF.out]; rfl, bmore HB.out HB2.out (Nat.le_refl _)⟩
      · have HF := Lib.hid (show ∀ j y, j < k + 1 → ws[j]? = some y → y.m.id ≠ id from fun j y hj hy => by
          rcases (show j < k ∨ j = k by omega) with h | rfl
          · exact HN.out j y h hy
          · rw [HA.out] at hy; injection hy with hy; subst hy; exact he)
        have hb : (a.m.id == id) = false := by simpa using he
        clear he
        go_wp2_with fail
        go_roundw
        case rel => exact ⟨k + 1, by omega, by go_num, HB2.out, HF⟩
        case measure => simp [intOf]; omega
    · have HF := Lib.hid (show r = -1 by rw [HR.out]; exact watI_no (k := k) (by have := HL.out; omega) HN.out)
      go_wp2_with fail
      go_ret
      exact ⟨by rw [HF.out]; rfl, bmore HB.out HB2.out (Nat.le_refl _)⟩
set_option maxHeartbeats 4000000 in
theorem rdone_any (v : Value) (s : Sk) (id : Int) (w : World) (h : SkIs w v s) : Calls Tryz.prog 116 #[v, .int .i64 id] w (IsB (KM.doneF s.ds id) w) := by
  obtain ⟨A, c, B, d, rfl, h1, h2⟩ := h
  obtain ⟨n, hn⟩ : ∃ n, n = s.ds.length := ⟨_, rfl⟩
  obtain ⟨r, hr⟩ : ∃ r, r = KM.doneF s.ds id := ⟨_, rfl⟩
  rw [← hr]
  rw [← hn] at h2 ⊢
  have HR := Lib.hid hr
  have HL := Lib.hid hn
  have hn63 := h2.small
  have H := Lib.hid (fun W (hb : Below w.heap.size w W) => h2.below hb)
  have HB := Lib.hid (show Below w.heap.size w (w.alloc (.cells #[.int .i64 s.c, .slice A s.ws.length c, .slice B n d] 39)) from (Below.refl _ _).alloc (Nat.le_refl _) _)
  have X := Lib.hid (Box.new w 39 #[.int .i64 s.c, .slice A s.ws.length c, .slice B n d])
  clear h1 h2 hr hn
  unfold vsk
  obtain ⟨sc, ws, ds⟩ := s
  simp only at *
  go_enter Tryz.func116, Tryz.ntmps116
  go_upto_region 1 with (fail)
  generalize w.alloc (.cells #[.int .i64 sc, .slice A ws.length c, .slice B n d] 39) = w1 at HB X ⊢
  generalize hg : w.heap.size = g at X ⊢
  clear hg
  go_wp2_with fail
  go_loopw [5] (fun i wr => ∃ k : Nat, k ≤ n ∧ i = .int .i64 k ∧ Below w1.heap.size w1 wr ∧ Hid (∀ j y, j < k → ds[j]? = some y → y.i ≠ id)) (fun i _ => n - (intOf i).toNat)
  case atStart => exact ⟨0, by omega, rfl, Below.refl _ _, Lib.hid fun j y hj => absurd hj (by omega)⟩
  case round =>
    obtain ⟨k, hk, rfl, hB, HN⟩ := hrel
    have HB2 := Lib.hid hB
    obtain ⟨x0, x1, x2⟩ := box_sk (X.out.below hB X.out.lt)
    clear hB
    by_cases hlt : k < n
    · obtain ⟨a, ha⟩ : ∃ a, ds[k]? = some a := ⟨_, List.getElem?_eq_getElem (by have := HL.out; omega)⟩
      have HA := Lib.hid ha
      obtain ⟨bl, o, rfl, _, _, a0, a1⟩ := (H.out _ (bmore HB.out HB2.out (Nat.le_refl _))).at_ ha
      clear ha
      have hk0 : (0 : Int) ≤ (k : Int) := by omega
      have hkn : (k : Int) < (n : Int) := by omega
      by_cases he : a.i = id
      · have HF := Lib.hid (show r = true by
          rw [HR.out]
          rcases hd : KM.doneF ds id with _ | _
          · exact absurd he (KM.doneF_no.1 hd a (List.mem_of_getElem? HA.out))
          · rfl)
        have hb : (a.i == id) = true := by simpa using he
        clear he
        go_wp2_with fail
        go_ret
        exact ⟨by rw [HF.out]; rfl, bmore HB.out HB2.out (Nat.le_refl _)⟩
      · have HF := Lib.hid (show ∀ j y, j < k + 1 → ds[j]? = some y → y.i ≠ id from fun j y hj hy => by
          rcases (show j < k ∨ j = k by omega) with h | rfl
          · exact HN.out j y h hy
          · rw [HA.out] at hy; injection hy with hy; subst hy; exact he)
        have hb : (a.i == id) = false := by simpa using he
        clear he
        go_wp2_with fail
        go_roundw
        case rel => exact ⟨k + 1, by omega, by go_num, HB2.out, HF⟩
        case measure => simp [intOf]; omega
    · have HF := Lib.hid (show r = false by
        rw [HR.out]
        refine KM.doneF_no.2 fun x hx => ?_
        obtain ⟨j, hj⟩ := List.getElem?_of_mem hx
        exact HN.out j x (by have := (List.getElem?_eq_some_iff.1 hj).1; have := HL.out; omega) hj)
      go_wp2_with fail
      go_ret
      exact ⟨by rw [HF.out]; rfl, bmore HB.out HB2.out (Nat.le_refl _)⟩
set_option maxHeartbeats 1000000 in
theorem rstamp_any (A : Option Addr) (c : Nat) (x : Wt) (w : World) : Calls Tryz.prog 121 #[vwt A c x] w (IsSp (KM.stp x) w) := by
  have HB := Lib.hid (show Below w.heap.size w ((w.alloc (.cells #[.int .i64 x.m.id, .slice A x.m.gs.length c, .int .i64 x.m.tp, .string x.m.key, .string x.m.body, .int .i64 x.t, .bool x.f] 78)).alloc (.cells #[.int .i64 0, .int .i64 0] 46)) from ((Below.refl _ _).alloc (Nat.le_refl _) _).alloc (by simp) _)
  have X := Lib.hid ((Box.new w 78 #[.int .i64 x.m.id, .slice A x.m.gs.length c, .int .i64 x.m.tp, .string x.m.key, .string x.m.body, .int .i64 x.t, .bool x.f]).alloc (.cells #[.int .i64 0, .int .i64 0] 46))
  have Y := Lib.hid (Box.new_at (w := w.alloc (.cells #[.int .i64 x.m.id, .slice A x.m.gs.length c, .int .i64 x.m.tp, .string x.m.key, .string x.m.body, .int .i64 x.t, .bool x.f] 78)) (t := 46) (cs := #[.int .i64 0, .int .i64 0]) (w.heap.size + 1) (by simp))
  obtain ⟨⟨mi, mg, mt, mk, mb⟩, t, f⟩ := x
  unfold vwt
  simp only at HB X Y ⊢
  go_enter Tryz.func121, Tryz.ntmps121
  go_upto_region 1 with (fail)
  generalize (w.alloc (.cells #[.int .i64 mi, .slice A mg.length c, .int .i64 mt, .string mk, .string mb, .int .i64 t, .bool f] 78)).alloc (.cells #[.int .i64 0, .int .i64 0] 46) = w1 at HB X Y ⊢
  obtain ⟨g0, hg0⟩ : ∃ g0, w.heap.size = g0 := ⟨_, rfl⟩
  rw [hg0] at X Y
  simp only [hg0]
  have HG := Lib.hid hg0
  clear hg0
  obtain ⟨x0, x1, x2, x3, x4, x5, x6⟩ := box_wt X.out
  have y0 := Y.out.cell 0
  have y1 := Y.out.cell 1
  have f0 := Y.out.frozen 0
  have f1 := Y.out.frozen 1
  simp at y0 y1
  have Z := Lib.hid (Y.out.put (.int .i64 t) (.int .i64 mi))
  go_wp2_with fail
  obtain ⟨z0, z1⟩ := box_two Z.out
  exact bodyPost_ret (v := .agg #[.int .i64 t, .int .i64 mi]) (by simp [results, Tryz.results121, go_sem, z0, z1]; try rfl) rfl ⟨rfl, below_put HB.out (by have := HG.out; omega) _ _⟩
end Go.Proofs.YteebeiaokfenmaaGreat.KP

namespace Go.Proofs.YteebeiaokfenmaaGreat.KP
open Go.RowKit CP TP
open CM (Mg Cm)
open TM (Sp)
open KM (Wt Sk)
set_option linter.unusedVariables false
set_option linter.unusedSimpArgs false
set_option maxRecDepth 100000

set_option maxHeartbeats 8000000 in
theorem rsameMessages_any (A B : Option Addr) (n m ca cb : Nat) (x y : List Mg) (w : World) (h1 : KR KM_ w A n ca x) (h2 : KR KM_ w B m cb y) :
    Calls Tryz.prog 22 #[.slice A n ca, .slice B m cb] w (IsB (decide (x = y)) w) := by
  obtain ⟨r, hr⟩ : ∃ r, r = decide (x = y) := ⟨_, rfl⟩
  rw [← hr]
  have HR := Lib.hid hr
  have hn := h1.small
  have hm := h2.small
  have HX := Lib.hid h1.len
  have HY := Lib.hid h2.len
  have H1 := Lib.hid h1
  have H2 := Lib.hid h2
  clear h1 h2 hr
  by_cases hnm : n = m
  rotate_left
  · have HF := Lib.hid (show r = false by rw [HR.out]; exact decide_eq_false (fun e => hnm (by have := HX.out; have := HY.out; rw [e] at *; omega)))
    have hb : ((n : Int) != (m : Int)) = true := by simp; omega
    clear hnm
    go_enter Tryz.func22, Tryz.ntmps22
    go_wp2_with fail
    go_ret
    exact ⟨by rw [HF.out]; rfl, Below.refl _ _⟩
  subst hnm
  have hne : ((n : Int) != (n : Int)) = false := by simp
  go_enter Tryz.func22, Tryz.ntmps22
  go_wp2_with fail
  go_loopw [5] (fun i wr => ∃ k : Nat, k ≤ n ∧ i = .int .i64 k ∧ Below w.heap.size w wr ∧ Hid (x.take k = y.take k)) (fun i _ => n - (intOf i).toNat)
  case atStart => exact ⟨0, by omega, rfl, Below.refl _ _, Lib.hid rfl⟩
  case round =>
    obtain ⟨k, hk, rfl, hB, HT⟩ := hrel
    have HB := Lib.hid hB
    clear hB
    by_cases hlt : k < n
    · obtain ⟨a, ha⟩ : ∃ a, x[k]? = some a := ⟨_, List.getElem?_eq_getElem (by have := HX.out; omega)⟩
      obtain ⟨b, hb⟩ : ∃ b, y[k]? = some b := ⟨_, List.getElem?_eq_getElem (by have := HY.out; omega)⟩
      have HA := Lib.hid ha
      have HBb := Lib.hid hb
      obtain ⟨b1, o1, P1, q1, rfl, _, _, hat1, hr1⟩ := mgs_at (H1.out.below HB.out) ha
      obtain ⟨b2, o2, P2, q2, rfl, _, _, hat2, hr2⟩ := mgs_at (H2.out.below HB.out) hb
      obtain ⟨x0, x1, x2, x3, x4⟩ := hat1
      obtain ⟨y0, y1, y2, y3, y4⟩ := hat2
      clear ha hb
      have hk0 : (0 : Int) ≤ (k : Int) := by omega
      have hkn : (k : Int) < (n : Int) := by omega
      obtain ⟨d, hd⟩ : ∃ d, d = decide (a = b) := ⟨_, rfl⟩
      have HD := Lib.hid hd
      have C := Lib.hid (fun W (hb : Below wr.heap.size wr W) => sameMessage_any a b _ _ W ⟨P1, q1, rfl, hr1.below hb⟩ ⟨P2, q2, rfl, hr2.below hb⟩)
      rw [← hd] at C
      clear hd hr1 hr2
      obtain ⟨ai, ag, at', ak, ab⟩ := a
      obtain ⟨bi, bg, bt, bk, bb⟩ := b
      unfold mcells at C
      simp only at x0 x1 x2 x3 x4 y0 y1 y2 y3 y4 C
      have HSS := Lib.hid (fun (w' : World) (h : Below wr.heap.size wr w') => show w'.cell? ⟨b1, o1 + k * 5, none⟩ = some (.int .i64 ai) ∧ w'.cell? ⟨b1, o1 + k * 5 + 1, none⟩ = some (.slice P1 ag.length q1) ∧ w'.cell? ⟨b1, o1 + k * 5 + 2, none⟩ = some (.int .i64 at') ∧ w'.cell? ⟨b1, o1 + k * 5 + 3, none⟩ = some (.string ak) ∧ w'.cell? ⟨b1, o1 + k * 5 + 4, none⟩ = some (.string ab) ∧ w'.cell? ⟨b2, o2 + k * 5, none⟩ = some (.int .i64 bi) ∧ w'.cell? ⟨b2, o2 + k * 5 + 1, none⟩ = some (.slice P2 bg.length q2) ∧ w'.cell? ⟨b2, o2 + k * 5 + 2, none⟩ = some (.int .i64 bt) ∧ w'.cell? ⟨b2, o2 + k * 5 + 3, none⟩ = some (.string bk) ∧ w'.cell? ⟨b2, o2 + k * 5 + 4, none⟩ = some (.string bb) from
        ⟨(h.cell (cell_block x0)).trans x0, (h.cell (cell_block x1)).trans x1, (h.cell (cell_block x2)).trans x2, (h.cell (cell_block x3)).trans x3, (h.cell (cell_block x4)).trans x4, (h.cell (cell_block y0)).trans y0, (h.cell (cell_block y1)).trans y1, (h.cell (cell_block y2)).trans y2, (h.cell (cell_block y3)).trans y3, (h.cell (cell_block y4)).trans y4⟩)
      have bb1 : Below wr.heap.size wr wr.drew := (Below.refl _ _).drew
      go_wp2_with fail
      obtain ⟨ud, hud⟩ : ∃ ud, ud = wr.drew := ⟨_, rfl⟩
      refine wp_region_held_drew (S := fun w' => w'.cell? ⟨b1, o1 + k * 5, none⟩ = some (.int .i64 ai) ∧ w'.cell? ⟨b1, o1 + k * 5 + 1, none⟩ = some (.slice P1 ag.length q1) ∧ w'.cell? ⟨b1, o1 + k * 5 + 2, none⟩ = some (.int .i64 at') ∧ w'.cell? ⟨b1, o1 + k * 5 + 3, none⟩ = some (.string ak) ∧ w'.cell? ⟨b1, o1 + k * 5 + 4, none⟩ = some (.string ab) ∧ w'.cell? ⟨b2, o2 + k * 5, none⟩ = some (.int .i64 bi) ∧ w'.cell? ⟨b2, o2 + k * 5 + 1, none⟩ = some (.slice P2 bg.length q2) ∧ w'.cell? ⟨b2, o2 + k * 5 + 2, none⟩ = some (.int .i64 bt) ∧ w'.cell? ⟨b2, o2 + k * 5 + 3, none⟩ = some (.string bk) ∧ w'.cell? ⟨b2, o2 + k * 5 + 4, none⟩ = some (.string bb)) (by kernel_rfl) (HSS.out _ bb1) (fun hHeld => ?_)
      rw [← hud] at bb1 hHeld ⊢
      clear hud
      refine qT 0 ?_; try simp only [Act.put, qq]
      refine qT 1 ?_; try simp only [Act.put, qq]
      refine qT 2 ?_; try simp only [Act.put, qq]
      refine qT 3 ?_; try simp only [Act.put, qq]
      refine qT 4 ?_; try simp only [Act.put, qq]
      refine qT 5 ?_; try simp only [Act.put, qq]
      refine qT 6 ?_; try simp only [Act.put, qq]
      refine qT 7 ?_; try simp only [Act.put, qq]
      refine wpAnyH_ready (rs := [8]) (by kernel_rfl) (by simp) ?_
      refine AllReadyH.cons rfl (fun K hK => ?_) AllReadyH.nil
      go_simp
      refine (C.out _ bb1).mono ?_
      rintro e w3 ⟨rfl, hb⟩
      have bb2 := bmore bb1 hb (Nat.le_refl _)
      clear hb
      refine hK.out _ _ (HSS.out _ bb2) (fun hHeld => ?_)
      clear hK
      try simp only [Act.put, qq]
      refine qT 9 ?_; try simp only [Act.put, qq]
      refine wpAnyH_done (by kernel_rfl) ?_ _
      clear hHeld HSS
      have HN := Lib.hid (bmore HB.out bb2 (Nat.le_refl _))
      clear x0 x1 x2 x3 x4 y0 y1 y2 y3 y4 C
      rcases d with _ | _
      · simp only [Bool.not_false]
        have HF := Lib.hid (show r = false by rw [HR.out]; exact decide_eq_false (ne_at HA.out HBb.out (of_decide_eq_false HD.out.symm)))
        go_wp2_with fail
        go_ret
        exact ⟨by rw [HF.out]; rfl, HN.out⟩
      · simp only [Bool.not_true]
        have HF := Lib.hid (take_more HT.out HA.out (by rw [of_decide_eq_true HD.out.symm]; exact HBb.out))
        go_wp2_with fail
        go_roundw
        case rel => exact ⟨k + 1, by omega, by go_num, HN.out, HF⟩
        case measure => simp [intOf]; omega
    · have HF := Lib.hid (show r = true by
        rw [HR.out]
        exact decide_eq_true (take_all HT.out (by have := HX.out; omega) (by have := HY.out; omega)))
      go_wp2_with fail
      go_ret
      exact ⟨by rw [HF.out]; rfl, HB.out⟩
end Go.Proofs.YteebeiaokfenmaaGreat.KP
