/-
  The document's own SameInts (towncrierref01) of any two lists. Conditions: the slices read as ints.
  The document's own In, Id, SameMessage, Same (towncrierref12). Conditions: slices read as ints, lengths fit in an int.
  The document's own MayMessage (towncrierref12). Conditions: as MgIs and MgFit say.
  What package command's fieldsOf, isNumber, areGroups answer. Conditions: as each theorem says.
  What slices.Equal of two lists of ints answers. Conditions: the slices read as ints.
  What SameMessage of package command answers. Conditions: slices read as ints, lengths fit in an int.
-/
import Derived.Test.YtodmpapfnilkoaaProg
import Derived.Test.YtodmpapfnilkoaaK01
import Derived.Deep.QuietTactic
import Derived.BigQuiet
import Derived.Deep.DeepCutAuto
import Derived.Lib.Hide
import Derived.Lib.Walk
import Derived.WalkKit
import Derived.IntWalk
namespace Go.Proofs.Ytodmpapfnilkoaa.CP
open Go.RowKit
set_option linter.unusedVariables false

theorem drewN_below (w : World) (q : Nat) : Below w.heap.size w (w.drewN q) := below_drewN (Below.refl _ _) q
theorem drop_step {x y : List Int} {k : Nat} {u v : Int} (hx : x.drop k = u :: x.drop (k + 1)) (hy : y.drop k = v :: y.drop (k + 1)) (huv : u = v) : decide (x.drop (k + 1) = y.drop (k + 1)) = decide (x.drop k = y.drop k) := by
  rw [hx, hy, huv]; simp
set_option maxHeartbeats 2000000 in
theorem same_ints_any (A B : Option Addr) (ca cb : Nat) (x y : List Int) (w : World) (h1 : Rd w A x.length (ic x)) (h2 : Rd w B y.length (ic y)) (hm : x.length ≤ maxLen) (hm2 : y.length ≤ maxLen) :
    Calls Try.prog 14 #[.slice A x.length ca, .slice B y.length cb] w (BoolIs (decide (x = y)) w) := by
  unfold maxLen at hm hm2
  have hst : decide (x.drop 0 = y.drop 0) = decide (x = y) := rfl
  obtain ⟨n, hn⟩ : ∃ n, n = x.length := ⟨_, rfl⟩
  obtain ⟨m, hme⟩ : ∃ m, m = y.length := ⟨_, rfl⟩
  have hne0 : n ≠ m → decide (x = y) = false := fun h => by simpa using fun e => h (by rw [hn, hme, e])
  rw [← hn] at h1 hm ⊢
  rw [← hme] at h2 hm2 ⊢
  generalize decide (x = y) = r at hst hne0 ⊢
  have HN := Lib.hid hn; clear hn
  have HM := Lib.hid hme; clear hme
  have HS := Lib.hid hst; clear hst
  by_cases hnm : n = m
  rotate_left
  · have HR := Lib.hid (hne0 hnm)
    have hb : ((n : Int) != (m : Int)) = true := by simpa using fun h : (n : Int) = m => hnm (by omega)
    clear hne0 hnm
    go_enter Try.func14, Try.ntmps14
    go_wp2
    go_ret
    exact bool_ret HR.out.symm (Below.refl _ _)
  subst hnm
  clear hne0
  have hne : ((n : Int) != (n : Int)) = false := by simp
  go_enter Try.func14, Try.ntmps14
  go_wp2
  go_loopw [5] (fun i wr => ∃ k q : Nat, k ≤ n ∧ i = .int .i64 k ∧ wr = w.drewN q ∧ Hid (decide (x.drop k = y.drop k) = r)) (fun i _ => n - (intOf i).toNat)
  case atStart => exact ⟨0, 0, by omega, rfl, rfl, HS⟩
  case round =>
    clear HS
    obtain ⟨k, q, hk, rfl, rfl, HR⟩ := hrel
    by_cases hlt : k < n
    · obtain ⟨ad1, u1, rfl, _, hu1, hcell1⟩ := h1.at_ hlt
      obtain ⟨ad2, u2, rfl, _, hu2, hcell2⟩ := h2.at_ hlt
      have hkz : k < x.length := by have := HN.out; omega
      have hkz2 : k < y.length := by have := HM.out; omega
      have hx := List.drop_eq_getElem_cons hkz
      have hy := List.drop_eq_getElem_cons hkz2
      rw [ic_get x k hkz] at hu1
      rw [ic_get y k hkz2] at hu2
      injection hu1 with hu1
      injection hu2 with hu2
      subst hu1
      subst hu2
      generalize x[k] = u at hcell1 hx
      generalize y[k] = v at hcell2 hy
      have hk0 : (0 : Int) ≤ (k : Int) := by omega
      have hkn : (k : Int) < (n : Int) := by omega
      by_cases huv : u = v
      · have HT := Lib.hid ((drop_step hx hy huv).trans HR.out)
        have hbz : (u != v) = false := by simp [huv]
        clear hx hy huv hkz hkz2
        go_wp2_with fail
        go_quiet (fail)
        go_wp2_with fail
        go_roundw
        case rel => exact ⟨k + 1, q + nq, by omega, by go_num, by simp, HT⟩
        case measure => simp [intOf]; omega
      · have HT : Hid (false = r) := Lib.hid (by rw [← HR.out, hx, hy]; simp [huv])
        have hbz : (u != v) = true := by simpa using huv
        clear hx hy huv hkz hkz2
        go_wp2_with fail
        go_quiet (fail)
        go_wp2_with fail
        go_ret
        exact bool_ret HT.out (by rw [World.drewN_drewN]; exact drewN_below _ _)
    · have HT : Hid (true = r) := Lib.hid (by
        have h1 : x.length ≤ k := by have := HN.out; omega
        have h2 : y.length ≤ k := by have := HM.out; omega
        rw [← HR.out, List.drop_of_length_le h1, List.drop_of_length_le h2]; simp)
      go_wp2
      go_ret
      exact bool_ret HT.out (drewN_below _ _)
end Go.Proofs.Ytodmpapfnilkoaa.CP

namespace Go.Proofs.Ytodmpapfnilkoaa.CP
open Go.RowKit
open CM (Mg Cm)
set_option linter.unusedVariables false
set_option linter.unusedSimpArgs false
set_option maxRecDepth 100000

theorem text_ne {a b : ByteArray} (h : a ≠ b) : (a.toList == b.toList) = false := by
  simpa using fun e : a.toList = b.toList => h (by
    rw [ByteArray.toList_eq, ByteArray.toList_eq] at e
    obtain ⟨⟨x⟩⟩ := a
    obtain ⟨⟨y⟩⟩ := b
    simp at e
    rw [e])
theorem In_any (n a b : Int) (w : World) : Calls Try.prog 78 #[.int .i64 n, .int .i64 a, .int .i64 b] w fun e w' => e = .returned (.bool (decide (a ≤ n ∧ n < b))) ∧ w' = w := by
  by_cases h1 : a ≤ n
  · by_cases h2 : n < b
    · have hd : decide (a ≤ n ∧ n < b) = true := by simp [h1, h2]
      rw [hd]
      go_enter Try.func78, Try.ntmps78
      go_wp2
      go_ret
      exact ⟨rfl, rfl⟩
    · have hd : decide (a ≤ n ∧ n < b) = false := by simp; omega
      rw [hd]
      go_enter Try.func78, Try.ntmps78
      go_wp2
      go_ret
      exact ⟨rfl, rfl⟩
  · have hd : decide (a ≤ n ∧ n < b) = false := by simp; omega
    rw [hd]
    go_enter Try.func78, Try.ntmps78
    go_wp2
    go_ret
    exact ⟨rfl, rfl⟩
theorem Id_any (n : Int) (w : World) : Calls Try.prog 77 #[.int .i64 n] w fun e w' => e = .returned (.bool (decide (CM.idOk n))) ∧ w' = w := by
  obtain ⟨b, hb⟩ : ∃ b, b = decide (CM.idOk n) := ⟨_, rfl⟩
  have hc : ∀ w, Calls Try.prog 78 #[.int .i64 n, .int .i64 0, .int .i64 6291456] w fun e w' => e = .returned (.bool b) ∧ w' = w := by rw [hb]; exact In_any n 0 6291456
  rw [← hb]
  have C := Lib.hid hc
  clear hc hb
  go_enter Try.func77, Try.ntmps77
  go_wp2_with fail
  refine (C.out _).mono ?_
  rintro e w1 ⟨rfl, rfl⟩
  go_wp2_with fail
  go_ret
  exact ⟨rfl, rfl⟩

set_option maxHeartbeats 4000000 in
theorem sameMessage_any (a b : Mg) (va vb : Value) (w : World) (ha : MgIs w va a) (hb : MgIs w vb b) :
    Calls Try.prog 45 #[va, vb] w (BoolIs (decide (a = b)) w) := by
  obtain ⟨A, c, rfl, r1, r1c, r1m⟩ := ha
  obtain ⟨B, d, rfl, r2, r2c, r2m⟩ := hb
  obtain ⟨ai, ag, at', ak, ab⟩ := a
  obtain ⟨bi, bg, bt, bk, bb⟩ := b
  simp only at r1 r1c r2 r2c
  have hiff : ((⟨ai, ag, at', ak, ab⟩ : Mg) = ⟨bi, bg, bt, bk, bb⟩) ↔ (ai = bi ∧ ag = bg ∧ at' = bt ∧ ak = bk ∧ ab = bb) := by simp
  have hno : ¬ (ai = bi ∧ ag = bg ∧ at' = bt ∧ ak = bk ∧ ab = bb) → false = decide ((⟨ai, ag, at', ak, ab⟩ : Mg) = ⟨bi, bg, bt, bk, bb⟩) := fun h => by
    have : ¬ ((⟨ai, ag, at', ak, ab⟩ : Mg) = ⟨bi, bg, bt, bk, bb⟩) := fun e => h (hiff.1 e)
    rw [decide_eq_false this]
  have hyes : (ai = bi ∧ ag = bg ∧ at' = bt ∧ ak = bk ∧ ab = bb) → true = decide ((⟨ai, ag, at', ak, ab⟩ : Mg) = ⟨bi, bg, bt, bk, bb⟩) := fun h => by
    rw [decide_eq_true (hiff.2 h)]
  have HNO := Lib.hid hno
  have HYES := Lib.hid hyes
  clear hno hyes hiff
  generalize decide ((⟨ai, ag, at', ak, ab⟩ : Mg) = ⟨bi, bg, bt, bk, bb⟩) = r at HNO HYES ⊢
  show Calls _ _ #[.agg #[.int .i64 ai, .slice A ag.length c, .int .i64 at', .string ak, .string ab], .agg #[.int .i64 bi, .slice B bg.length d, .int .i64 bt, .string bk, .string bb]] _ _
  have hb0 : ∀ o1 o2 : Obj, Below w.heap.size w ((w.alloc o1).alloc o2) := fun o1 o2 => ((Below.refl _ _).alloc (Nat.le_refl _) _).alloc (by simp) _
  have hs : ∀ o1 o2 : Obj, ((w.alloc o1).alloc o2).heap.size = w.heap.size + 2 := fun _ _ => by simp
  have hX : Box ((w.alloc (.cells #[.int .i64 ai, .slice A ag.length c, .int .i64 at', .string ak, .string ab] 27)).alloc (.cells #[.int .i64 bi, .slice B bg.length d, .int .i64 bt, .string bk, .string bb] 27)) w.heap.size 27 #[.int .i64 ai, .slice A ag.length c, .int .i64 at', .string ak, .string ab] := (Box.new _ _ _).alloc _
  have hY : Box ((w.alloc (.cells #[.int .i64 ai, .slice A ag.length c, .int .i64 at', .string ak, .string ab] 27)).alloc (.cells #[.int .i64 bi, .slice B bg.length d, .int .i64 bt, .string bk, .string bb] 27)) (w.heap.size + 1) 27 #[.int .i64 bi, .slice B bg.length d, .int .i64 bt, .string bk, .string bb] := Box.new_at _ (by simp)
  have C := Lib.hid (same_ints_any A B c d ag bg _ (r1.below (hb0 (.cells #[.int .i64 ai, .slice A ag.length c, .int .i64 at', .string ak, .string ab] 27) (.cells #[.int .i64 bi, .slice B bg.length d, .int .i64 bt, .string bk, .string bb] 27))) (r2.below (hb0 _ _)) (by omega) (by omega))
  have HX := Lib.hid hX
  have HY := Lib.hid hY
  have HB := Lib.hid (hb0 (.cells #[.int .i64 ai, .slice A ag.length c, .int .i64 at', .string ak, .string ab] 27) (.cells #[.int .i64 bi, .slice B bg.length d, .int .i64 bt, .string bk, .string bb] 27))
  clear hX hY hb0 hs r1 r2
  go_enter Try.func45, Try.ntmps45
  go_upto_region 1 with (fail)
  generalize (w.alloc (.cells #[.int .i64 ai, .slice A ag.length c, .int .i64 at', .string ak, .string ab] 27)).alloc (.cells #[.int .i64 bi, .slice B bg.length d, .int .i64 bt, .string bk, .string bb] 27) = w1 at HX HY HB C ⊢
  have G1 := Lib.hid HX.out.lt
  have G2 := Lib.hid HY.out.lt
  generalize hg1 : w.heap.size + 1 = g1 at HY G2 ⊢
  clear hg1
  generalize hg0 : w.heap.size = g0 at HX G1 ⊢
  clear hg0
  by_cases h1 : ai = bi
  rotate_left
  · have HF := Lib.hid (HNO.out (fun h => h1 h.1))
    have b1 : (ai == bi) = false := by simpa using h1
    obtain ⟨x0, x1, x2, x3, x4⟩ := box_mg HX.out
    obtain ⟨y0, y1, y2, y3, y4⟩ := box_mg HY.out
    clear h1 HNO HYES C HX HY
    go_wp2_with fail
    go_ret
    exact bool_ret HF.out HB.out
  subst h1
  have b1 : (ai == ai) = true := by simp
  obtain ⟨x0, x1, x2, x3, x4⟩ := box_mg HX.out
  obtain ⟨y0, y1, y2, y3, y4⟩ := box_mg HY.out
  go_wp2_with fail
  refine (C.out).mono ?_
  rintro e w2 ⟨rfl, hb2⟩
  clear x0 x1 x2 x3 x4 y0 y1 y2 y3 y4
  obtain ⟨x0, x1, x2, x3, x4⟩ := box_mg (HX.out.below hb2 G1.out)
  obtain ⟨y0, y1, y2, y3, y4⟩ := box_mg (HY.out.below hb2 G2.out)
  replace HB := Lib.hid (HB.out.trans (hb2.mono HB.out.size))
  clear C HX HY G1 G2 hb2
  by_cases h2 : ag = bg
  rotate_left
  · have HF := Lib.hid (HNO.out (fun h => h2 h.2.1))
    have b2 : decide (ag = bg) = false := by simpa using h2
    rw [b2]
    clear h2 HNO HYES b2
    go_wp2_with fail
    go_ret
    exact bool_ret HF.out HB.out
  rw [decide_eq_true h2]
  by_cases h3 : at' = bt
  rotate_left
  · have HF := Lib.hid (HNO.out (fun h => h3 h.2.2.1))
    have b3 : (at' == bt) = false := by simpa using h3
    clear h2 h3 HNO HYES
    go_wp2_with fail
    go_ret
    exact bool_ret HF.out HB.out
  subst h3
  have b3 : (at' == at') = true := by simp
  by_cases h4 : ak = bk
  rotate_left
  · have HF := Lib.hid (HNO.out (fun h => h4 h.2.2.2.1))
    have b4 := text_ne h4
    clear h2 HNO HYES
    go_wp2_with fail
    go_ret
    exact bool_ret HF.out HB.out
  subst h4
  have b4 : (ak.toList == ak.toList) = true := by simp
  by_cases h5 : ab = bb
  rotate_left
  · have HF := Lib.hid (HNO.out (fun h => h5 h.2.2.2.2))
    have b5 := text_ne h5
    clear h2 HNO HYES
    go_wp2_with fail
    go_ret
    exact bool_ret HF.out HB.out
  subst h5
  have b5 : (ab.toList == ab.toList) = true := by simp
  have HF := Lib.hid (HYES.out ⟨by simp, h2, by simp, by simp, by simp⟩)
  clear h2 HNO HYES
  go_wp2_with fail
  go_ret
  exact bool_ret HF.out HB.out
end Go.Proofs.Ytodmpapfnilkoaa.CP

namespace Go.Proofs.Ytodmpapfnilkoaa.CP
open Go.RowKit
open CM (Mg Cm)
set_option linter.unusedVariables false
set_option linter.unusedSimpArgs false
set_option maxRecDepth 100000

theorem rise_no {p z : Int} {l : List Int} (h : ¬ (0 ≤ z ∧ z < 4)) (hp : -1 ≤ p) : CM.riseG p (z :: l) = false := by
  simp only [CM.riseG]
  by_cases h1 : p < z
  · have : ¬ z < 4 := by omega
    simp [this]
  · simp [h1]
theorem rise_le {p z : Int} {l : List Int} (h : z ≤ p) : CM.riseG p (z :: l) = false := by
  simp only [CM.riseG]
  have : ¬ p < z := by omega
  simp [this]
theorem rise_up {p z : Int} {l : List Int} (h : p < z) (h4 : z < 4) : CM.riseG p (z :: l) = CM.riseG z l := by
  simp [CM.riseG, h, h4]
theorem in_quiet (n a b : Int) (W : World) (v : Bool) (hv : decide (a ≤ n ∧ n < b) = v) (nq : Nat) : Calls Try.prog 78 #[.int .i64 n, .int .i64 a, .int .i64 b] (W.drewN nq) fun e w' => e = .returned (.bool v) ∧ ∃ m, w' = W.drewN m :=
  (In_any n a b (W.drewN nq)).mono fun e w' ⟨h1, h2⟩ => ⟨by rw [h1, hv], nq, h2⟩
set_option maxHeartbeats 8000000 in
theorem mayMessage_any (m : Mg) (v : Value) (w : World) (h : MgIs w v m) (hf : MgFit m) :
    Calls Try.prog 76 #[v] w (BoolIs (decide (CM.mgOk m)) w) := by
  obtain ⟨A, c, rfl, r1, r1c, r1m⟩ := h
  obtain ⟨mi, mg, mt, mk, mb⟩ := m
  obtain ⟨_, _, f1, f2⟩ := hf
  simp only at r1 r1c f1 f2
  unfold maxLen at r1m f1 f2
  have hiff : CM.mgOk ⟨mi, mg, mt, mk, mb⟩ ↔ (CM.idOk mi ∧ mg ≠ [] ∧ CM.riseG (-1) mg = true ∧ (0 ≤ mt ∧ mt < 4) ∧ mk.size ≤ 16 ∧ mb.size ≤ 64) := Iff.rfl
  have hno : ¬ (CM.idOk mi ∧ mg ≠ [] ∧ CM.riseG (-1) mg = true ∧ (0 ≤ mt ∧ mt < 4) ∧ mk.size ≤ 16 ∧ mb.size ≤ 64) → false = decide (CM.mgOk ⟨mi, mg, mt, mk, mb⟩) := fun h => by
    rw [decide_eq_false (fun e => h (hiff.1 e))]
  have hyes : (CM.idOk mi ∧ mg ≠ [] ∧ CM.riseG (-1) mg = true ∧ (0 ≤ mt ∧ mt < 4) ∧ mk.size ≤ 16 ∧ mb.size ≤ 64) → true = decide (CM.mgOk ⟨mi, mg, mt, mk, mb⟩) := fun h => by
    rw [decide_eq_true (hiff.2 h)]
  have HNO := Lib.hid hno
  have HYES := Lib.hid hyes
  clear hno hyes hiff
  generalize decide (CM.mgOk ⟨mi, mg, mt, mk, mb⟩) = r at HNO HYES ⊢
  show Calls _ _ #[.agg #[.int .i64 mi, .slice A mg.length c, .int .i64 mt, .string mk, .string mb]] _ _
  have hb0 : Below w.heap.size w (w.alloc (.cells #[.int .i64 mi, .slice A mg.length c, .int .i64 mt, .string mk, .string mb] 27)) := (Below.refl _ _).alloc (Nat.le_refl _) _
  have HX := Lib.hid (Box.new w 27 #[.int .i64 mi, .slice A mg.length c, .int .i64 mt, .string mk, .string mb])
  have HR := Lib.hid (r1.below hb0)
  have HB := Lib.hid hb0
  clear r1 hb0
  go_enter Try.func76, Try.ntmps76
  go_upto_region 1 with (fail)
  generalize w.alloc (.cells #[.int .i64 mi, .slice A mg.length c, .int .i64 mt, .string mk, .string mb] 27) = w1 at HX HR HB ⊢
  generalize w.heap.size = g0 at HX ⊢
  obtain ⟨x0, x1, x2, x3, x4⟩ := box_mg HX.out
  obtain ⟨rg, hrg⟩ : ∃ rg, rg = CM.riseG (-1) mg := ⟨_, rfl⟩
  rw [← hrg] at HNO HYES
  have HS := Lib.hid (show CM.riseG (-1) (mg.drop 0) = rg from hrg.symm)
  clear hrg
  go_wp2_with fail
  clear x0 x1 x2 x3 x4
  have G1 := Lib.hid HX.out.lt
  go_loopw [3] (fun i wr => ∃ (k : Nat) (p : Int), k ≤ mg.length ∧ i = .int .i64 k ∧ Hid (Below w1.heap.size w1 wr) ∧ Hid (CM.riseG p (mg.drop k) = rg) ∧ Hid (k = 0 ∧ p = -1 ∨ 0 < k ∧ -1 ≤ p ∧ mg[k - 1]? = some p)) (fun i _ => mg.length - (intOf i).toNat)
  case atStart => exact ⟨0, -1, by omega, rfl, Lib.hid (Below.refl _ _), HS, Lib.hid (.inl ⟨rfl, rfl⟩)⟩
  case round =>
    clear HS
    obtain ⟨k, p, hk, rfl, HW, HQ, HP⟩ := hrel
    obtain ⟨x0, x1, x2, x3, x4⟩ := box_mg (HX.out.below HW.out G1.out)
    have HRW := Lib.hid (HR.out.below HW.out)
    replace HB := Lib.hid (HB.out.trans (HW.out.mono HB.out.size))
    by_cases hlt : k < mg.length
    · obtain ⟨ad, u, rfl, _, hu, hcell⟩ := HRW.out.at_ hlt
      rw [ic_get mg k hlt] at hu
      injection hu with hu
      subst hu
      have hd := HQ.out
      rw [List.drop_eq_getElem_cons hlt] at hd
      have hzg : mg[k + 1 - 1]? = some mg[k] := by rw [Nat.add_sub_cancel]; exact List.getElem?_eq_getElem hlt
      obtain ⟨z, hz⟩ : ∃ z, z = mg[k] := ⟨_, rfl⟩
      rw [← hz] at hcell hd hzg
      clear hz HQ
      have HZG := Lib.hid hzg; clear hzg
      have hk0 : (0 : Int) ≤ (k : Int) := by omega
      have hkn : (k : Int) < (mg.length : Int) := by omega
      by_cases hin : 0 ≤ z ∧ z < 4
      · have C := Lib.hid (in_quiet z 0 4 wr true (by simp; exact hin))
        have HIN := Lib.hid hin; clear hin
        rcases HP.out with ⟨hk1, hp⟩ | ⟨hk1, hp, hpz⟩
        · have HD := Lib.hid ((rise_up (by have := HIN.out; omega) HIN.out.2).symm.trans hd)
          have hq1 : decide ((0 : Int) < (k : Int)) = false := by simp; omega
          have hq2 : decide (0 < k) = false := by simp; omega
          clear HP hk1 hp hd
          go_wp2_with fail
          go_quiet ((go_at_call 78; with_reducible exact C.out _))
          go_wp2_with fail
          go_roundw
          case rel => exact ⟨k + 1, z, by omega, by go_num, Lib.hid (below_drewN HW.out _), HD, Lib.hid (.inr ⟨by omega, by have := HIN.out; omega, HZG.out⟩)⟩
          case measure => simp [intOf]; omega
        · have hkz1 : k - 1 < mg.length := by omega
          obtain ⟨ad2, u2, hA2, _, hu2, hcell2⟩ := HRW.out.at_ hkz1
          injection hA2 with hA2
          subst hA2
          have hu3 : u2 = .int .i64 p := by
            have : (ic mg)[k - 1]? = some (.int .i64 p) := by unfold ic; rw [List.getElem?_map, hpz]; rfl
            rw [this] at hu2
            injection hu2 with hu2
            exact hu2.symm
          subst hu3
          clear hu2 hkz1 hpz HP
          have hq1 : decide (0 < k) = true := by simp; omega
          have hq2 : decide ((0 : Int) < (k : Int)) = true := by simp; omega
          have s1 : IntKind.i64.wrap ((k : Int) - 1) = (k : Int) - 1 := IntWalk.i64_in _ ⟨by omega, by omega⟩
          have s2 : (0 : Int) ≤ (k : Int) - 1 := by omega
          have s3 : ((k : Int) - 1).toNat = k - 1 := by omega
          have s4 : (k : Int) - 1 < (mg.length : Int) := by omega
          by_cases hpl : p < z
          · have HD := Lib.hid ((rise_up hpl HIN.out.2).symm.trans hd)
            have b2 : decide (z ≤ p) = false := by simp; omega
            clear hd
            go_wp2_with fail
            go_quiet ((go_at_call 78; with_reducible exact C.out _))
            clear s1 s3
            go_wp2_with fail
            go_roundw
            case rel => exact ⟨k + 1, z, by omega, by go_num, Lib.hid (below_drewN HW.out _), HD, Lib.hid (.inr ⟨by omega, by have := HIN.out; omega, HZG.out⟩)⟩
            case measure => simp [intOf]; omega
          · have HD := Lib.hid ((rise_le (by omega)).symm.trans hd)
            have b2 : decide (z ≤ p) = true := by simp; omega
            clear hd
            go_wp2_with fail
            go_quiet ((go_at_call 78; with_reducible exact C.out _))
            clear s1 s3
            go_wp2_with fail
            go_ret
            exact bool_ret (HNO.out (fun h => by have := h.2.2.1; rw [← HD.out] at this; cases this)) (below_drewN HB.out _)
      · have C := Lib.hid (in_quiet z 0 4 wr false (by simpa using hin))
        have HD := Lib.hid ((rise_no hin (by rcases HP.out with ⟨_, h⟩ | ⟨_, h, _⟩ <;> omega)).symm.trans hd)
        clear hd hin HP
        go_wp2_with fail
        go_quiet ((go_at_call 78; with_reducible exact C.out _))
        go_wp2_with fail
        go_ret
        exact bool_ret (HNO.out (fun h => by have := h.2.2.1; rw [← HD.out] at this; cases this)) (below_drewN HB.out _)
    · have hrg : rg = true := by
        have := HQ.out
        rw [List.drop_of_length_le (by omega)] at this
        rw [← this]; rfl
      subst hrg
      clear HQ HP
      have CI := Lib.hid (Id_any mi)
      have CT := Lib.hid (In_any mt 0 4)
      by_cases g1 : mg = []
      · have HF := Lib.hid (HNO.out (fun h => h.2.1 g1))
        have b1 : mg.length = 0 := by rw [g1]; rfl
        have b2 : (0 : Int) < (mg.length : Int) → False := fun h => by omega
        clear g1 HNO HYES
        go_wp2_with fail
        go_ret
        exact bool_ret HF.out HB.out
      have b1 : (0 : Int) < (mg.length : Int) := by have := List.length_pos_iff.2 g1; omega
      go_wp2_with fail
      refine (CI.out _).mono ?_
      rintro e w2 ⟨rfl, rfl⟩
      by_cases g2 : CM.idOk mi
      rotate_left
      · have HF := Lib.hid (HNO.out (fun h => g2 h.1))
        rw [decide_eq_false g2]
        clear g2 HNO HYES
        go_wp2_with fail
        go_ret
        exact bool_ret HF.out HB.out
      rw [decide_eq_true g2]
      go_wp2_with fail
      refine (CT.out _).mono ?_
      rintro e w2 ⟨rfl, rfl⟩
      by_cases g3 : 0 ≤ mt ∧ mt < 4
      rotate_left
      · have HF := Lib.hid (HNO.out (fun h => g3 h.2.2.2.1))
        rw [decide_eq_false g3]
        clear g3 HNO HYES
        go_wp2_with fail
        go_ret
        exact bool_ret HF.out HB.out
      rw [decide_eq_true g3]
      by_cases g4 : mk.size ≤ 16
      rotate_left
      · have HF := Lib.hid (HNO.out (fun h => g4 h.2.2.2.2.1))
        have b4 : decide ((mk.size : Int) ≤ 16) = false := by simp; omega
        clear HNO HYES
        go_wp2_with fail
        go_ret
        exact bool_ret HF.out HB.out
      have b4 : decide ((mk.size : Int) ≤ 16) = true := by simp; omega
      by_cases g5 : mb.size ≤ 64
      rotate_left
      · have HF := Lib.hid (HNO.out (fun h => g5 h.2.2.2.2.2))
        have b5 : decide ((mb.size : Int) ≤ 64) = false := by simp; omega
        clear HNO HYES
        go_wp2_with fail
        go_ret
        exact bool_ret HF.out HB.out
      have b5 : decide ((mb.size : Int) ≤ 64) = true := by simp; omega
      have HF := Lib.hid (HYES.out ⟨g2, g1, by simp, g3, g4, g5⟩)
      clear HNO HYES
      go_wp2_with fail
      go_ret
      exact bool_ret HF.out HB.out
end Go.Proofs.Ytodmpapfnilkoaa.CP

namespace Go.Proofs.Ytodmpapfnilkoaa.CP
open Go.RowKit
open CM (Mg Cm)
set_option linter.unusedVariables false
set_option linter.unusedSimpArgs false
set_option maxRecDepth 100000

/-- which fields a kind has: message, id and time, members, id with topic and number, consumer -/
def Fl (k : Int) (a b c d e i : Bool) : Prop :=
  (k = 0 ∧ a = false ∧ b = false ∧ c = false ∧ d = false ∧ e = false ∧ i = true) ∨ (k = 1 ∧ a = true ∧ b = false ∧ c = false ∧ d = false ∧ e = false ∧ i = true) ∨
  (k = 2 ∧ a = false ∧ b = true ∧ c = false ∧ d = false ∧ e = false ∧ i = true) ∨ (k = 3 ∧ a = false ∧ b = false ∧ c = true ∧ d = false ∧ e = false ∧ i = true) ∨
  (k = 4 ∧ a = false ∧ b = false ∧ c = false ∧ d = true ∧ e = true ∧ i = true) ∨ (k = 5 ∧ a = false ∧ b = false ∧ c = false ∧ d = true ∧ e = false ∧ i = true) ∨
  (k = 6 ∧ a = false ∧ b = false ∧ c = false ∧ d = true ∧ e = false ∧ i = true) ∨
  ((k ≠ 0 ∧ k ≠ 1 ∧ k ≠ 2 ∧ k ≠ 3 ∧ k ≠ 4 ∧ k ≠ 5 ∧ k ≠ 6) ∧ a = false ∧ b = false ∧ c = false ∧ d = false ∧ e = false ∧ i = false)
theorem fl_ex (k : Int) : ∃ a b c d e i, Fl k a b c d e i := by
  unfold Fl
  by_cases h0 : k = 0
  · exact ⟨_, _, _, _, _, _, .inl ⟨h0, rfl, rfl, rfl, rfl, rfl, rfl⟩⟩
  by_cases h1 : k = 1
  · exact ⟨_, _, _, _, _, _, .inr (.inl ⟨h1, rfl, rfl, rfl, rfl, rfl, rfl⟩)⟩
  by_cases h2 : k = 2
  · exact ⟨_, _, _, _, _, _, .inr (.inr (.inl ⟨h2, rfl, rfl, rfl, rfl, rfl, rfl⟩))⟩
  by_cases h3 : k = 3
  · exact ⟨_, _, _, _, _, _, .inr (.inr (.inr (.inl ⟨h3, rfl, rfl, rfl, rfl, rfl, rfl⟩)))⟩
  by_cases h4 : k = 4
  · exact ⟨_, _, _, _, _, _, .inr (.inr (.inr (.inr (.inl ⟨h4, rfl, rfl, rfl, rfl, rfl, rfl⟩))))⟩
  by_cases h5 : k = 5
  · exact ⟨_, _, _, _, _, _, .inr (.inr (.inr (.inr (.inr (.inl ⟨h5, rfl, rfl, rfl, rfl, rfl, rfl⟩)))))⟩
  by_cases h6 : k = 6
  · exact ⟨_, _, _, _, _, _, .inr (.inr (.inr (.inr (.inr (.inr (.inl ⟨h6, rfl, rfl, rfl, rfl, rfl, rfl⟩))))))⟩
  exact ⟨_, _, _, _, _, _, .inr (.inr (.inr (.inr (.inr (.inr (.inr ⟨⟨h0, h1, h2, h3, h4, h5, h6⟩, rfl, rfl, rfl, rfl, rfl, rfl⟩))))))⟩
def FlIs (a b c d e i : Bool) (w : World) (x : Ending) (w' : World) : Prop := x = .returned (.tuple #[.agg #[.bool a, .bool b, .bool c, .bool d, .bool e], .bool i]) ∧ Below w.heap.size w w'
/-- a block that was just laid, filled at the end by just its own cells -/
theorem below_own {B : Nat} {a w : World} (h : Below B a w) {g : Nat} (hg : B ≤ g) (x y z u v : Value) : Below B a (((((w.setCell ⟨g, 0, none⟩ x).setCell ⟨g, 1, none⟩ y).setCell ⟨g, 2, none⟩ z).setCell ⟨g, 3, none⟩ u).setCell ⟨g, 4, none⟩ v) :=
  ((((h.setCell (p := ⟨g, 0, none⟩) hg x).setCell (p := ⟨g, 1, none⟩) hg y).setCell (p := ⟨g, 2, none⟩) hg z).setCell (p := ⟨g, 3, none⟩) hg u).setCell (p := ⟨g, 4, none⟩) hg v
theorem fl_ret {a b c d e i : Bool} (w : World) (tmps : Array Value) (h2 : tmps[2]?.getD undef = .pointer (some ⟨w.heap.size, 0, none⟩)) (h3 : tmps[3]?.getD undef = .bool i) :
    bodyPost Try.prog Try.f31 (FlIs a b c d e i w) .ret ⟨tmps, []⟩ (w.alloc (.cells #[.bool a, .bool b, .bool c, .bool d, .bool e] 69)) := by
  have X := Box.new w 69 #[.bool a, .bool b, .bool c, .bool d, .bool e]
  obtain ⟨d0, d1, d2, d3, d4⟩ := box_mg X
  exact bodyPost_ret (v := .tuple #[.agg #[.bool a, .bool b, .bool c, .bool d, .bool e], .bool i]) (by simp [results, Try.results31, go_sem, h2, h3, d0, d1, d2, d3, d4]; try rfl) rfl ⟨rfl, (Below.refl _ _).alloc (Nat.le_refl _) _⟩
set_option maxHeartbeats 4000000 in
theorem fields_any {k : Int} {a b c d e i : Bool} (h : Fl k a b c d e i) (w : World) : Calls Try.prog 31 #[.int .u8 k] w (FlIs a b c d e i w) := by
  rcases h with ⟨rfl, rfl, rfl, rfl, rfl, rfl, rfl⟩ | ⟨rfl, rfl, rfl, rfl, rfl, rfl, rfl⟩ | ⟨rfl, rfl, rfl, rfl, rfl, rfl, rfl⟩ | ⟨rfl, rfl, rfl, rfl, rfl, rfl, rfl⟩ | ⟨rfl, rfl, rfl, rfl, rfl, rfl, rfl⟩ | ⟨rfl, rfl, rfl, rfl, rfl, rfl, rfl⟩ | ⟨rfl, rfl, rfl, rfl, rfl, rfl, rfl⟩ | ⟨⟨h0, h1, h2, h3, h4, h5, h6⟩, rfl, rfl, rfl, rfl, rfl, rfl⟩
  all_goals
    try (
      have e0 : (k == 0) = false := by simpa using h0
      have e1 : (k == 1) = false := by simpa using h1
      have e2 : (k == 2) = false := by simpa using h2
      have e3 : (k == 3) = false := by simpa using h3
      have e4 : (k == 4) = false := by simpa using h4
      have e5 : (k == 5) = false := by simpa using h5
      have e6 : (k == 6) = false := by simpa using h6
      clear h0 h1 h2 h3 h4 h5 h6)
    go_enter Try.func31, Try.ntmps31
    go_wp2_with fail
    exact fl_ret w _ rfl rfl
theorem isNumber_any (h : Bool) (n a b : Int) (w : World) :
    Calls Try.prog 51 #[.bool h, .int .i64 n, .int .i64 a, .int .i64 b] w fun e w' => e = .returned (.bool (decide (if h = true then a ≤ n ∧ n ≤ b else n = 0))) ∧ w' = w := by
  cases h
  · obtain ⟨r, hr⟩ : ∃ r, r = (n == 0) := ⟨_, rfl⟩
    have he : decide (if false = true then a ≤ n ∧ n ≤ b else n = 0) = r := by rw [hr]; by_cases h : n = 0 <;> simp [h]
    rw [he]
    have HR := Lib.hid hr
    clear hr he
    go_enter Try.func51, Try.ntmps51
    go_wp2
    go_ret
    exact ⟨ret_eq HR.out.symm, rfl⟩
  · have he : decide (if true = true then a ≤ n ∧ n ≤ b else n = 0) = decide (a ≤ n ∧ n ≤ b) := by simp
    rw [he]
    clear he
    by_cases h1 : a ≤ n
    · by_cases h2 : n ≤ b
      · have hd : decide (a ≤ n ∧ n ≤ b) = true := by simp [h1, h2]
        rw [hd]
        go_enter Try.func51, Try.ntmps51
        go_wp2
        go_ret
        exact ⟨rfl, rfl⟩
      · have hd : decide (a ≤ n ∧ n ≤ b) = false := by simp; omega
        rw [hd]
        go_enter Try.func51, Try.ntmps51
        go_wp2
        go_ret
        exact ⟨rfl, rfl⟩
    · have hd : decide (a ≤ n ∧ n ≤ b) = false := by simp; omega
      rw [hd]
      go_enter Try.func51, Try.ntmps51
      go_wp2
      go_ret
      exact ⟨rfl, rfl⟩
set_option maxHeartbeats 4000000 in
theorem areGroups_any (A : Option Addr) (n c : Nat) (l : List Int) (w : World) (hr : Rd w A n (ic l)) (hm : n ≤ 9223372036854775807) :
    Calls Try.prog 80 #[.slice A n c] w fun e w' => e = .returned (.bool (decide (l ≠ []) && CM.riseG (-1) l)) ∧ w = w' := by
  obtain ⟨r, hrr⟩ : ∃ r, r = CM.riseG (-1) l := ⟨_, rfl⟩
  rw [← hrr]
  have hl : l.length = n := by have := hr.1; rwa [ic_length] at this
  have hne : decide (l ≠ []) = decide (0 < n) := by rw [← hl]; cases l <;> simp
  rw [hne]
  have HL := Lib.hid hl
  have hst : CM.riseG (-1) (l.drop 0) = r := by rw [hrr]; rfl
  clear hrr hl hne
  have HS := Lib.hid hst; clear hst
  go_enter Try.func80, Try.ntmps80
  go_wp2
  go_loop [3, 8] (fun a i => ∃ (k : Nat) (p : Int), k ≤ n ∧ i = .int .i64 k ∧ a = .int .i64 p ∧ -1 ≤ p ∧ Hid (CM.riseG p (l.drop k) = r)) (fun _ i => n - (intOf i).toNat)
  case atStart => exact ⟨0, -1, by omega, rfl, rfl, by omega, HS⟩
  case round =>
    clear HS
    obtain ⟨k, p, hk, rfl, rfl, hp, HR⟩ := hrel
    by_cases hlt : k < n
    · have hkz : k < l.length := by have := HL.out; omega
      obtain ⟨ad, u, rfl, _, hu, hcell⟩ := hr.at_ hlt
      rw [ic_get l k hkz] at hu
      injection hu with hu
      subst hu
      have hd := HR.out
      rw [List.drop_eq_getElem_cons hkz] at hd
      obtain ⟨z, hz⟩ : ∃ z, z = l[k] := ⟨_, rfl⟩
      rw [← hz] at hcell hd
      clear hz HR
      have h0n : decide (0 < n) = true := by simp; omega
      by_cases h1 : p < z
      · by_cases h2 : z < 4
        · have hd' := (rise_up h1 h2).symm.trans hd
          clear hd
          have HD := Lib.hid hd'; clear hd'
          go_wp2
          go_round
          case rel => exact ⟨k + 1, z, by omega, by go_num, rfl, by omega, HD⟩
          case measure => simp [intOf]; omega
        · have hd' : false = r := by rw [← hd]; simp [CM.riseG, h2]
          clear hd
          have HD := Lib.hid hd'; clear hd'
          go_wp2
          go_ret
          exact ⟨ret_eq HD.out, rfl⟩
      · have hd' : false = r := by rw [← hd]; simp [CM.riseG, h1]
        clear hd
        have HD := Lib.hid hd'; clear hd'
        go_wp2
        go_ret
        exact ⟨ret_eq HD.out, rfl⟩
    · have hd : true = r := by have := HR.out; rw [List.drop_of_length_le (by have := HL.out; omega)] at this; simpa [CM.riseG] using this
      have HD := Lib.hid (show decide (0 < n) = (decide (0 < n) && r) by rw [← hd]; simp); clear hd
      go_wp2
      go_ret
      exact ⟨ret_eq HD.out, rfl⟩
end Go.Proofs.Ytodmpapfnilkoaa.CP

namespace Go.Proofs.Ytodmpapfnilkoaa
open Go.RowKit
set_option linter.unusedVariables false
set_option maxRecDepth 100000

/-- a bool, and only draws -/
def BoolQ (b : Bool) (w : World) (e : Ending) (w' : World) : Prop := e = .returned (.bool b) ∧ ∃ q, w' = w.drewN q
theorem take_snoc_eq {α : Type} {xs ys : List α} {k : Nat} {a b : α} (h : xs.take k = ys.take k) (h1 : xs[k]? = some a) (h2 : ys[k]? = some b) (e : a = b) : xs.take (k + 1) = ys.take (k + 1) := by
  have g1 := List.getElem?_eq_some_iff.1 h1
  have g2 := List.getElem?_eq_some_iff.1 h2
  obtain ⟨l1, g1⟩ := g1
  obtain ⟨l2, g2⟩ := g2
  rw [List.take_succ_eq_append_getElem l1, List.take_succ_eq_append_getElem l2, h, g1, g2, e]
theorem ne_of_at {α : Type} {xs ys : List α} {k : Nat} {a b : α} (h1 : xs[k]? = some a) (h2 : ys[k]? = some b) (e : a ≠ b) : xs ≠ ys := fun h => e (by rw [h, h2] at h1; injection h1 with h1; exact h1.symm)
theorem ic_at {zs : List Int} {k : Nat} {u : Value} (h : (ic zs)[k]? = some u) : ∃ z, zs[k]? = some z ∧ u = .int .i64 z := by
  simp only [ic, List.getElem?_map, Option.map_eq_some_iff] at h
  obtain ⟨z, h1, h2⟩ := h
  exact ⟨z, h1, h2.symm⟩

set_option maxHeartbeats 1000000 in
theorem equalI_any (A : Option Addr) (n c : Nat) (xs : List Int) (B : Option Addr) (m d : Nat) (ys : List Int) (w : World) (h1 : Rd w A n (ic xs)) (h2 : Rd w B m (ic ys)) (hm : n ≤ 9223372036854775807) (hm2 : m ≤ 9223372036854775807) :
    Calls Try.prog 79 #[.slice A n c, .slice B m d] w (BoolQ (decide (xs = ys)) w) := by
  have l1 : xs.length = n := by have := h1.1; rwa [ic_length] at this
  have l2 : ys.length = m := by have := h2.1; rwa [ic_length] at this
  obtain ⟨r, hr⟩ : ∃ r, r = decide (xs = ys) := ⟨_, rfl⟩
  rw [← hr]
  have HR := Lib.hid hr; clear hr
  by_cases hnm : n = m
  · subst hnm
    have HL1 := Lib.hid l1
    have HL2 := Lib.hid l2
    clear l1 l2
    have hne : ((n : Int) != (n : Int)) = false := by simp
    have HS := Lib.hid (show xs.take 0 = ys.take 0 by simp)
    go_enter Try.func79, Try.ntmps79
    go_wp2
    go_loopw [13] (fun i wr => ∃ k q : Nat, k ≤ n ∧ i = .int .i64 k ∧ wr = w.drewN q ∧ Hid (xs.take k = ys.take k)) (fun i _ => n - (intOf i).toNat)
    case atStart => exact ⟨0, 0, by omega, rfl, rfl, HS⟩
    case round =>
      clear HS
      obtain ⟨k, q, hk, rfl, rfl, HT⟩ := hrel
      by_cases hlt : k < n
      · obtain ⟨ad1, u1, rfl, _, hu1, hcell1⟩ := h1.at_ hlt
        obtain ⟨ad2, u2, rfl, _, hu2, hcell2⟩ := h2.at_ hlt
        obtain ⟨z1, e1, rfl⟩ := ic_at hu1
        obtain ⟨z2, e2, rfl⟩ := ic_at hu2
        have hk0 : (0 : Int) ≤ (k : Int) := by omega
        have hkn : (k : Int) < (n : Int) := by omega
        clear hu1 hu2
        by_cases he : z1 = z2
        · subst he
          have HT2 := Lib.hid (take_snoc_eq HT.out e1 e2 rfl)
          clear e1 e2 HT
          have hbz : (z1 != z1) = false := by simp
          go_wp2_with fail
          go_quiet (fail)
          go_wp2_with fail
          go_roundw
          case rel => exact ⟨k + 1, q + nq, by omega, by go_num, by simp, HT2⟩
          case measure => simp [intOf]; omega
        · have HN := Lib.hid (ne_of_at e1 e2 he)
          have hbz : (z1 != z2) = true := by simpa using he
          clear e1 e2 HT he
          go_wp2_with fail
          go_quiet (fail)
          go_wp2_with fail
          go_ret
          exact ⟨by rw [HR.out]; simp [HN.out], q + nq, by simp⟩
      · obtain rfl : n = k := by omega
        have ht : xs = ys := by
          have := HT.out
          rwa [List.take_of_length_le (by have := HL1.out; omega), List.take_of_length_le (by have := HL2.out; omega)] at this
        have HE := Lib.hid ht; clear ht HT
        go_wp2
        go_ret
        exact ⟨by rw [HR.out]; simp [HE.out], q, rfl⟩
  · have hne : ((n : Int) != (m : Int)) = true := by simp; omega
    have hn : ¬ xs = ys := fun e => hnm (by rw [← l1, ← l2, e])
    have hf : r = false := by rw [HR.out]; simpa using hn
    have HF := Lib.hid hf
    clear hn hf
    clear l1 l2 h1 h2
    go_enter Try.func79, Try.ntmps79
    go_wp2
    go_ret
    exact ⟨by rw [HF.out]; rfl, 0, rfl⟩

end Go.Proofs.Ytodmpapfnilkoaa

namespace Go.Proofs.Ytodmpapfnilkoaa.CP
open Go.RowKit
open CM (Mg Cm)
set_option linter.unusedVariables false
set_option linter.unusedSimpArgs false
set_option maxRecDepth 100000

theorem equal_is (A B : Option Addr) (ca cb : Nat) (x y : List Int) (w : World) (h1 : Rd w A x.length (ic x)) (h2 : Rd w B y.length (ic y)) (hm : x.length ≤ maxLen) (hm2 : y.length ≤ maxLen) :
    Calls Try.prog 79 #[.slice A x.length ca, .slice B y.length cb] w (BoolIs (decide (x = y)) w) := by
  unfold maxLen at hm hm2
  refine (equalI_any A x.length ca x B y.length cb y w h1 h2 (by omega) (by omega)).mono ?_
  rintro e w' ⟨rfl, q, rfl⟩
  exact ⟨rfl, drewN_below w q⟩
set_option maxHeartbeats 4000000 in
theorem psameMg_any (a b : Mg) (va vb : Value) (w : World) (ha : MgIs w va a) (hb : MgIs w vb b) :
    Calls Try.prog 63 #[va, vb] w (BoolIs (decide (a = b)) w) := by
  obtain ⟨A, c, rfl, r1, r1c, r1m⟩ := ha
  obtain ⟨B, d, rfl, r2, r2c, r2m⟩ := hb
  obtain ⟨ai, ag, at', ak, ab⟩ := a
  obtain ⟨bi, bg, bt, bk, bb⟩ := b
  simp only at r1 r1c r2 r2c
  have hiff : ((⟨ai, ag, at', ak, ab⟩ : Mg) = ⟨bi, bg, bt, bk, bb⟩) ↔ (ai = bi ∧ ag = bg ∧ at' = bt ∧ ak = bk ∧ ab = bb) := by simp
  have hno : ¬ (ai = bi ∧ ag = bg ∧ at' = bt ∧ ak = bk ∧ ab = bb) → false = decide ((⟨ai, ag, at', ak, ab⟩ : Mg) = ⟨bi, bg, bt, bk, bb⟩) := fun h => by
    have : ¬ ((⟨ai, ag, at', ak, ab⟩ : Mg) = ⟨bi, bg, bt, bk, bb⟩) := fun e => h (hiff.1 e)
    rw [decide_eq_false this]
  have hyes : (ai = bi ∧ ag = bg ∧ at' = bt ∧ ak = bk ∧ ab = bb) → true = decide ((⟨ai, ag, at', ak, ab⟩ : Mg) = ⟨bi, bg, bt, bk, bb⟩) := fun h => by
    rw [decide_eq_true (hiff.2 h)]
  have HNO := Lib.hid hno
  have HYES := Lib.hid hyes
  clear hno hyes hiff
  generalize decide ((⟨ai, ag, at', ak, ab⟩ : Mg) = ⟨bi, bg, bt, bk, bb⟩) = r at HNO HYES ⊢
  show Calls _ _ #[.agg #[.int .i64 ai, .slice A ag.length c, .int .i64 at', .string ak, .string ab], .agg #[.int .i64 bi, .slice B bg.length d, .int .i64 bt, .string bk, .string bb]] _ _
  have hb0 : ∀ o1 o2 : Obj, Below w.heap.size w ((w.alloc o1).alloc o2) := fun o1 o2 => ((Below.refl _ _).alloc (Nat.le_refl _) _).alloc (by simp) _
  have hs : ∀ o1 o2 : Obj, ((w.alloc o1).alloc o2).heap.size = w.heap.size + 2 := fun _ _ => by simp
  have hX : Box ((w.alloc (.cells #[.int .i64 ai, .slice A ag.length c, .int .i64 at', .string ak, .string ab] 27)).alloc (.cells #[.int .i64 bi, .slice B bg.length d, .int .i64 bt, .string bk, .string bb] 27)) w.heap.size 27 #[.int .i64 ai, .slice A ag.length c, .int .i64 at', .string ak, .string ab] := (Box.new _ _ _).alloc _
  have hY : Box ((w.alloc (.cells #[.int .i64 ai, .slice A ag.length c, .int .i64 at', .string ak, .string ab] 27)).alloc (.cells #[.int .i64 bi, .slice B bg.length d, .int .i64 bt, .string bk, .string bb] 27)) (w.heap.size + 1) 27 #[.int .i64 bi, .slice B bg.length d, .int .i64 bt, .string bk, .string bb] := Box.new_at _ (by simp)
  have C := Lib.hid (equal_is A B c d ag bg _ (r1.below (hb0 (.cells #[.int .i64 ai, .slice A ag.length c, .int .i64 at', .string ak, .string ab] 27) (.cells #[.int .i64 bi, .slice B bg.length d, .int .i64 bt, .string bk, .string bb] 27))) (r2.below (hb0 _ _)) (by omega) (by omega))
  have HX := Lib.hid hX
  have HY := Lib.hid hY
  have HB := Lib.hid (hb0 (.cells #[.int .i64 ai, .slice A ag.length c, .int .i64 at', .string ak, .string ab] 27) (.cells #[.int .i64 bi, .slice B bg.length d, .int .i64 bt, .string bk, .string bb] 27))
  clear hX hY hb0 hs r1 r2
  go_enter Try.func63, Try.ntmps63
  go_upto_region 1 with (fail)
  generalize (w.alloc (.cells #[.int .i64 ai, .slice A ag.length c, .int .i64 at', .string ak, .string ab] 27)).alloc (.cells #[.int .i64 bi, .slice B bg.length d, .int .i64 bt, .string bk, .string bb] 27) = w1 at HX HY HB C ⊢
  have G1 := Lib.hid HX.out.lt
  have G2 := Lib.hid HY.out.lt
  generalize hg1 : w.heap.size + 1 = g1 at HY G2 ⊢
  clear hg1
  generalize hg0 : w.heap.size = g0 at HX G1 ⊢
  clear hg0
  by_cases h1 : ai = bi
  rotate_left
  · have HF := Lib.hid (HNO.out (fun h => h1 h.1))
    have b1 : (ai == bi) = false := by simpa using h1
    obtain ⟨x0, x1, x2, x3, x4⟩ := box_mg HX.out
    obtain ⟨y0, y1, y2, y3, y4⟩ := box_mg HY.out
    clear h1 HNO HYES C HX HY
    go_wp2_with fail
    go_ret
    exact bool_ret HF.out HB.out
  subst h1
  have b1 : (ai == ai) = true := by simp
  obtain ⟨x0, x1, x2, x3, x4⟩ := box_mg HX.out
  obtain ⟨y0, y1, y2, y3, y4⟩ := box_mg HY.out
  go_wp2_with fail
  refine (C.out).mono ?_
  rintro e w2 ⟨rfl, hb2⟩
  clear x0 x1 x2 x3 x4 y0 y1 y2 y3 y4
  obtain ⟨x0, x1, x2, x3, x4⟩ := box_mg (HX.out.below hb2 G1.out)
  obtain ⟨y0, y1, y2, y3, y4⟩ := box_mg (HY.out.below hb2 G2.out)
  replace HB := Lib.hid (HB.out.trans (hb2.mono HB.out.size))
  clear C HX HY G1 G2 hb2
  by_cases h2 : ag = bg
  rotate_left
  · have HF := Lib.hid (HNO.out (fun h => h2 h.2.1))
    have b2 : decide (ag = bg) = false := by simpa using h2
    rw [b2]
    clear h2 HNO HYES b2
    go_wp2_with fail
    go_ret
    exact bool_ret HF.out HB.out
  rw [decide_eq_true h2]
  by_cases h3 : at' = bt
  rotate_left
  · have HF := Lib.hid (HNO.out (fun h => h3 h.2.2.1))
    have b3 : (at' == bt) = false := by simpa using h3
    clear h2 h3 HNO HYES
    go_wp2_with fail
    go_ret
    exact bool_ret HF.out HB.out
  subst h3
  have b3 : (at' == at') = true := by simp
  by_cases h4 : ak = bk
  rotate_left
  · have HF := Lib.hid (HNO.out (fun h => h4 h.2.2.2.1))
    have b4 := text_ne h4
    clear h2 HNO HYES
    go_wp2_with fail
    go_ret
    exact bool_ret HF.out HB.out
  subst h4
  have b4 : (ak.toList == ak.toList) = true := by simp
  by_cases h5 : ab = bb
  rotate_left
  · have HF := Lib.hid (HNO.out (fun h => h5 h.2.2.2.2))
    have b5 := text_ne h5
    clear h2 HNO HYES
    go_wp2_with fail
    go_ret
    exact bool_ret HF.out HB.out
  subst h5
  have b5 : (ab.toList == ab.toList) = true := by simp
  have HF := Lib.hid (HYES.out ⟨by simp, h2, by simp, by simp, by simp⟩)
  clear h2 HNO HYES
  go_wp2_with fail
  go_ret
  exact bool_ret HF.out HB.out
end Go.Proofs.Ytodmpapfnilkoaa.CP
