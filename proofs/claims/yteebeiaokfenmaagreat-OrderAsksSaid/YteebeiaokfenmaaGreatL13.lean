/- Contracts of functions, L13: each as its theorem says. -/
import Derived.Test.YteebeiaokfenmaaGreatL12
set_option linter.unusedVariables false
set_option linter.unusedSimpArgs false
set_option maxRecDepth 100000
set_option maxHeartbeats 16000000
namespace Go.Proofs.YteebeiaokfenmaaGreat
namespace CP
open Go.RowKit
open CM (Mg Cm)
def Fl (k : Int) (a b c d e i : Bool) : Prop :=
 (k = 0 ∧ a = false ∧ b = false ∧ c = false ∧ d = false ∧ e = false ∧ i = true) ∨ (k = 1 ∧ a = true ∧ b = false ∧ c = false ∧ d = false ∧ e = false ∧ i = true) ∨
 (k = 2 ∧ a = false ∧ b = true ∧ c = false ∧ d = false ∧ e = false ∧ i = true) ∨ (k = 3 ∧ a = false ∧ b = false ∧ c = true ∧ d = false ∧ e = false ∧ i = true) ∨
 (k = 4 ∧ a = false ∧ b = false ∧ c = false ∧ d = true ∧ e = true ∧ i = true) ∨ (k = 5 ∧ a = false ∧ b = false ∧ c = false ∧ d = true ∧ e = false ∧ i = true) ∨
 (k = 6 ∧ a = false ∧ b = false ∧ c = false ∧ d = true ∧ e = false ∧ i = true) ∨
 ((k ≠ 0 ∧ k ≠ 1 ∧ k ≠ 2 ∧ k ≠ 3 ∧ k ≠ 4 ∧ k ≠ 5 ∧ k ≠ 6) ∧ a = false ∧ b = false ∧ c = false ∧ d = false ∧ e = false ∧ i = false)
theorem fl_ex (k : Int) : ∃ a b c d e i, Fl k a b c d e i := by
 unfold Fl
 by_cases h0 : k = 0
 ·exact ⟨_, _, _, _, _, _, .inl ⟨h0, rfl, rfl, rfl, rfl, rfl, rfl⟩⟩
 by_cases h1 : k = 1
 ·exact ⟨_, _, _, _, _, _, .inr (.inl ⟨h1, rfl, rfl, rfl, rfl, rfl, rfl⟩)⟩
 by_cases h2 : k = 2
 ·exact ⟨_, _, _, _, _, _, .inr (.inr (.inl ⟨h2, rfl, rfl, rfl, rfl, rfl, rfl⟩))⟩
 by_cases h3 : k = 3
 ·exact ⟨_, _, _, _, _, _, .inr (.inr (.inr (.inl ⟨h3, rfl, rfl, rfl, rfl, rfl, rfl⟩)))⟩
 by_cases h4 : k = 4
 ·exact ⟨_, _, _, _, _, _, .inr (.inr (.inr (.inr (.inl ⟨h4, rfl, rfl, rfl, rfl, rfl, rfl⟩))))⟩
 by_cases h5 : k = 5
 ·exact ⟨_, _, _, _, _, _, .inr (.inr (.inr (.inr (.inr (.inl ⟨h5, rfl, rfl, rfl, rfl, rfl, rfl⟩)))))⟩
 by_cases h6 : k = 6
 ·exact ⟨_, _, _, _, _, _, .inr (.inr (.inr (.inr (.inr (.inr (.inl ⟨h6, rfl, rfl, rfl, rfl, rfl, rfl⟩))))))⟩
 exact ⟨_, _, _, _, _, _, .inr (.inr (.inr (.inr (.inr (.inr (.inr ⟨⟨h0, h1, h2, h3, h4, h5, h6⟩, rfl, rfl, rfl, rfl, rfl, rfl⟩))))))⟩
def FlIs (a b c d e i : Bool) (w : World) (x : Ending) (w' : World) : Prop := x = .returned (.tuple #[.agg #[.bool a, .bool b, .bool c, .bool d, .bool e], .bool i]) ∧ Below w.heap.size w w'
theorem fl_ret {a b c d e i : Bool} (w : World) (tmps : Array Value) (h2 : tmps[2]?.getD undef = .pointer (some ⟨w.heap.size, 0, none⟩)) (h3 : tmps[3]?.getD undef = .bool i) :
  bodyPost Tryz.prog Tryz.f69 (FlIs a b c d e i w) .ret ⟨tmps, []⟩ (w.alloc (.cells #[.bool a, .bool b, .bool c, .bool d, .bool e] 126)) := by
 have X := Box.new w 126 #[.bool a, .bool b, .bool c, .bool d, .bool e]
 obtain ⟨d0, d1, d2, d3, d4⟩ := box_mg X
 exact bodyPost_ret (v := .tuple #[.agg #[.bool a, .bool b, .bool c, .bool d, .bool e], .bool i]) (by simp [results, Tryz.results69, go_sem, h2, h3, d0, d1, d2, d3, d4]; try rfl) rfl ⟨rfl, (Below.refl _ _).alloc n! _⟩
theorem fields_any {k : Int} {a b c d e i : Bool} (h : Fl k a b c d e i) (w : World) : Calls Tryz.prog 69 #[.int .u8 k] w (FlIs a b c d e i w) := by
 rcases h with ⟨rfl, rfl, rfl, rfl, rfl, rfl, rfl⟩ | ⟨rfl, rfl, rfl, rfl, rfl, rfl, rfl⟩ | ⟨rfl, rfl, rfl, rfl, rfl, rfl, rfl⟩ | ⟨rfl, rfl, rfl, rfl, rfl, rfl, rfl⟩ | ⟨rfl, rfl, rfl, rfl, rfl, rfl, rfl⟩ | ⟨rfl, rfl, rfl, rfl, rfl, rfl, rfl⟩ | ⟨rfl, rfl, rfl, rfl, rfl, rfl, rfl⟩ | ⟨⟨h0, h1, h2, h3, h4, h5, h6⟩, rfl, rfl, rfl, rfl, rfl, rfl⟩
 all_goals
  try (
   have e0 : (k == 0) = false := by simpa using h0
   have e1 : (k == 1) = false := by simpa using h1
   have e2 : (k == 2) = false := by simpa using h2
   have e3 : (k == 3) = false := by simpa using h3
   have e4 : (k == 4) = false := by simpa using h4
   have e5 : (k == 5) = false := by simpa using h5
   have e6 : (k == 6) = false := by simpa using h6
   clear h0 h1 h2 h3 h4 h5 h6)
  go_enter Tryz.func69, Tryz.ntmps69
  go_wp2_with fail
  exact fl_ret w _ rfl rfl
theorem isNumber_any (h : Bool) (n a b : Int) (w : World) :
  Calls Tryz.prog 92 #[.bool h, .int .i64 n, .int .i64 a, .int .i64 b] w fun e w' => e = .returned (.bool (decide (if h = true then a ≤ n ∧ n ≤ b else n = 0))) ∧ w' = w := by
 cases h
 ·obtain ⟨r, hr⟩ : ∃ r, r = (n == 0) := ⟨_, rfl⟩
  have he : decide (if false = true then a ≤ n ∧ n ≤ b else n = 0) = r := by rw [hr]; by_cases h : n = 0 <;> simp [h]
  rw [he]
  have HR := h! hr
  clear hr he
  go_enter Tryz.func92, Tryz.ntmps92
  go_wp2
  go_ret
  exact ⟨ret_eq HR.out.symm, rfl⟩
 ·have he : decide (if true = true then a ≤ n ∧ n ≤ b else n = 0) = decide (a ≤ n ∧ n ≤ b) := by simp
  rw [he]
  clear he
  by_cases h1 : a ≤ n
  ·by_cases h2 : n ≤ b
   ·have hd : decide (a ≤ n ∧ n ≤ b) = true := by simp [h1, h2]
    rw [hd]
    go_enter Tryz.func92, Tryz.ntmps92
    go_wp2
    go_ret
    exact ⟨rfl, rfl⟩
   ·have hd : decide (a ≤ n ∧ n ≤ b) = false := by simp; omega
    rw [hd]
    go_enter Tryz.func92, Tryz.ntmps92
    go_wp2
    go_ret
    exact ⟨rfl, rfl⟩
  ·have hd : decide (a ≤ n ∧ n ≤ b) = false := by simp; omega
   rw [hd]
   go_enter Tryz.func92, Tryz.ntmps92
   go_wp2
   go_ret
   exact ⟨rfl, rfl⟩
theorem areGroups_any (A : Option Addr) (n c : Nat) (l : List Int) (w : World) (hr : Rd w A n (ic l)) (hm : n ≤ 9223372036854775807) :
  Calls Tryz.prog 62 #[.slice A n c] w fun e w' => e = .returned (.bool (decide (l ≠ []) && CM.riseG (-1) l)) ∧ w = w' := by
 obtain ⟨r, hrr⟩ : ∃ r, r = CM.riseG (-1) l := ⟨_, rfl⟩
 rw [← hrr]
 have hl : l.length = n := by have := hr.1; rwa [ic_length] at this
 have hne : decide (l ≠ []) = decide (0 < n) := by rw [← hl]; cases l <;> simp
 rw [hne]
 have HL := h! hl
 have hst : CM.riseG (-1) (l.drop 0) = r := by rw [hrr]; rfl
 clear hrr hl hne
 have HS := h! hst; clear hst
 go_enter Tryz.func62, Tryz.ntmps62
 go_wp2
 go_loop [3, 8] (fun a i => ∃ (k : Nat) (p : Int), k ≤ n ∧ i = .int .i64 k ∧ a = .int .i64 p ∧ -1 ≤ p ∧ Hid (CM.riseG p (l.drop k) = r)) (fun _ i => n - (intOf i).toNat)
 case atStart => exact ⟨0, -1, by omega, rfl, rfl, by omega, HS⟩
 case round =>
  clear HS
  obtain ⟨k, p, hk, rfl, rfl, hp, HR⟩ := hrel
  by_cases hlt : k < n
  ·have hkz : k < l.length := by have := HL.out; omega
   obtain ⟨ad, u, rfl, _, hu, hcell⟩ := hr.at_ hlt
   rw [ic_get l k hkz] at hu
   injection hu with hu
   subst hu
   have hd := HR.out
   rw [List.drop_eq_getElem_cons hkz] at hd
   obtain ⟨z, hz⟩ : ∃ z, z = l[k] := ⟨_, rfl⟩
   rw [← hz] at hcell hd
   clear hz HR
   have h0n : decide (0 < n) = true := by simp; omega
   by_cases h1 : p < z
   ·by_cases h2 : z < 4
    ·have hd' := (rise_up h1 h2).symm.trans hd
     clear hd
     have HD := h! hd'; clear hd'
     go_wp2
     go_round
     case rel => exact ⟨k + 1, z, by omega, by go_num, rfl, by omega, HD⟩
     case measure => simp [intOf]; omega
    ·have hd' : false = r := by rw [← hd]; simp [CM.riseG, h2]
     clear hd
     have HD := h! hd'; clear hd'
     go_wp2
     go_ret
     exact ⟨ret_eq HD.out, rfl⟩
   ·have hd' : false = r := by rw [← hd]; simp [CM.riseG, h1]
    clear hd
    have HD := h! hd'; clear hd'
    go_wp2
    go_ret
    exact ⟨ret_eq HD.out, rfl⟩
  ·have hd : true = r := by have := HR.out; rw [List.drop_of_length_le (by have := HL.out; omega)] at this; simpa [CM.riseG] using this
   have HD := h! (show decide (0 < n) = (decide (0 < n) && r) by rw [← hd]; simp); clear hd
   go_wp2
   go_ret
   exact ⟨ret_eq HD.out, rfl⟩
theorem equal_is (A B : Option Addr) (ca cb : Nat) (x y : List Int) (w : World) (h1 : Rd w A x.length (ic x)) (h2 : Rd w B y.length (ic y)) (hm : x.length ≤ maxLen) (hm2 : y.length ≤ maxLen) :
  Calls Tryz.prog 89 #[.slice A x.length ca, .slice B y.length cb] w (BoolIs (decide (x = y)) w) := by
 unfold maxLen at hm hm2
 refine (equalI_any A x.length ca x B y.length cb y w h1 h2 (by omega) (by omega)).mono ?_
 rintro e w' ⟨rfl, q, rfl⟩
 exact ⟨rfl, drewN_below w q⟩
theorem psameMg_any (a b : Mg) (va vb : Value) (w : World) (ha : MgIs w va a) (hb : MgIs w vb b) :
  Calls Tryz.prog 64 #[va, vb] w (BoolIs (decide (a = b)) w) := by
 obtain ⟨A, c, rfl, r1, r1c, r1m⟩ := ha
 obtain ⟨B, d, rfl, r2, r2c, r2m⟩ := hb
 obtain ⟨ai, ag, at', ak, ab⟩ := a
 obtain ⟨bi, bg, bt, bk, bb⟩ := b
 simp only at r1 r1c r2 r2c
 have hiff : ((⟨ai, ag, at', ak, ab⟩ : Mg) = ⟨bi, bg, bt, bk, bb⟩) ↔ (ai = bi ∧ ag = bg ∧ at' = bt ∧ ak = bk ∧ ab = bb) := by simp
 have hno : ¬ (ai = bi ∧ ag = bg ∧ at' = bt ∧ ak = bk ∧ ab = bb) → false = decide ((⟨ai, ag, at', ak, ab⟩ : Mg) = ⟨bi, bg, bt, bk, bb⟩) := fun h => by
  have : ¬ ((⟨ai, ag, at', ak, ab⟩ : Mg) = ⟨bi, bg, bt, bk, bb⟩) := fun e => h (hiff.1 e)
  rw [decide_eq_false this]
 have hyes : (ai = bi ∧ ag = bg ∧ at' = bt ∧ ak = bk ∧ ab = bb) → true = decide ((⟨ai, ag, at', ak, ab⟩ : Mg) = ⟨bi, bg, bt, bk, bb⟩) := fun h => by
  rw [decide_eq_true (hiff.2 h)]
 have HNO := h! hno
 have HYES := h! hyes
 clear hno hyes hiff
 generalize decide ((⟨ai, ag, at', ak, ab⟩ : Mg) = ⟨bi, bg, bt, bk, bb⟩) = r at HNO HYES ⊢
 show Calls _ _ #[.agg #[.int .i64 ai, .slice A ag.length c, .int .i64 at', .string ak, .string ab], .agg #[.int .i64 bi, .slice B bg.length d, .int .i64 bt, .string bk, .string bb]] _ _
 have hb0 : ∀ o1 o2 : Obj, Below w.heap.size w ((w.alloc o1).alloc o2) := fun o1 o2 => ((Below.refl _ _).alloc n! _).alloc (by simp) _
 have hs : ∀ o1 o2 : Obj, ((w.alloc o1).alloc o2).heap.size = w.heap.size + 2 := fun _ _ => by simp
 have hX : Box ((w.alloc (.cells #[.int .i64 ai, .slice A ag.length c, .int .i64 at', .string ak, .string ab] 33)).alloc (.cells #[.int .i64 bi, .slice B bg.length d, .int .i64 bt, .string bk, .string bb] 33)) w.heap.size 33 #[.int .i64 ai, .slice A ag.length c, .int .i64 at', .string ak, .string ab] := (Box.new _ _ _).alloc _
 have hY : Box ((w.alloc (.cells #[.int .i64 ai, .slice A ag.length c, .int .i64 at', .string ak, .string ab] 33)).alloc (.cells #[.int .i64 bi, .slice B bg.length d, .int .i64 bt, .string bk, .string bb] 33)) (w.heap.size + 1) 33 #[.int .i64 bi, .slice B bg.length d, .int .i64 bt, .string bk, .string bb] := Box.new_at _ (by simp)
 have C := h! (equal_is A B c d ag bg _ (r1.below (hb0 (.cells #[.int .i64 ai, .slice A ag.length c, .int .i64 at', .string ak, .string ab] 33) (.cells #[.int .i64 bi, .slice B bg.length d, .int .i64 bt, .string bk, .string bb] 33))) (r2.below (hb0 _ _)) (by omega) (by omega))
 have HX := h! hX
 have HY := h! hY
 have HB := h! (hb0 (.cells #[.int .i64 ai, .slice A ag.length c, .int .i64 at', .string ak, .string ab] 33) (.cells #[.int .i64 bi, .slice B bg.length d, .int .i64 bt, .string bk, .string bb] 33))
 clear hX hY hb0 hs r1 r2
 go_enter Tryz.func64, Tryz.ntmps64
 go_upto_region 1 with (fail)
 generalize (w.alloc (.cells #[.int .i64 ai, .slice A ag.length c, .int .i64 at', .string ak, .string ab] 33)).alloc (.cells #[.int .i64 bi, .slice B bg.length d, .int .i64 bt, .string bk, .string bb] 33) = w1 at HX HY HB C ⊢
 have G1 := h! HX.out.lt
 have G2 := h! HY.out.lt
 generalize hg1 : w.heap.size + 1 = g1 at HY G2 ⊢
 clear hg1
 generalize hg0 : w.heap.size = g0 at HX G1 ⊢
 clear hg0
 by_cases h1 : ai = bi
 rotate_left
 ·have HF := h! (HNO.out (fun h => h1 h.1))
  have b1 : (ai == bi) = false := by simpa using h1
  obtain ⟨x0, x1, x2, x3, x4⟩ := box_mg HX.out
  obtain ⟨y0, y1, y2, y3, y4⟩ := box_mg HY.out
  clear h1 HNO HYES C HX HY
  go_wp2_with fail
  go_ret
  exact bool_ret HF.out HB.out
 subst h1
 have b1 : (ai == ai) = true := by simp
 obtain ⟨x0, x1, x2, x3, x4⟩ := box_mg HX.out
 obtain ⟨y0, y1, y2, y3, y4⟩ := box_mg HY.out
 go_wp2_with fail
 refine (C.out).mono ?_
 rintro e w2 ⟨rfl, hb2⟩
 clear x0 x1 x2 x3 x4 y0 y1 y2 y3 y4
 obtain ⟨x0, x1, x2, x3, x4⟩ := box_mg (HX.out.below hb2 G1.out)
 obtain ⟨y0, y1, y2, y3, y4⟩ := box_mg (HY.out.below hb2 G2.out)
 replace HB := h! (HB.out.trans (hb2.mono HB.out.size))
 clear C HX HY G1 G2 hb2
 by_cases h2 : ag = bg
 rotate_left
 ·have HF := h! (HNO.out (fun h => h2 h.2.1))
  have b2 : decide (ag = bg) = false := by simpa using h2
  rw [b2]
  clear h2 HNO HYES b2
  go_wp2_with fail
  go_ret
  exact bool_ret HF.out HB.out
 rw [decide_eq_true h2]
 by_cases h3 : at' = bt
 rotate_left
 ·have HF := h! (HNO.out (fun h => h3 h.2.2.1))
  have b3 : (at' == bt) = false := by simpa using h3
  clear h2 h3 HNO HYES
  go_wp2_with fail
  go_ret
  exact bool_ret HF.out HB.out
 subst h3
 have b3 : (at' == at') = true := by simp
 by_cases h4 : ak = bk
 rotate_left
 ·have HF := h! (HNO.out (fun h => h4 h.2.2.2.1))
  have b4 := text_ne h4
  clear h2 HNO HYES
  go_wp2_with fail
  go_ret
  exact bool_ret HF.out HB.out
 subst h4
 have b4 : (ak.toList == ak.toList) = true := by simp
 by_cases h5 : ab = bb
 rotate_left
 ·have HF := h! (HNO.out (fun h => h5 h.2.2.2.2))
  have b5 := text_ne h5
  clear h2 HNO HYES
  go_wp2_with fail
  go_ret
  exact bool_ret HF.out HB.out
 subst h5
 have b5 : (ab.toList == ab.toList) = true := by simp
 have HF := h! (HYES.out ⟨by simp, h2, by simp, by simp, by simp⟩)
 clear h2 HNO HYES
 go_wp2_with fail
 go_ret
 exact bool_ret HF.out HB.out
theorem in_quiet (n a b : Int) (W : World) (v : Bool) (hv : decide (a ≤ n ∧ n < b) = v) (nq : Nat) : Calls Tryz.prog 77 #[.int .i64 n, .int .i64 a, .int .i64 b] (W.drewN nq) fun e w' => e = .returned (.bool v) ∧ ∃ m, w' = W.drewN m :=
 (In_any n a b (W.drewN nq)).mono fun e w' ⟨h1, h2⟩ => ⟨by rw [h1, hv], nq, h2⟩
theorem mayMessage_any (m : Mg) (v : Value) (w : World) (h : MgIs w v m) (hf : MgFit m) :
  Calls Tryz.prog 50 #[v] w (BoolIs (decide (CM.mgOk m)) w) := by
 obtain ⟨A, c, rfl, r1, r1c, r1m⟩ := h
 obtain ⟨mi, mg, mt, mk, mb⟩ := m
 obtain ⟨_, _, f1, f2⟩ := hf
 simp only at r1 r1c f1 f2
 unfold maxLen at r1m f1 f2
 have hiff : CM.mgOk ⟨mi, mg, mt, mk, mb⟩ ↔ (CM.idOk mi ∧ mg ≠ [] ∧ CM.riseG (-1) mg = true ∧ (0 ≤ mt ∧ mt < 4) ∧ mk.size ≤ 16 ∧ mb.size ≤ 64) := Iff.rfl
 have hno : ¬ (CM.idOk mi ∧ mg ≠ [] ∧ CM.riseG (-1) mg = true ∧ (0 ≤ mt ∧ mt < 4) ∧ mk.size ≤ 16 ∧ mb.size ≤ 64) → false = decide (CM.mgOk ⟨mi, mg, mt, mk, mb⟩) := fun h => by
  rw [decide_eq_false (fun e => h (hiff.1 e))]
 have hyes : (CM.idOk mi ∧ mg ≠ [] ∧ CM.riseG (-1) mg = true ∧ (0 ≤ mt ∧ mt < 4) ∧ mk.size ≤ 16 ∧ mb.size ≤ 64) → true = decide (CM.mgOk ⟨mi, mg, mt, mk, mb⟩) := fun h => by
  rw [decide_eq_true (hiff.2 h)]
 have HNO := h! hno
 have HYES := h! hyes
 clear hno hyes hiff
 generalize decide (CM.mgOk ⟨mi, mg, mt, mk, mb⟩) = r at HNO HYES ⊢
 show Calls _ _ #[.agg #[.int .i64 mi, .slice A mg.length c, .int .i64 mt, .string mk, .string mb]] _ _
 have hb0 : Below w.heap.size w (w.alloc (.cells #[.int .i64 mi, .slice A mg.length c, .int .i64 mt, .string mk, .string mb] 33)) := b!
 have HX := h! (Box.new w 33 #[.int .i64 mi, .slice A mg.length c, .int .i64 mt, .string mk, .string mb])
 have HR := h! (r1.below hb0)
 have HB := h! hb0
 clear r1 hb0
 go_enter Tryz.func50, Tryz.ntmps50
 go_upto_region 1 with (fail)
 generalize w.alloc (.cells #[.int .i64 mi, .slice A mg.length c, .int .i64 mt, .string mk, .string mb] 33) = w1 at HX HR HB ⊢
 generalize w.heap.size = g0 at HX ⊢
 obtain ⟨x0, x1, x2, x3, x4⟩ := box_mg HX.out
 obtain ⟨rg, hrg⟩ : ∃ rg, rg = CM.riseG (-1) mg := ⟨_, rfl⟩
 rw [← hrg] at HNO HYES
 have HS := h! (show CM.riseG (-1) (mg.drop 0) = rg from hrg.symm)
 clear hrg
 go_wp2_with fail
 clear x0 x1 x2 x3 x4
 have G1 := h! HX.out.lt
 go_loopw [3] (fun i wr => ∃ (k : Nat) (p : Int), k ≤ mg.length ∧ i = .int .i64 k ∧ Hid (Below w1.heap.size w1 wr) ∧ Hid (CM.riseG p (mg.drop k) = rg) ∧ Hid (k = 0 ∧ p = -1 ∨ 0 < k ∧ -1 ≤ p ∧ mg[k - 1]? = some p)) (fun i _ => mg.length - (intOf i).toNat)
 case atStart => exact ⟨0, -1, by omega, rfl, h! (Below.refl _ _), HS, h! (.inl ⟨rfl, rfl⟩)⟩
 case round =>
  clear HS
  obtain ⟨k, p, hk, rfl, HW, HQ, HP⟩ := hrel
  obtain ⟨x0, x1, x2, x3, x4⟩ := box_mg (HX.out.below HW.out G1.out)
  have HRW := h! (HR.out.below HW.out)
  replace HB := h! (HB.out.trans (HW.out.mono HB.out.size))
  by_cases hlt : k < mg.length
  ·obtain ⟨ad, u, rfl, _, hu, hcell⟩ := HRW.out.at_ hlt
   rw [ic_get mg k hlt] at hu
   injection hu with hu
   subst hu
   have hd := HQ.out
   rw [List.drop_eq_getElem_cons hlt] at hd
   have hzg : mg[k + 1 - 1]? = some mg[k] := by rw [Nat.add_sub_cancel]; exact List.getElem?_eq_getElem hlt
   obtain ⟨z, hz⟩ : ∃ z, z = mg[k] := ⟨_, rfl⟩
   rw [← hz] at hcell hd hzg
   clear hz HQ
   have HZG := h! hzg; clear hzg
   have hk0 : (0 : Int) ≤ (k : Int) := by omega
   have hkn : (k : Int) < (mg.length : Int) := by omega
   by_cases hin : 0 ≤ z ∧ z < 4
   ·have C := h! (in_quiet z 0 4 wr true (by simp; exact hin))
    have HIN := h! hin; clear hin
    rcases HP.out with ⟨hk1, hp⟩ | ⟨hk1, hp, hpz⟩
    ·have HD := h! ((rise_up (by have := HIN.out; omega) HIN.out.2).symm.trans hd)
     have hq1 : decide ((0 : Int) < (k : Int)) = false := by simp; omega
     have hq2 : decide (0 < k) = false := by simp; omega
     clear HP hk1 hp hd
     go_wp2_with fail
     go_quiet ((go_at_call 77; with_reducible exact C.out _))
     go_wp2_with fail
     go_roundw
     case rel => exact ⟨k + 1, z, by omega, by go_num, h! (below_drewN HW.out _), HD, h! (.inr ⟨by omega, by have := HIN.out; omega, HZG.out⟩)⟩
     case measure => simp [intOf]; omega
    ·have hkz1 : k - 1 < mg.length := by omega
     obtain ⟨ad2, u2, hA2, _, hu2, hcell2⟩ := HRW.out.at_ hkz1
     injection hA2 with hA2
     subst hA2
     have hu3 : u2 = .int .i64 p := by
      have : (ic mg)[k - 1]? = some (.int .i64 p) := by unfold ic; rw [List.getElem?_map, hpz]; rfl
      rw [this] at hu2
      injection hu2 with hu2
      exact hu2.symm
     subst hu3
     clear hu2 hkz1 hpz HP
     have hq1 : decide (0 < k) = true := by simp; omega
     have hq2 : decide ((0 : Int) < (k : Int)) = true := by simp; omega
     have s1 : IntKind.i64.wrap ((k : Int) - 1) = (k : Int) - 1 := IntWalk.i64_in _ ⟨by omega, by omega⟩
     have s2 : (0 : Int) ≤ (k : Int) - 1 := by omega
     have s3 : ((k : Int) - 1).toNat = k - 1 := by omega
     have s4 : (k : Int) - 1 < (mg.length : Int) := by omega
     by_cases hpl : p < z
     ·have HD := h! ((rise_up hpl HIN.out.2).symm.trans hd)
      have b2 : decide (z ≤ p) = false := by simp; omega
      clear hd
      go_wp2_with fail
      go_quiet ((go_at_call 77; with_reducible exact C.out _))
      clear s1 s3
      go_wp2_with fail
      go_roundw
      case rel => exact ⟨k + 1, z, by omega, by go_num, h! (below_drewN HW.out _), HD, h! (.inr ⟨by omega, by have := HIN.out; omega, HZG.out⟩)⟩
      case measure => simp [intOf]; omega
     ·have HD := h! ((rise_le (by omega)).symm.trans hd)
      have b2 : decide (z ≤ p) = true := by simp; omega
      clear hd
      go_wp2_with fail
      go_quiet ((go_at_call 77; with_reducible exact C.out _))
      clear s1 s3
      go_wp2_with fail
      go_ret
      exact bool_ret (HNO.out (fun h => by have := h.2.2.1; rw [← HD.out] at this; cases this)) (below_drewN HB.out _)
   ·have C := h! (in_quiet z 0 4 wr false (by simpa using hin))
    have HD := h! ((rise_no hin (by rcases HP.out with ⟨_, h⟩ | ⟨_, h, _⟩ <;> omega)).symm.trans hd)
    clear hd hin HP
    go_wp2_with fail
    go_quiet ((go_at_call 77; with_reducible exact C.out _))
    go_wp2_with fail
    go_ret
    exact bool_ret (HNO.out (fun h => by have := h.2.2.1; rw [← HD.out] at this; cases this)) (below_drewN HB.out _)
  ·have hrg : rg = true := by
    have := HQ.out
    rw [List.drop_of_length_le (by omega)] at this
    rw [← this]; rfl
   subst hrg
   clear HQ HP
   have CI := h! (Id_any mi)
   have CT := h! (In_any mt 0 4)
   by_cases g1 : mg = []
   ·have HF := h! (HNO.out (fun h => h.2.1 g1))
    have b1 : mg.length = 0 := by rw [g1]; rfl
    have b2 : (0 : Int) < (mg.length : Int) → False := fun h => by omega
    clear g1 HNO HYES
    go_wp2_with fail
    go_ret
    exact bool_ret HF.out HB.out
   have b1 : (0 : Int) < (mg.length : Int) := by have := List.length_pos_iff.2 g1; omega
   go_wp2_with fail
   refine (CI.out _).mono ?_
   rintro e w2 ⟨rfl, rfl⟩
   by_cases g2 : CM.idOk mi
   rotate_left
   ·have HF := h! (HNO.out (fun h => g2 h.1))
    rw [decide_eq_false g2]
    clear g2 HNO HYES
    go_wp2_with fail
    go_ret
    exact bool_ret HF.out HB.out
   rw [decide_eq_true g2]
   go_wp2_with fail
   refine (CT.out _).mono ?_
   rintro e w2 ⟨rfl, rfl⟩
   by_cases g3 : 0 ≤ mt ∧ mt < 4
   rotate_left
   ·have HF := h! (HNO.out (fun h => g3 h.2.2.2.1))
    rw [decide_eq_false g3]
    clear g3 HNO HYES
    go_wp2_with fail
    go_ret
    exact bool_ret HF.out HB.out
   rw [decide_eq_true g3]
   by_cases g4 : mk.size ≤ 16
   rotate_left
   ·have HF := h! (HNO.out (fun h => g4 h.2.2.2.2.1))
    have b4 : decide ((mk.size : Int) ≤ 16) = false := by simp; omega
    clear HNO HYES
    go_wp2_with fail
    go_ret
    exact bool_ret HF.out HB.out
   have b4 : decide ((mk.size : Int) ≤ 16) = true := by simp; omega
   by_cases g5 : mb.size ≤ 64
   rotate_left
   ·have HF := h! (HNO.out (fun h => g5 h.2.2.2.2.2))
    have b5 : decide ((mb.size : Int) ≤ 64) = false := by simp; omega
    clear HNO HYES
    go_wp2_with fail
    go_ret
    exact bool_ret HF.out HB.out
   have b5 : decide ((mb.size : Int) ≤ 64) = true := by simp; omega
   have HF := h! (HYES.out ⟨g2, g1, by simp, g3, g4, g5⟩)
   clear HNO HYES
   go_wp2_with fail
   go_ret
   exact bool_ret HF.out HB.out
end CP
section
open Go.RowKit
theorem text_len (s : ByteArray) : s.data.toList.length = s.size := by rw [Array.length_toList]; rfl
theorem text_ok (s : ByteArray) (w : World) (hs : s.size ≤ 4096) :
  Calls Tryz.prog 71 #[.string s] w fun e w' => ∃ v, e = .returned (.tuple #[v, .int .i64 0]) ∧ w'.ownsRow w.heap.size 5 1 v (NM.text s.data.toList).length (bc (NM.text s.data.toList)) ∧ Below w.heap.size w w' := by
 obtain ⟨i0, hi, hz0, hz1, hz2⟩ := info_parts info_u8
 have hl := NM.enc_le s.size
 go_enter Tryz.func71, Tryz.ntmps71
 go_wp2_with (first
  | (go_at_call 94; refine (appendNumber_any w.heap.size _ 0 [] s.size _ (by omega) (by omega) (World.ownsRow_nil _ _ _ _) n!).mono ?_; rintro e w1 ⟨v1, rfl, hown, hg, hob⟩; simp only [Nat.zero_add, List.nil_append] at hown)
  | (at_builtin; refine Lib.wpList_append_own_string _ rfl _ _ 120 9 rfl w.heap.size 5 i0 Tryz.underlying120 Tryz.underlying9 hi hz0 hz1 hz2 _ _ _ rfl hown s rfl (by unfold maxLen; omega) (by omega) hg.size ?_; intro v2 w2 hown2 hg2 _))
 go_ret2
 have hb := below_of_grown hg (by simp [Value.ownBlock])
 refine ⟨v2, rfl, ?_, ?_⟩
 ·rw [bc_str, ← bc_append] at hown2
  unfold NM.text
  rw [List.length_append, text_len]
  exact hown2
 ·exact hb.grown hg2 hb.size (fun k hk => by
   rcases hob with e | e
   ·have hk' : v1.ownBlock = some k := hk
    rw [e] at hk'; simp [Value.ownBlock] at hk'
   ·exact e k hk)
def textRes : Option (List UInt8 × Nat) → Value
 | none => .tuple #[.string ⟨#[]⟩, .int .i64 0, .int .i64 8]
 | some (t, k) => .tuple #[.string ⟨t.toArray⟩, .int .i64 k, .int .i64 0]
theorem getText_any (A : Option Addr) (n c : Nat) (l : List UInt8) (w : World) (hr : Rd w A n (bc l)) (hnc : n ≤ c) (hm : c ≤ maxLen) :
  Calls Tryz.prog 128 #[.slice A n c] w fun e w' => e = .returned (textRes (NM.getText l)) ∧ w = w' := by
 have hg := get_any A n c l w hr (Nat.le_trans hnc hm)
 unfold maxLen at hm
 have hl : l.length = n := by have := hr.1; rwa [bc_length] at this
 have HL := h! hl; clear hl
 rcases hd : NM.dec l with _ | ⟨x, k⟩
 ·rw [hd] at hg
  have hfin : NM.getText l = none := by unfold NM.getText; rw [hd]
  have HF := h! hfin; clear hfin hd
  have HG := h! hg; clear hg
  go_enter Tryz.func128, Tryz.ntmps128
  go_wp2_with (go_at_call 124; refine (HG.out).mono ?_; rintro e w' ⟨rfl, rfl⟩; unfold getRes)
  go_ret3
  rw [HF.out]
  exact ⟨rfl, rfl⟩
 ·have hb := NM.dec_bound l x k hd
  rw [hd] at hg
  obtain ⟨hx, hk1, hkl, hk6, _⟩ := hb
  rw [HL.out] at hkl
  have hfin : NM.getText l = if x ≤ 4096 ∧ x ≤ n - k then some ((l.drop k).take x, k + x) else none := by unfold NM.getText; rw [hd]; simp only [HL.out]
  have HF := h! hfin; clear hfin hd
  have HG := h! hg; clear hg
  by_cases h1 : x ≤ 4096
  ·by_cases h2 : x ≤ n - k
   ·have hkx : k + x ≤ n := by omega
    have hc1 : ∀ cap, (convert 120 9 (.slice (Option.map (fun x => x.add k) A) x cap)).run Tryz.prog w = .ok (.string ⟨((l.drop k).take x).toArray⟩) w := fun cap =>
     run_string_of w _ _ 5 _ _ cap ((l.drop k).take x) Tryz.underlying120 Tryz.underlying5 Tryz.underlying9 (by rw [← bc_take, ← bc_drop]; exact hr.mid hkx)
    obtain ⟨t, ht⟩ : ∃ t, t = (l.drop k).take x := ⟨_, rfl⟩
    rw [← ht] at hc1
    have HT := h! ht; clear ht
    have HR := h! hr; clear hr
    by_cases hck : c = k
    ·obtain rfl : x = 0 := by omega
     have hc2 : ∀ cap, (convert 120 9 (.slice A 0 cap)).run Tryz.prog w = .ok (.string ⟨t.toArray⟩) w := fun cap =>
      run_string_of w _ _ 5 _ _ cap t Tryz.underlying120 Tryz.underlying5 Tryz.underlying9 (by rw [HT.out]; simpa [bc] using Rd.nil)
     subst hck
     go_enter Tryz.func128, Tryz.ntmps128
     go_wp2_with (go_at_call 124; refine (HG.out).mono ?_; rintro e w' ⟨rfl, rfl⟩; unfold getRes)
     go_ret3
     rw [HF.out, if_pos (by omega), HT.out]
     exact ⟨rfl, rfl⟩
    ·go_enter Tryz.func128, Tryz.ntmps128
     go_wp2_with (go_at_call 124; refine (HG.out).mono ?_; rintro e w' ⟨rfl, rfl⟩; unfold getRes)
     go_ret3
     rw [HF.out, if_pos (by omega), HT.out]
     exact ⟨rfl, rfl⟩
   ·have h2' : (n : Int) - k < x := by omega
    go_enter Tryz.func128, Tryz.ntmps128
    go_wp2_with (go_at_call 124; refine (HG.out).mono ?_; rintro e w' ⟨rfl, rfl⟩; unfold getRes)
    go_ret3
    rw [HF.out, if_neg (by omega)]
    exact ⟨rfl, rfl⟩
  ·go_enter Tryz.func128, Tryz.ntmps128
   go_wp2_with (go_at_call 124; refine (HG.out).mono ?_; rintro e w' ⟨rfl, rfl⟩; unfold getRes)
   go_ret3
   rw [HF.out, if_neg (by omega)]
   exact ⟨rfl, rfl⟩
def okAll (zs : List Int) : Prop := ∀ z ∈ zs, 0 ≤ z ∧ z ≤ 1099511627776
def nats (zs : List Int) : List Nat := zs.map Int.toNat
theorem nats_length (zs : List Int) : (nats zs).length = zs.length := by simp [nats]
theorem nats_take (zs : List Int) (k : Nat) (h : k < zs.length) : nats (zs.take (k + 1)) = nats (zs.take k) ++ [zs[k].toNat] := by
 unfold nats
 rw [List.take_succ_eq_append_getElem h, List.map_append]; rfl
theorem okAll_take (zs : List Int) (k : Nat) (h : k < zs.length) (h1 : okAll (zs.take k)) (h2 : 0 ≤ zs[k] ∧ zs[k] ≤ 1099511627776) : okAll (zs.take (k + 1)) := by
 intro z hz
 rw [List.take_succ_eq_append_getElem h, List.mem_append] at hz
 rcases hz with hz | hz
 ·exact h1 z hz
 ·simp at hz; subst hz; exact h2
def IntsPost (w : World) (zs : List Int) (e : Ending) (w' : World) : Prop :=
 Below w.heap.size w w' ∧ ((okAll zs ∧ ∃ v, e = .returned (.tuple #[v, .int .i64 0]) ∧ w'.ownsRow w.heap.size 5 1 v (NM.ints (nats zs)).length (bc (NM.ints (nats zs)))) ∨
  (¬ okAll zs ∧ e = .returned (.tuple #[.slice none 0 0, .int .i64 2])))
def IntsRel (w : World) (zs : List Int) (k : Nat) (u : Value) (wr : World) : Prop :=
 okAll (zs.take k) ∧ wr.ownsRow w.heap.size 5 1 u (NM.enc zs.length ++ NM.body (nats (zs.take k))).length (bc (NM.enc zs.length ++ NM.body (nats (zs.take k)))) ∧ Below w.heap.size w wr
theorem intsRel_next {w wr w2 : World} {zs : List Int} {k x : Nat} {u v : Value} (hk : k < zs.length) (h : IntsRel w zs k u wr) (hx : zs[k] = (x : Int)) (hx2 : x ≤ 1099511627776)
  (ho : w2.ownsRow w.heap.size 5 1 v ((NM.enc zs.length ++ NM.body (nats (zs.take k))).length + (NM.enc x).length) (bc (NM.enc zs.length ++ NM.body (nats (zs.take k))) ++ bc (NM.enc x)))
  (hg : wr.grownBy w2 u.ownBlock) : IntsRel w zs (k + 1) v w2 := by
 obtain ⟨h1, h2, h3⟩ := h
 refine ⟨okAll_take zs k hk h1 (by rw [hx]; omega), ?_, ?_⟩
 ·rw [nats_take zs k hk, NM.body_snoc, hx, Int.toNat_natCast, ← List.append_assoc, bc_append (NM.enc zs.length ++ _), List.length_append (bs := NM.enc x)]
  exact ho
 ·refine h3.grown hg h3.size fun g hgu => ?_
  rcases h2.2 with ⟨rfl, _⟩ | ⟨g', cap, cur, rfl, hb, _⟩
  ·simp [Value.ownBlock] at hgu
  ·simp [Value.ownBlock] at hgu; omega
theorem ints_any (A : Option Addr) (n c : Nat) (zs : List Int) (w : World) (hr : Rd w A n (ic zs)) (hn : n ≤ 4096) :
  Calls Tryz.prog 70 #[.slice A n c] w (IntsPost w zs) := by
 have hl : zs.length = n := by have := hr.1; rwa [ic_length] at this
 have HL := h! hl
 go_enter Tryz.func70, Tryz.ntmps70
 go_wp2_with (go_at_call 94; refine (appendNumber_any w.heap.size _ 0 [] n _ (by omega) (by omega) (World.ownsRow_nil _ _ _ _) n!).mono ?_; rintro e w1 ⟨v1, rfl, hown, hg, hob⟩)
 have hstart : IntsRel w zs 0 v1 w1 := ⟨by intro z hz; simp at hz, by simpa [nats, NM.body, hl] using hown, below_of_grown hg (by simp [Value.ownBlock])⟩
 clear hown hg hob hl
 go_loopw [4, 15] (fun u i wr => ∃ k : Nat, k ≤ n ∧ i = .int .i64 k ∧ IntsRel w zs k u wr) (fun _ i _ => n - (intOf i).toNat)
 case atStart => exact ⟨0, by omega, rfl, hstart⟩
 case round =>
  clear hstart
  obtain ⟨k, hk, rfl, hrel⟩ := hrel
  by_cases hlt : k < n
  ·have hkl : k < zs.length := by have := HL.out; omega
   obtain ⟨ad, u, rfl, _, hu, hcell⟩ := (hr.below hrel.2.2).at_ hlt
   rw [ic_get zs k hkl] at hu
   injection hu with hu
   subst hu
   obtain ⟨z, hz⟩ : ∃ z, z = zs[k] := ⟨_, rfl⟩
   rw [← hz] at hcell
   have HZ := h! hz; clear hz
   by_cases hin : 0 ≤ z ∧ z ≤ 1099511627776
   ·obtain ⟨x, rfl⟩ := Int.eq_ofNat_of_zero_le hin.1
    have hx2 : x ≤ 1099511627776 := by omega
    have hle := NM.body_le (nats (zs.take k))
    rw [nats_length, List.length_take] at hle
    have hen := NM.enc_le zs.length
    have hlen : (NM.enc zs.length ++ NM.body (nats (zs.take k))).length ≤ 1000000 := by rw [List.length_append]; omega
    have HR := h! hrel; clear hrel
    clear hle hen
    have HI := h! hlen; clear hlen
    go_wp2_with (first
     | (go_at_call 93; refine (may_any _ _ hin).mono ?_; rintro e w' ⟨rfl, rfl⟩)
     | (go_at_call 94; refine (appendNumber_any w.heap.size _ _ _ x _ hx2 HI.out HR.out.2.1 HR.out.2.2.size).mono ?_; rintro e w1 ⟨v1, rfl, hown, hg, hob⟩))
    have hnext := intsRel_next hkl HR.out HZ.out.symm hx2 hown hg
    clear hown hg hob
    go_roundw
    case rel => exact ⟨k + 1, by omega, by go_num, hnext⟩
    case measure => simp [intOf]; omega
   ·have hb := hrel.2.2
    have HR := h! hrel; clear hrel
    go_wp2_with (go_at_call 93; refine (may_not _ _ hin).mono ?_; rintro e w' ⟨rfl, rfl⟩)
    go_ret2
    exact ⟨hb, .inr ⟨fun h => hin (by have := h zs[k] (List.getElem_mem hkl); rw [HZ.out]; exact this), rfl⟩⟩
  ·obtain ⟨h1, h2, h3⟩ := hrel
   rw [List.take_of_length_le (by have := HL.out; omega)] at h1 h2
   go_wp2
   go_ret2
   refine ⟨h3, .inl ⟨h1, _, rfl, ?_⟩⟩
   unfold NM.ints
   rw [nats_length]
   exact h2
end
end Go.Proofs.YteebeiaokfenmaaGreat
