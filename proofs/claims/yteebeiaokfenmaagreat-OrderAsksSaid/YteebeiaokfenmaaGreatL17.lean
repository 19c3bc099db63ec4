/- Contracts of functions, L17: each as its theorem says. -/
import Derived.Test.YteebeiaokfenmaaGreatL15
set_option linter.unusedVariables false
set_option linter.unusedSimpArgs false
set_option maxRecDepth 100000
set_option maxHeartbeats 16000000
namespace Go.Proofs.YteebeiaokfenmaaGreat
namespace CP
open Go.RowKit
open CM (Mg Cm)
def NumAt (w : World) (g : Nat) (l : List UInt8) : Prop := ∃ A n c, Box w g 120 #[.slice A n c] ∧ Src w g A n c l
def KeepN (w w' : World) (g : Nat) : Prop := ∃ w1 u, Below w.heap.size w w1 ∧ w' = w1.setCell ⟨g, 0, none⟩ u
theorem numAt_put {w : World} {g : Nat} {A : Option Addr} {n c : Nat} {l : List UInt8} {v : Value} (b : Box w g 120 #[v]) (h : Src w g A n c l) : NumAt (w.setCell ⟨g, 0, none⟩ (.slice A n c)) g l := by
 refine ⟨A, n, c, ?_, h.below ((Below.refl g w).setCell (p := ⟨g, 0, none⟩) (Nat.le_refl g) _)⟩
 have := b.stored 0 (.slice A n c)
 simpa using this
def NumPost (w : World) (g : Nat) (l : List UInt8) (e : Ending) (w' : World) : Prop := e = .returned (.int .i64 (RM.gt l).1) ∧ NumAt w' g (RM.gt l).2 ∧ KeepN w w' g
def TxtPost (w : World) (g : Nat) (l : List UInt8) (e : Ending) (w' : World) : Prop := e = .returned (.string ⟨(gx l).1.toArray⟩) ∧ NumAt w' g (gx l).2 ∧ KeepN w w' g
def LstPost (w : World) (g most : Nat) (l : List UInt8) (e : Ending) (w' : World) : Prop :=
 ∃ B d, e = .returned (.slice B (gl most l).1.length d) ∧ RowGe w' w.heap.size B d (CM.zs (gl most l).1) ∧ NumAt w' g (gl most l).2 ∧ KeepN w w' g
theorem keepN_one (w : World) (g : Nat) (u : Value) : KeepN w (w.setCell ⟨g, 0, none⟩ u) g := ⟨w, u, Below.refl _ _, rfl⟩
theorem number_any (g : Nat) (l : List UInt8) (w : World) (h : NumAt w g l) : Calls Tryz.prog 123 #[.pointer (some ⟨g, 0, none⟩)] w (NumPost w g l) := by
 obtain ⟨A, n, c, b, hs⟩ := h
 have hl := src_len hs
 have hn := hs.2.1
 have hc := hs.2.2.1
 have G := h! (get_any A n c l w hs.1 (by omega))
 have c1 := b.cell 0
 have f1 := b.frozen 0
 simp at c1
 unfold maxLen at hc
 rcases hd : NM.dec l with _ | ⟨x, k⟩
 ·have S := h! hs
  have B := h! b
  have HD := h! (show RM.gt l = (0, l) by unfold RM.gt; rw [hd])
  rw [hd] at G
  clear hs b hd hl
  go_enter Tryz.func123, Tryz.ntmps123
  go_wp2_with fail
  refine (G.out).mono ?_
  rintro e w1 ⟨rfl, rfl⟩
  unfold getRes
  go_wp2_with fail
  go_ret
  refine ⟨by rw [HD.out]; rfl, ?_, keepN_one _ _ _⟩
  rw [HD.out]
  exact numAt_put B.out S.out
 ·have hk := (NM.dec_bound l x k hd).2.2.1
  rw [hl] at hk
  have S := h! (hs.cut hk)
  have B := h! b
  have HD := h! (show RM.gt l = (x, l.drop k) by unfold RM.gt; rw [hd])
  rw [hd] at G
  clear hs b hd hl
  by_cases hck : c = k
  ·rw [if_pos hck] at S
   subst hck
   rw [Nat.sub_self, show n - c = 0 by omega] at S
   go_enter Tryz.func123, Tryz.ntmps123
   go_wp2_with fail
   refine (G.out).mono ?_
   rintro e w1 ⟨rfl, rfl⟩
   unfold getRes
   go_wp2_with fail
   go_ret
   refine ⟨by rw [HD.out]; rfl, ?_, keepN_one _ _ _⟩
   rw [HD.out]
   exact numAt_put B.out S.out
  ·rw [if_neg hck] at S
   go_enter Tryz.func123, Tryz.ntmps123
   go_wp2_with fail
   refine (G.out).mono ?_
   rintro e w1 ⟨rfl, rfl⟩
   unfold getRes
   go_wp2_with fail
   go_ret
   refine ⟨by rw [HD.out]; rfl, ?_, keepN_one _ _ _⟩
   rw [HD.out]
   exact numAt_put B.out S.out
theorem text_any (g : Nat) (l : List UInt8) (w : World) (h : NumAt w g l) : Calls Tryz.prog 127 #[.pointer (some ⟨g, 0, none⟩)] w (TxtPost w g l) := by
 obtain ⟨A, n, c, b, hs⟩ := h
 have hl := src_len hs
 have hn := hs.2.1
 have hc := hs.2.2.1
 have G := h! (getText_any A n c l w hs.1 hn hc)
 have c1 := b.cell 0
 have f1 := b.frozen 0
 simp at c1
 unfold maxLen at hc
 rcases hd : NM.getText l with _ | ⟨x, k⟩
 ·have S := h! hs
  have B := h! b
  have HD := h! (show gx l = ([], l) by unfold gx; rw [hd])
  rw [hd] at G
  clear hs b hd hl
  go_enter Tryz.func127, Tryz.ntmps127
  go_wp2_with fail
  refine (G.out).mono ?_
  rintro e w1 ⟨rfl, rfl⟩
  unfold textRes
  go_wp2_with fail
  go_ret
  refine ⟨by rw [HD.out]; rfl, ?_, keepN_one _ _ _⟩
  rw [HD.out]
  exact numAt_put B.out S.out
 ·have hk := (NM.text_getText l x k hd).2.1
  rw [hl] at hk
  have S := h! (hs.cut hk)
  have B := h! b
  have HD := h! (show gx l = (x, l.drop k) by unfold gx; rw [hd])
  rw [hd] at G
  clear hs b hd hl
  by_cases hck : c = k
  ·rw [if_pos hck] at S
   subst hck
   rw [Nat.sub_self, show n - c = 0 by omega] at S
   go_enter Tryz.func127, Tryz.ntmps127
   go_wp2_with fail
   refine (G.out).mono ?_
   rintro e w1 ⟨rfl, rfl⟩
   unfold textRes
   go_wp2_with fail
   go_ret
   refine ⟨by rw [HD.out]; rfl, ?_, keepN_one _ _ _⟩
   rw [HD.out]
   exact numAt_put B.out S.out
  ·rw [if_neg hck] at S
   go_enter Tryz.func127, Tryz.ntmps127
   go_wp2_with fail
   refine (G.out).mono ?_
   rintro e w1 ⟨rfl, rfl⟩
   unfold textRes
   go_wp2_with fail
   go_ret
   refine ⟨by rw [HD.out]; rfl, ?_, keepN_one _ _ _⟩
   rw [HD.out]
   exact numAt_put B.out S.out
theorem lst_fin {w w1 : World} {g : Nat} {A : Option Addr} {n c : Nat} {l : List UInt8} {v : Value} (hg : g < w.heap.size) (hb : Below w.heap.size w w1) (b : Box w g 120 #[v]) (h : Src w g A n c l) : NumAt (w1.setCell ⟨g, 0, none⟩ (.slice A n c)) g l :=
 numAt_put (b.below hb b.lt) (h.below (hb.mono (Nat.le_of_lt hg)))
theorem list_any (g most : Nat) (l : List UInt8) (w : World) (h : NumAt w g l) (hmost : most ≤ 4096) : Calls Tryz.prog 125 #[.int .i64 most, .pointer (some ⟨g, 0, none⟩)] w (LstPost w g most l) := by
 obtain ⟨A, n, c, b, hs⟩ := h
 have hl := src_len hs
 have hn := hs.2.1
 have hc := hs.2.2.1
 have G := h! (getInts_any A n c most l w hs.1 hn hc hmost)
 have HGL := h! b.lt
 have c1 := b.cell 0
 simp at c1
 unfold maxLen at hc
 rcases hd : NM.getInts l most with _ | ⟨x, k⟩
 ·have S := h! hs
  have B := h! b
  have HD := h! (show gl most l = ([], l) by unfold gl; rw [hd])
  rw [hd] at G
  clear hs b hd hl
  go_enter Tryz.func125, Tryz.ntmps125
  go_wp2_with fail
  refine (G.out).mono ?_
  rintro e w1 ⟨hb, ⟨_, rfl⟩ | ⟨_, _, _, h, _⟩⟩
  ·have b1 := B.out.below hb HGL.out
   have d1 := b1.cell 0
   have f1 := b1.frozen 0
   simp at d1
   have HB := h! hb
   clear hb b1
   go_wp2_with fail
   go_ret
   refine ⟨none, 0, by rw [HD.out]; rfl, ?_, ?_, ⟨w1, _, HB.out, rfl⟩⟩
   ·rw [HD.out]
    exact RowGe.none _ _
   ·rw [HD.out]
    exact lst_fin HGL.out HB.out B.out S.out
  ·cases h
 ·have hk := (NM.ints_getInts l most x k hd).2.2.1
  rw [hl] at hk
  have S := h! (hs.cut hk)
  have B := h! b
  have HD := h! (show gl most l = (x, l.drop k) by unfold gl; rw [hd])
  rw [hd] at G
  clear hs b hd hl
  by_cases hck : c = k
  ·rw [if_pos hck] at S
   subst hck
   rw [Nat.sub_self, show n - c = 0 by omega] at S
   go_enter Tryz.func125, Tryz.ntmps125
   go_wp2_with fail
   refine (G.out).mono ?_
   rintro e w1 ⟨hb, ⟨h, _⟩ | ⟨xs, k', u, h, rfl, ho⟩⟩
   ·cases h
   ·injection h with h
    injection h with h1 h2
    subst h1 h2
    obtain ⟨B2, d2, rfl, hd1, hd2⟩ := own_slice ho
    have HR := h! (rowGe_own (l := CM.zs x) ho (by simp [CM.zs]) (by simp [CM.zs]; exact hd1) hd2)
    have b1 := B.out.below hb HGL.out
    have e1 := b1.cell 0
    have f1 := b1.frozen 0
    simp at e1
    have HB := h! hb
    clear hb b1 ho hd1 hd2
    go_wp2_with fail
    go_ret
    refine ⟨B2, d2, by rw [HD.out]; rfl, ?_, ?_, ⟨w1, _, HB.out, rfl⟩⟩
    ·rw [HD.out]
     exact HR.out.set HGL.out _
    ·rw [HD.out]
     exact lst_fin HGL.out HB.out B.out S.out
  ·rw [if_neg hck] at S
   go_enter Tryz.func125, Tryz.ntmps125
   go_wp2_with fail
   refine (G.out).mono ?_
   rintro e w1 ⟨hb, ⟨h, _⟩ | ⟨xs, k', u, h, rfl, ho⟩⟩
   ·cases h
   ·injection h with h
    injection h with h1 h2
    subst h1 h2
    obtain ⟨B2, d2, rfl, hd1, hd2⟩ := own_slice ho
    have HR := h! (rowGe_own (l := CM.zs x) ho (by simp [CM.zs]) (by simp [CM.zs]; exact hd1) hd2)
    have b1 := B.out.below hb HGL.out
    have e1 := b1.cell 0
    have f1 := b1.frozen 0
    simp at e1
    have HB := h! hb
    clear hb b1 ho hd1 hd2
    go_wp2_with fail
    go_ret
    refine ⟨B2, d2, by rw [HD.out]; rfl, ?_, ?_, ⟨w1, _, HB.out, rfl⟩⟩
    ·rw [HD.out]
     exact HR.out.set HGL.out _
    ·rw [HD.out]
     exact lst_fin HGL.out HB.out B.out S.out
theorem pcheckMg_any (m : Mg) (v : Value) (w : World) (h : MgIs w v m) (hf : MgFit m) :
  Calls Tryz.prog 35 #[v] w (NumIs (if CM.mgOk m then 0 else 120) w) := by
 obtain ⟨A, c, rfl, r1, r1c, r1m⟩ := h
 obtain ⟨mi, mg, mt, mk, mb⟩ := m
 obtain ⟨_, _, f1, f2⟩ := hf
 simp only at r1 r1c f1 f2
 unfold maxLen at f1 f2 r1m
 have hiff : CM.mgOk ⟨mi, mg, mt, mk, mb⟩ ↔ ((0 ≤ mi ∧ mi < 6291456) ∧ mg ≠ [] ∧ CM.riseG (-1) mg = true ∧ (0 ≤ mt ∧ mt < 4) ∧ mk.size ≤ 16 ∧ mb.size ≤ 64) := Iff.rfl
 obtain ⟨y, hy⟩ : ∃ y : Int, y = if CM.mgOk ⟨mi, mg, mt, mk, mb⟩ then 0 else 120 := ⟨_, rfl⟩
 rw [← hy]
 have HNO := h! (show ¬ ((0 ≤ mi ∧ mi < 6291456) ∧ mg ≠ [] ∧ CM.riseG (-1) mg = true ∧ (0 ≤ mt ∧ mt < 4) ∧ mk.size ≤ 16 ∧ mb.size ≤ 64) → 120 = y from fun h => by rw [hy, if_neg (fun e => h (hiff.1 e))])
 have HYES := h! (show ((0 ≤ mi ∧ mi < 6291456) ∧ mg ≠ [] ∧ CM.riseG (-1) mg = true ∧ (0 ≤ mt ∧ mt < 4) ∧ mk.size ≤ 16 ∧ mb.size ≤ 64) → 0 = y from fun h => by rw [hy, if_pos (hiff.2 h)])
 clear hy hiff
 show Calls _ _ #[.agg #[.int .i64 mi, .slice A mg.length c, .int .i64 mt, .string mk, .string mb]] _ _
 have hb0 : Below w.heap.size w (w.alloc (.cells #[.int .i64 mi, .slice A mg.length c, .int .i64 mt, .string mk, .string mb] 33)) := b!
 have HX := h! (Box.new w 33 #[.int .i64 mi, .slice A mg.length c, .int .i64 mt, .string mk, .string mb])
 obtain ⟨g, hg⟩ : ∃ g, g = (decide (mg ≠ []) && CM.riseG (-1) mg) := ⟨_, rfl⟩
 have C := h! (areGroups_any A mg.length c mg _ (r1.below hb0) (by omega))
 rw [← hg] at C
 have HG := h! (show g = true ↔ mg ≠ [] ∧ CM.riseG (-1) mg = true by rw [hg]; simp)
 have HB := h! hb0
 clear hb0 r1 r1c r1m hg
 go_enter Tryz.func35, Tryz.ntmps35
 go_upto_region 1 with (fail)
 generalize w.alloc (.cells #[.int .i64 mi, .slice A mg.length c, .int .i64 mt, .string mk, .string mb] 33) = w1 at HX HB C ⊢
 generalize w.heap.size = g0 at HX ⊢
 obtain ⟨x0, x1, x2, x3, x4⟩ := box_mg HX.out
 clear HX
 by_cases h1 : mi < 0
 ·have HF := h! (HNO.out (fun h => by have := h.1.1; omega))
  clear HNO HYES
  go_wp2_with fail
  go_ret
  exact ⟨ret_int HF.out, HB.out⟩
 have n1 : 0 ≤ mi := by omega
 clear h1
 by_cases h2 : 6291455 < mi
 ·have HF := h! (HNO.out (fun h => by have := h.1.2; omega))
  clear HNO HYES
  go_wp2_with fail
  go_ret
  exact ⟨ret_int HF.out, HB.out⟩
 have n2 : mi ≤ 6291455 := by omega
 clear h2
 cases g
 ·have HF := h! (HNO.out (fun h => by have := HG.out.2 ⟨h.2.1, h.2.2.1⟩; cases this))
  clear HNO HYES HG
  go_wp2_with fail
  refine (C.out).mono ?_
  rintro e w2 ⟨rfl, rfl⟩
  go_wp2_with fail
  go_ret
  exact ⟨ret_int HF.out, HB.out⟩
 have HG2 := h! (HG.out.1 rfl)
 clear HG
 by_cases h4 : mt < 0
 ·have HF := h! (HNO.out (fun h => by have := h.2.2.2.1.1; omega))
  clear HNO HYES
  go_wp2_with fail
  refine (C.out).mono ?_
  rintro e w2 ⟨rfl, rfl⟩
  go_wp2_with fail
  go_ret
  exact ⟨ret_int HF.out, HB.out⟩
 have n4 : 0 ≤ mt := by omega
 clear h4
 by_cases h5 : 4 ≤ mt
 ·have HF := h! (HNO.out (fun h => by have := h.2.2.2.1.2; omega))
  clear HNO HYES
  go_wp2_with fail
  refine (C.out).mono ?_
  rintro e w2 ⟨rfl, rfl⟩
  go_wp2_with fail
  go_ret
  exact ⟨ret_int HF.out, HB.out⟩
 have n5 : mt < 4 := by omega
 clear h5
 by_cases h6 : 16 < mk.size
 ·have HF := h! (HNO.out (fun h => by have := h.2.2.2.2.1; omega))
  have h6i : (16 : Int) < (mk.size : Int) := by omega
  clear HNO HYES
  go_wp2_with fail
  refine (C.out).mono ?_
  rintro e w2 ⟨rfl, rfl⟩
  go_wp2_with fail
  go_ret
  exact ⟨ret_int HF.out, HB.out⟩
 have n6 : mk.size ≤ 16 := by omega
 clear h6
 have n6i : (mk.size : Int) ≤ (16 : Int) := by omega
 by_cases h7 : 64 < mb.size
 ·have HF := h! (HNO.out (fun h => by have := h.2.2.2.2.2; omega))
  have h7i : (64 : Int) < (mb.size : Int) := by omega
  clear HNO HYES
  go_wp2_with fail
  refine (C.out).mono ?_
  rintro e w2 ⟨rfl, rfl⟩
  go_wp2_with fail
  go_ret
  exact ⟨ret_int HF.out, HB.out⟩
 have n7 : mb.size ≤ 64 := by omega
 clear h7
 have n7i : (mb.size : Int) ≤ (64 : Int) := by omega
 have HF := h! (HYES.out ⟨⟨n1, by omega⟩, HG2.out.1, HG2.out.2, ⟨n4, n5⟩, n6, n7⟩)
 clear HNO HYES HG2
 go_wp2_with fail
 refine (C.out).mono ?_
 rintro e w2 ⟨rfl, rfl⟩
 go_wp2_with fail
 go_ret
 exact ⟨ret_int HF.out, HB.out⟩
theorem isMessage_any (h : Bool) (m : Mg) (v : Value) (w : World) (hm : MgIs w v m) (hf : MgFit m) :
  Calls Tryz.prog 90 #[.bool h, v] w (BoolIs (decide (if h = true then CM.mgOk m else m = CM.mz)) w) := by
 obtain ⟨A, c, rfl, r1⟩ := hm
 obtain ⟨mi, mg, mt, mk, mb⟩ := m
 simp only at r1
 show Calls _ _ #[.bool h, .agg #[.int .i64 mi, .slice A mg.length c, .int .i64 mt, .string mk, .string mb]] _ _
 have hb0 : Below w.heap.size w (w.alloc (.cells #[.int .i64 mi, .slice A mg.length c, .int .i64 mt, .string mk, .string mb] 33)) := b!
 have HX := h! (Box.new w 33 #[.int .i64 mi, .slice A mg.length c, .int .i64 mt, .string mk, .string mb])
 have C1 := h! (pcheckMg_any ⟨mi, mg, mt, mk, mb⟩ (.agg (mcells A c ⟨mi, mg, mt, mk, mb⟩)) _ ⟨A, c, rfl, r1.below hb0⟩ hf)
 have C2 := h! (psameMg_any ⟨mi, mg, mt, mk, mb⟩ CM.mz (.agg (mcells A c ⟨mi, mg, mt, mk, mb⟩)) _ _ ⟨A, c, rfl, r1.below hb0⟩ (mz_is _))
 unfold mcells at C1 C2
 simp only at C1 C2
 have HB := h! hb0
 clear hb0 r1 hf
 cases h
 ·have he : decide (if false = true then CM.mgOk ⟨mi, mg, mt, mk, mb⟩ else (⟨mi, mg, mt, mk, mb⟩ : Mg) = CM.mz) = decide ((⟨mi, mg, mt, mk, mb⟩ : Mg) = CM.mz) := by simp
  rw [he]
  clear he C1
  generalize decide ((⟨mi, mg, mt, mk, mb⟩ : Mg) = CM.mz) = r at C2 ⊢
  go_enter Tryz.func90, Tryz.ntmps90
  go_wp2_with fail
  refine (C2.out).mono ?_
  rintro e w2 ⟨rfl, hb2⟩
  replace HB := h! (HB.out.trans (hb2.mono HB.out.size))
  clear hb2 HX
  go_wp2_with fail
  go_ret
  exact ⟨rfl, HB.out⟩
 ·have he : decide (if true = true then CM.mgOk ⟨mi, mg, mt, mk, mb⟩ else (⟨mi, mg, mt, mk, mb⟩ : Mg) = CM.mz) = decide (CM.mgOk ⟨mi, mg, mt, mk, mb⟩) := by simp
  rw [he]
  clear he C2
  by_cases hk : CM.mgOk ⟨mi, mg, mt, mk, mb⟩
  ·rw [if_pos hk] at C1
   rw [decide_eq_true hk]
   clear hk
   go_enter Tryz.func90, Tryz.ntmps90
   go_wp2_with fail
   refine (C1.out).mono ?_
   rintro e w2 ⟨rfl, hb2⟩
   replace HB := h! (HB.out.trans (hb2.mono HB.out.size))
   clear hb2 HX
   go_wp2_with fail
   go_ret
   exact ⟨rfl, HB.out⟩
  ·rw [if_neg hk] at C1
   rw [decide_eq_false hk]
   clear hk
   go_enter Tryz.func90, Tryz.ntmps90
   go_wp2_with fail
   refine (C1.out).mono ?_
   rintro e w2 ⟨rfl, hb2⟩
   replace HB := h! (HB.out.trans (hb2.mono HB.out.size))
   clear hb2 HX
   go_wp2_with fail
   go_ret
   exact ⟨rfl, HB.out⟩
theorem areMembers_any (h : Bool) (A : Option Addr) (n c : Nat) (l : List Int) (w : World) (hr : Rd w A n (ic l)) (hm : n ≤ 9223372036854775807) :
  Calls Tryz.prog 91 #[.bool h, .slice A n c] w fun e w' => e = .returned (.bool (decide (if h = true then QM.may l = true else l = []))) ∧ w = w' := by
 have hl : l.length = n := by have := hr.1; rwa [ic_length] at this
 cases h
 ·have he : decide (if false = true then QM.may l = true else l = []) = ((n : Int) == 0) := by rw [← hl]; cases l <;> simp <;> omega
  rw [he]
  clear he hl hr
  go_enter Tryz.func91, Tryz.ntmps91
  go_wp2
  go_ret
  exact ⟨rfl, rfl⟩
 ·have he : decide (if true = true then QM.may l = true else l = []) = QM.may l := by cases QM.may l <;> simp
  rw [he]
  clear he
  obtain ⟨y, hy⟩ := QM.chkIs_ex l
  have C := h! (fun w' (hw : w' = w) => qcheck_any A n c l y w' (by rw [hw]; exact hr) hm hy)
  have HY := h! (show (y == 0) = QM.may l by rcases QM.chkIs_cases hy with ⟨rfl, h⟩ | ⟨h, rfl | rfl⟩ <;> rw [h] <;> rfl)
  clear hy hl hr
  go_enter Tryz.func91, Tryz.ntmps91
  go_wp2_with fail
  refine (C.out _ rfl).mono ?_
  rintro e w2 ⟨rfl, rfl⟩
  go_wp2_with fail
  go_ret
  exact ⟨ret_eq HY.out, rfl⟩
end CP
namespace KP
open Go.RowKit CP TP
open CM (Mg Cm)
open TM (Sp)
open KM (Wt Sk)
theorem rsame15_any (va vb : Value) (a b : Sk) (w : World) (h1 : SkIs w va a) (h2 : SkIs w vb b) : Calls Tryz.prog 21 #[va, vb] w (IsB (decide (a = b)) w) := by
 obtain ⟨A, c, D, e, rfl, r1, d1⟩ := h1
 obtain ⟨B, f, E, q, rfl, r2, d2⟩ := h2
 obtain ⟨ac, aw, ad⟩ := a
 obtain ⟨bc, bw, bd⟩ := b
 simp only at r1 d1 r2 d2
 obtain ⟨n, hna⟩ : ∃ n, n = aw.length := ⟨_, rfl⟩
 obtain ⟨m, hmb⟩ : ∃ m, m = bw.length := ⟨_, rfl⟩
 unfold vsk
 simp only
 rw [← hna] at r1 ⊢
 rw [← hmb] at r2 ⊢
 have HLA := h! hna
 have HLB := h! hmb
 clear hna hmb
 have hiff : ((⟨ac, aw, ad⟩ : Sk) = ⟨bc, bw, bd⟩) ↔ (ac = bc ∧ aw = bw ∧ ad = bd) := by simp
 obtain ⟨r, hr⟩ : ∃ r, r = decide ((⟨ac, aw, ad⟩ : Sk) = ⟨bc, bw, bd⟩) := ⟨_, rfl⟩
 rw [← hr]
 have HNO := h! (show ¬ (ac = bc ∧ aw = bw ∧ ad = bd) → r = false from fun h => by rw [hr]; exact decide_eq_false (fun k => h (hiff.1 k)))
 have HYES := h! (show (ac = bc ∧ aw = bw ∧ ad = bd) → r = true from fun h => by rw [hr]; exact decide_eq_true (hiff.2 h))
 clear hr hiff
 have hb0 : Below w.heap.size w ((w.alloc (.cells #[.int .i64 ac, .slice A n c, .slice D ad.length e] 39)).alloc (.cells #[.int .i64 bc, .slice B m f, .slice E bd.length q] 39)) := ((Below.refl _ _).alloc n! _).alloc (by simp) _
 have HB := h! hb0
 have X := h! ((Box.new w 39 #[.int .i64 ac, .slice A n c, .slice D ad.length e]).alloc (.cells #[.int .i64 bc, .slice B m f, .slice E bd.length q] 39))
 have Y := h! (Box.new_at (w := w.alloc (.cells #[.int .i64 ac, .slice A n c, .slice D ad.length e] 39)) (t := 39) (cs := #[.int .i64 bc, .slice B m f, .slice E bd.length q]) (w.heap.size + 1) (by simp))
 have H1 := h! (fun W (hb : Below w.heap.size w W) => r1.below hb)
 have H2 := h! (fun W (hb : Below w.heap.size w W) => r2.below hb)
 have KS := h! (fun W (hb : Below w.heap.size w W) => rsameStamps_any D E ad.length bd.length e q ad bd W (d1.below hb) (d2.below hb))
 have n1 := r1.small
 have n2 := r2.small
 have n3 := d1.small
 have n4 := d2.small
 clear r1 d1 r2 d2 hb0
 go_enter Tryz.func21, Tryz.ntmps21
 go_upto_region 1 with (fail)
 generalize (w.alloc (.cells #[.int .i64 ac, .slice A n c, .slice D ad.length e] 39)).alloc (.cells #[.int .i64 bc, .slice B m f, .slice E bd.length q] 39) = w1 at HB X Y ⊢
 generalize hg1 : w.heap.size + 1 = g1 at Y ⊢
 clear hg1
 generalize hg0 : w.heap.size = g0 at X ⊢
 clear hg0
 obtain ⟨x0, x1, x2⟩ := box_sk X.out
 obtain ⟨y0, y1, y2⟩ := box_sk Y.out
 by_cases hc : ac = bc
 rotate_left
 ·have HF := h! (HNO.out (fun h => hc h.1))
  have e1 : (ac != bc) = true := by simpa using hc
  clear hc
  go_wp2_with fail
  go_ret
  exact ⟨by rw [HF.out]; rfl, HB.out⟩
 have e1 : (ac != bc) = false := by simpa using hc
 have HC := h! hc
 clear hc
 by_cases hn : n = m
 rotate_left
 ·have HF := h! (HNO.out (fun h => hn (by have := HLA.out; have := HLB.out; rw [h.2.1] at *; omega)))
  have e2 : ((n : Int) != (m : Int)) = true := by simp; omega
  clear hn
  go_wp2_with fail
  go_ret
  exact ⟨by rw [HF.out]; rfl, HB.out⟩
 subst hn
 have e2 : ((n : Int) != (n : Int)) = false := by simp
 obtain ⟨d, hd⟩ : ∃ d, d = decide (ad = bd) := ⟨_, rfl⟩
 rw [← hd] at KS
 have HD := h! hd
 clear hd
 go_wp2_with fail
 refine (KS.out _ HB.out).mono ?_
 rintro e w2 ⟨rfl, hb⟩
 replace HB := h! (bmore HB.out hb n!)
 replace X := h! (X.out.below hb X.out.lt)
 replace Y := h! (Y.out.below hb Y.out.lt)
 clear hb KS x0 x1 x2 y0 y1 y2
 rcases d with _ | _
 ·have HF := h! (HNO.out (fun h => of_decide_eq_false HD.out.symm h.2.2))
  go_wp2_with fail
  go_ret
  exact ⟨by rw [HF.out]; rfl, HB.out⟩
 go_wp2_with fail
 go_loopw [5] (fun i wr => ∃ k : Nat, k ≤ n ∧ i = .int .i64 k ∧ Below w2.heap.size w2 wr ∧ Hid (aw.take k = bw.take k)) (fun i _ => n - (intOf i).toNat)
 case atStart => exact ⟨0, by omega, rfl, Below.refl _ _, h! rfl⟩
 case round =>
  obtain ⟨k, hk, rfl, hB, HT⟩ := hrel
  have HB2 := h! hB
  obtain ⟨x0, x1, x2⟩ := box_sk (X.out.below hB X.out.lt)
  obtain ⟨y0, y1, y2⟩ := box_sk (Y.out.below hB Y.out.lt)
  clear hB
  by_cases hlt : k < n
  ·obtain ⟨x, hx⟩ : ∃ x, aw[k]? = some x := ⟨_, List.getElem?_eq_getElem (by have := HLA.out; omega)⟩
   obtain ⟨y, hy⟩ : ∃ y, bw[k]? = some y := ⟨_, List.getElem?_eq_getElem (by have := HLB.out; omega)⟩
   have HXx := h! hx
   have HYy := h! hy
   obtain ⟨b1, o1, P1, q1, rfl, _, _, hat1, hr1⟩ := wts_at (H1.out _ (bmore HB.out HB2.out n!)) hx
   obtain ⟨b2, o2, P2, q2, rfl, _, _, hat2, hr2⟩ := wts_at (H2.out _ (bmore HB.out HB2.out n!)) hy
   obtain ⟨u0, u1, u2, u3, u4, u5, u6⟩ := hat1
   obtain ⟨v0, v1, v2, v3, v4, v5, v6⟩ := hat2
   clear hx hy
   have hk0 : (0 : Int) ≤ (k : Int) := by omega
   have hkn : (k : Int) < (n : Int) := by omega
   have C := h! (fun W (hb : Below wr.heap.size wr W) => sameMessage_any x.m y.m _ _ W ⟨P1, q1, rfl, hr1.below hb⟩ ⟨P2, q2, rfl, hr2.below hb⟩)
   have HNE := h! (fun h : x ≠ y => wt_ne h)
   clear hr1 hr2
   obtain ⟨⟨xi, xg, xt, xk, xb⟩, xm, xf⟩ := x
   obtain ⟨⟨yi, yg, yt, yk, yb⟩, ym, yf⟩ := y
   unfold mcells at C
   simp only at u0 u1 u2 u3 u4 u5 u6 v0 v1 v2 v3 v4 v5 v6 C
   go_upto_region 6 with (fail)
   go_cut [6, 7] (fun u v wx => Two wr (wcs P1 q1 ⟨⟨xi, xg, xt, xk, xb⟩, xm, xf⟩) (wcs P2 q2 ⟨⟨yi, yg, yt, yk, yb⟩, ym, yf⟩) u v wx)
   case first =>
    have HSS := h! (fun (w' : World) (h : Below wr.heap.size wr w') => show w'.cell? ⟨g0, 1, none⟩ = some (.slice (some ⟨b1, o1, none⟩) n c) ∧ w'.cell? ⟨g1, 1, none⟩ = some (.slice (some ⟨b2, o2, none⟩) n f) ∧ w'.cell? ⟨b1, o1 + k * 7, none⟩ = some (.int .i64 xi) ∧ w'.cell? ⟨b1, o1 + k * 7 + 1, none⟩ = some (.slice P1 xg.length q1) ∧ w'.cell? ⟨b1, o1 + k * 7 + 2, none⟩ = some (.int .i64 xt) ∧ w'.cell? ⟨b1, o1 + k * 7 + 3, none⟩ = some (.string xk) ∧ w'.cell? ⟨b1, o1 + k * 7 + 4, none⟩ = some (.string xb) ∧ w'.cell? ⟨b1, o1 + k * 7 + 5, none⟩ = some (.int .i64 xm) ∧ w'.cell? ⟨b1, o1 + k * 7 + 6, none⟩ = some (.bool xf) ∧ w'.cell? ⟨b2, o2 + k * 7, none⟩ = some (.int .i64 yi) ∧ w'.cell? ⟨b2, o2 + k * 7 + 1, none⟩ = some (.slice P2 yg.length q2) ∧ w'.cell? ⟨b2, o2 + k * 7 + 2, none⟩ = some (.int .i64 yt) ∧ w'.cell? ⟨b2, o2 + k * 7 + 3, none⟩ = some (.string yk) ∧ w'.cell? ⟨b2, o2 + k * 7 + 4, none⟩ = some (.string yb) ∧ w'.cell? ⟨b2, o2 + k * 7 + 5, none⟩ = some (.int .i64 ym) ∧ w'.cell? ⟨b2, o2 + k * 7 + 6, none⟩ = some (.bool yf) from
     ⟨(h.cell (cell_block x1)).trans x1, (h.cell (cell_block y1)).trans y1, (h.cell (cell_block u0)).trans u0, (h.cell (cell_block u1)).trans u1, (h.cell (cell_block u2)).trans u2, (h.cell (cell_block u3)).trans u3, (h.cell (cell_block u4)).trans u4, (h.cell (cell_block u5)).trans u5, (h.cell (cell_block u6)).trans u6, (h.cell (cell_block v0)).trans v0, (h.cell (cell_block v1)).trans v1, (h.cell (cell_block v2)).trans v2, (h.cell (cell_block v3)).trans v3, (h.cell (cell_block v4)).trans v4, (h.cell (cell_block v5)).trans v5, (h.cell (cell_block v6)).trans v6⟩)
    have bb1 : Below wr.heap.size wr wr.drew := (Below.refl _ _).drew
    obtain ⟨ud, hud⟩ : ∃ ud, ud = wr.drew := ⟨_, rfl⟩
    have hsz : wr.heap.size = ud.heap.size := by rw [hud]; rfl
    refine wp_region_held_drew (S := fun w' => w'.cell? ⟨g0, 1, none⟩ = some (.slice (some ⟨b1, o1, none⟩) n c) ∧ w'.cell? ⟨g1, 1, none⟩ = some (.slice (some ⟨b2, o2, none⟩) n f) ∧ w'.cell? ⟨b1, o1 + k * 7, none⟩ = some (.int .i64 xi) ∧ w'.cell? ⟨b1, o1 + k * 7 + 1, none⟩ = some (.slice P1 xg.length q1) ∧ w'.cell? ⟨b1, o1 + k * 7 + 2, none⟩ = some (.int .i64 xt) ∧ w'.cell? ⟨b1, o1 + k * 7 + 3, none⟩ = some (.string xk) ∧ w'.cell? ⟨b1, o1 + k * 7 + 4, none⟩ = some (.string xb) ∧ w'.cell? ⟨b1, o1 + k * 7 + 5, none⟩ = some (.int .i64 xm) ∧ w'.cell? ⟨b1, o1 + k * 7 + 6, none⟩ = some (.bool xf) ∧ w'.cell? ⟨b2, o2 + k * 7, none⟩ = some (.int .i64 yi) ∧ w'.cell? ⟨b2, o2 + k * 7 + 1, none⟩ = some (.slice P2 yg.length q2) ∧ w'.cell? ⟨b2, o2 + k * 7 + 2, none⟩ = some (.int .i64 yt) ∧ w'.cell? ⟨b2, o2 + k * 7 + 3, none⟩ = some (.string yk) ∧ w'.cell? ⟨b2, o2 + k * 7 + 4, none⟩ = some (.string yb) ∧ w'.cell? ⟨b2, o2 + k * 7 + 5, none⟩ = some (.int .i64 ym) ∧ w'.cell? ⟨b2, o2 + k * 7 + 6, none⟩ = some (.bool yf)) (by kernel_rfl) (HSS.out _ bb1) (fun hHeld => ?_)
    rw [← hud] at bb1 hHeld ⊢
    clear hud
    refine qT 0 ?_; try simp only [Act.put, qq]
    refine qT 1 ?_; try simp only [Act.put, qq]
    refine qT 2 ?_; try simp only [Act.put, qq]
    refine qT 3 ?_; try simp only [Act.put, qq]
    refine qT 4 ?_; try simp only [Act.put, qq]
    refine qT 5 ?_; try simp only [Act.put, qq]
    refine qT 6 ?_; try simp only [Act.put, qq]
    refine qT 7 ?_; try simp only [Act.put, qq]
    refine qT 8 ?_; try simp only [Act.put, qq]
    refine qT 9 ?_; try simp only [Act.put, qq]
    refine wpAnyH_ready (rs := [10, 11]) (by kernel_rfl) (by simp) ?_
    refine AllReadyH.cons rfl (fun K hK => ?_) (AllReadyH.cons rfl (fun K hK => ?_) AllReadyH.nil)
    ·go_simp
     have bb2 : Below wr.heap.size wr (ud.alloc (.cells #[.int .i64 0, .slice none 0 0, .int .i64 0, .string ⟨#[]⟩, .string ⟨#[]⟩, .int .i64 0, .bool false] 78)) := bb1.alloc bb1.size _
     refine hK.out _ _ (HSS.out _ bb2) (fun hHeld => ?_)
     clear hK
     try simp only [Act.put, qq]
     refine qR 11 fun K hK => ?_
     go_simp
     have bb3 : Below wr.heap.size wr ((ud.alloc (.cells #[.int .i64 0, .slice none 0 0, .int .i64 0, .string ⟨#[]⟩, .string ⟨#[]⟩, .int .i64 0, .bool false] 78)).alloc (.cells #[.int .i64 0, .slice none 0 0, .int .i64 0, .string ⟨#[]⟩, .string ⟨#[]⟩, .int .i64 0, .bool false] 78)) := bb2.alloc bb2.size _
     refine hK.out _ _ (HSS.out _ bb3) (fun hHeld => ?_)
     clear hK
     try simp only [Act.put, qq]
     have BP := h! (show Box ((ud.alloc (.cells #[.int .i64 0, .slice none 0 0, .int .i64 0, .string ⟨#[]⟩, .string ⟨#[]⟩, .int .i64 0, .bool false] 78)).alloc (.cells #[.int .i64 0, .slice none 0 0, .int .i64 0, .string ⟨#[]⟩, .string ⟨#[]⟩, .int .i64 0, .bool false] 78)) ud.heap.size 78 #[.int .i64 0, .slice none 0 0, .int .i64 0, .string ⟨#[]⟩, .string ⟨#[]⟩, .int .i64 0, .bool false] from (Box.new _ _ _).alloc _)
     have BQ := h! (show Box ((ud.alloc (.cells #[.int .i64 0, .slice none 0 0, .int .i64 0, .string ⟨#[]⟩, .string ⟨#[]⟩, .int .i64 0, .bool false] 78)).alloc (.cells #[.int .i64 0, .slice none 0 0, .int .i64 0, .string ⟨#[]⟩, .string ⟨#[]⟩, .int .i64 0, .bool false] 78)) (ud.heap.size + 1) 78 #[.int .i64 0, .slice none 0 0, .int .i64 0, .string ⟨#[]⟩, .string ⟨#[]⟩, .int .i64 0, .bool false] from Box.new_at _ (by simp))
     have bb4 := bb3
     clear bb2 bb3
     try simp only [World.size_alloc]
     generalize (ud.alloc (.cells #[.int .i64 0, .slice none 0 0, .int .i64 0, .string ⟨#[]⟩, .string ⟨#[]⟩, .int .i64 0, .bool false] 78)).alloc (.cells #[.int .i64 0, .slice none 0 0, .int .i64 0, .string ⟨#[]⟩, .string ⟨#[]⟩, .int .i64 0, .bool false] 78) = W2 at BP BQ bb4 hHeld ⊢
     have hp : wr.heap.size ≤ ud.heap.size := by omega
     have hq : wr.heap.size ≤ ud.heap.size + 1 := by omega
     have hpq : ud.heap.size ≠ ud.heap.size + 1 := by omega
     generalize ud.heap.size + 1 = q9 at BQ hq hpq ⊢
     generalize ud.heap.size = p9 at BP hp hpq ⊢
     obtain ⟨⟨z0, z1, z2, z3, z4, z5, z6⟩, f0, f1, f2, f3, f4, f5, f6⟩ := box_wtf BP.out
     refine qR 12 fun K hK => ?_
     go_simp
     have bb5 : Below wr.heap.size wr (pt7 W2 p9 (.int .i64 xi) (.slice P1 xg.length q1) (.int .i64 xt) (.string xk) (.string xb) (.int .i64 xm) (.bool xf)) := pt7_below bb4 hp (.int .i64 xi) (.slice P1 xg.length q1) (.int .i64 xt) (.string xk) (.string xb) (.int .i64 xm) (.bool xf)
     refine hK.out _ _ (HSS.out _ bb5) (fun hHeld => ?_)
     clear hK z0 z1 z2 z3 z4 z5 z6 f0 f1 f2 f3 f4 f5 f6
     try simp only [Act.put, qq]
     have BA := h! (pt7_box BP.out (.int .i64 xi) (.slice P1 xg.length q1) (.int .i64 xt) (.string xk) (.string xb) (.int .i64 xm) (.bool xf))
     have BB := h! (pt7_far BQ.out hpq.symm (.int .i64 xi) (.slice P1 xg.length q1) (.int .i64 xt) (.string xk) (.string xb) (.int .i64 xm) (.bool xf))
     unfold pt7 at bb5 BA BB
     generalize ((((((W2.setCell ⟨p9, 0, none⟩ (.int .i64 xi)).setCell ⟨p9, 1, none⟩ (.slice P1 xg.length q1)).setCell ⟨p9, 2, none⟩ (.int .i64 xt)).setCell ⟨p9, 3, none⟩ (.string xk)).setCell ⟨p9, 4, none⟩ (.string xb)).setCell ⟨p9, 5, none⟩ (.int .i64 xm)).setCell ⟨p9, 6, none⟩ (.bool xf) = W3 at bb5 BA BB hHeld ⊢
     obtain ⟨⟨z0, z1, z2, z3, z4, z5, z6⟩, f0, f1, f2, f3, f4, f5, f6⟩ := box_wtf BB.out
     refine qR 13 fun K hK => ?_
     go_simp
     have bb6 : Below wr.heap.size wr (pt7 W3 q9 (.int .i64 yi) (.slice P2 yg.length q2) (.int .i64 yt) (.string yk) (.string yb) (.int .i64 ym) (.bool yf)) := pt7_below bb5 hq (.int .i64 yi) (.slice P2 yg.length q2) (.int .i64 yt) (.string yk) (.string yb) (.int .i64 ym) (.bool yf)
     refine hK.out _ _ (HSS.out _ bb6) (fun hHeld => ?_)
     try simp only [Act.put, qq]
     refine wpAnyH_done (by kernel_rfl) ?_ _
     go_wp2_with fail
     go_meet
     case rel => exact ⟨p9, q9, rfl, rfl, pt7_far BA.out hpq (.int .i64 yi) (.slice P2 yg.length q2) (.int .i64 yt) (.string yk) (.string yb) (.int .i64 ym) (.bool yf), pt7_box BB.out (.int .i64 yi) (.slice P2 yg.length q2) (.int .i64 yt) (.string yk) (.string yb) (.int .i64 ym) (.bool yf), bb6⟩
    ·go_simp
     have bb2 : Below wr.heap.size wr (ud.alloc (.cells #[.int .i64 0, .slice none 0 0, .int .i64 0, .string ⟨#[]⟩, .string ⟨#[]⟩, .int .i64 0, .bool false] 78)) := bb1.alloc bb1.size _
     refine hK.out _ _ (HSS.out _ bb2) (fun hHeld => ?_)
     clear hK
     try simp only [Act.put, qq]
     refine qR 10 fun K hK => ?_
     go_simp
     have bb3 : Below wr.heap.size wr ((ud.alloc (.cells #[.int .i64 0, .slice none 0 0, .int .i64 0, .string ⟨#[]⟩, .string ⟨#[]⟩, .int .i64 0, .bool false] 78)).alloc (.cells #[.int .i64 0, .slice none 0 0, .int .i64 0, .string ⟨#[]⟩, .string ⟨#[]⟩, .int .i64 0, .bool false] 78)) := bb2.alloc bb2.size _
     refine hK.out _ _ (HSS.out _ bb3) (fun hHeld => ?_)
     clear hK
     try simp only [Act.put, qq]
     have BP := h! (show Box ((ud.alloc (.cells #[.int .i64 0, .slice none 0 0, .int .i64 0, .string ⟨#[]⟩, .string ⟨#[]⟩, .int .i64 0, .bool false] 78)).alloc (.cells #[.int .i64 0, .slice none 0 0, .int .i64 0, .string ⟨#[]⟩, .string ⟨#[]⟩, .int .i64 0, .bool false] 78)) ud.heap.size 78 #[.int .i64 0, .slice none 0 0, .int .i64 0, .string ⟨#[]⟩, .string ⟨#[]⟩, .int .i64 0, .bool false] from (Box.new _ _ _).alloc _)
     have BQ := h! (show Box ((ud.alloc (.cells #[.int .i64 0, .slice none 0 0, .int .i64 0, .string ⟨#[]⟩, .string ⟨#[]⟩, .int .i64 0, .bool false] 78)).alloc (.cells #[.int .i64 0, .slice none 0 0, .int .i64 0, .string ⟨#[]⟩, .string ⟨#[]⟩, .int .i64 0, .bool false] 78)) (ud.heap.size + 1) 78 #[.int .i64 0, .slice none 0 0, .int .i64 0, .string ⟨#[]⟩, .string ⟨#[]⟩, .int .i64 0, .bool false] from Box.new_at _ (by simp))
     have bb4 := bb3
     clear bb2 bb3
     try simp only [World.size_alloc]
     generalize (ud.alloc (.cells #[.int .i64 0, .slice none 0 0, .int .i64 0, .string ⟨#[]⟩, .string ⟨#[]⟩, .int .i64 0, .bool false] 78)).alloc (.cells #[.int .i64 0, .slice none 0 0, .int .i64 0, .string ⟨#[]⟩, .string ⟨#[]⟩, .int .i64 0, .bool false] 78) = W2 at BP BQ bb4 hHeld ⊢
     have hp : wr.heap.size ≤ ud.heap.size := by omega
     have hq : wr.heap.size ≤ ud.heap.size + 1 := by omega
     have hpq : ud.heap.size ≠ ud.heap.size + 1 := by omega
     generalize ud.heap.size + 1 = q9 at BQ hq hpq ⊢
     generalize ud.heap.size = p9 at BP hp hpq ⊢
     obtain ⟨⟨z0, z1, z2, z3, z4, z5, z6⟩, f0, f1, f2, f3, f4, f5, f6⟩ := box_wtf BQ.out
     refine qR 12 fun K hK => ?_
     go_simp
     have bb5 : Below wr.heap.size wr (pt7 W2 q9 (.int .i64 xi) (.slice P1 xg.length q1) (.int .i64 xt) (.string xk) (.string xb) (.int .i64 xm) (.bool xf)) := pt7_below bb4 hq (.int .i64 xi) (.slice P1 xg.length q1) (.int .i64 xt) (.string xk) (.string xb) (.int .i64 xm) (.bool xf)
     refine hK.out _ _ (HSS.out _ bb5) (fun hHeld => ?_)
     clear hK z0 z1 z2 z3 z4 z5 z6 f0 f1 f2 f3 f4 f5 f6
     try simp only [Act.put, qq]
     have BA := h! (pt7_box BQ.out (.int .i64 xi) (.slice P1 xg.length q1) (.int .i64 xt) (.string xk) (.string xb) (.int .i64 xm) (.bool xf))
     have BB := h! (pt7_far BP.out hpq (.int .i64 xi) (.slice P1 xg.length q1) (.int .i64 xt) (.string xk) (.string xb) (.int .i64 xm) (.bool xf))
     unfold pt7 at bb5 BA BB
     generalize ((((((W2.setCell ⟨q9, 0, none⟩ (.int .i64 xi)).setCell ⟨q9, 1, none⟩ (.slice P1 xg.length q1)).setCell ⟨q9, 2, none⟩ (.int .i64 xt)).setCell ⟨q9, 3, none⟩ (.string xk)).setCell ⟨q9, 4, none⟩ (.string xb)).setCell ⟨q9, 5, none⟩ (.int .i64 xm)).setCell ⟨q9, 6, none⟩ (.bool xf) = W3 at bb5 BA BB hHeld ⊢
     obtain ⟨⟨z0, z1, z2, z3, z4, z5, z6⟩, f0, f1, f2, f3, f4, f5, f6⟩ := box_wtf BB.out
     refine qR 13 fun K hK => ?_
     go_simp
     have bb6 : Below wr.heap.size wr (pt7 W3 p9 (.int .i64 yi) (.slice P2 yg.length q2) (.int .i64 yt) (.string yk) (.string yb) (.int .i64 ym) (.bool yf)) := pt7_below bb5 hp (.int .i64 yi) (.slice P2 yg.length q2) (.int .i64 yt) (.string yk) (.string yb) (.int .i64 ym) (.bool yf)
     refine hK.out _ _ (HSS.out _ bb6) (fun hHeld => ?_)
     try simp only [Act.put, qq]
     refine wpAnyH_done (by kernel_rfl) ?_ _
     go_wp2_with fail
     go_meet
     case rel => exact ⟨q9, p9, rfl, rfl, pt7_far BA.out hpq.symm (.int .i64 yi) (.slice P2 yg.length q2) (.int .i64 yt) (.string yk) (.string yb) (.int .i64 ym) (.bool yf), pt7_box BB.out (.int .i64 yi) (.slice P2 yg.length q2) (.int .i64 yt) (.string yk) (.string yb) (.int .i64 ym) (.bool yf), bb6⟩
   case rest =>
    obtain ⟨p9, q9, rfl, rfl, hx9, hy9, hb9⟩ := hcut
    clear x0 x1 x2 y0 y1 y2 u0 u1 u2 u3 u4 u5 u6 v0 v1 v2 v3 v4 v5 v6
    unfold wcs at hx9 hy9
    have X9 := h! hx9
    have Y9 := h! hy9
    have HB9 := h! hb9
    clear hx9 hy9 hb9
    simp only at X9 Y9
    obtain ⟨u0, u1, u2, u3, u4, u5, u6⟩ := box_wt X9.out
    obtain ⟨v0, v1, v2, v3, v4, v5, v6⟩ := box_wt Y9.out
    obtain ⟨d, hd⟩ : ∃ d, d = decide ((⟨xi, xg, xt, xk, xb⟩ : Mg) = ⟨yi, yg, yt, yk, yb⟩) := ⟨_, rfl⟩
    rw [← hd] at C
    have HD2 := h! hd
    clear hd
    go_wp2_with fail
    refine (C.out _ HB9.out).mono ?_
    rintro e w3 ⟨rfl, hb⟩
    have HB3 := h! (bmore HB9.out hb n!)
    replace X9 := h! (X9.out.below hb X9.out.lt)
    replace Y9 := h! (Y9.out.below hb Y9.out.lt)
    clear hb C u0 u1 u2 u3 u4 u5 u6 v0 v1 v2 v3 v4 v5 v6
    obtain ⟨u0, u1, u2, u3, u4, u5, u6⟩ := box_wt X9.out
    obtain ⟨v0, v1, v2, v3, v4, v5, v6⟩ := box_wt Y9.out
    rcases d with _ | _
    ·have HF := h! (HNO.out (fun h => ne_at HXx.out HYy.out (fun e => of_decide_eq_false HD2.out.symm (by injection e)) h.2.1))
     go_wp2_with fail
     go_ret
     exact ⟨by rw [HF.out]; rfl, bmore HB.out (bmore HB2.out HB3.out n!) n!⟩
    by_cases ht : xm = ym
    rotate_left
    ·have HF := h! (HNO.out (fun h => ne_at HXx.out HYy.out (fun e => ht (by injection e)) h.2.1))
     have e3 : (xm != ym) = true := by simpa using ht
     clear ht
     go_wp2_with fail
     go_ret
     exact ⟨by rw [HF.out]; rfl, bmore HB.out (bmore HB2.out HB3.out n!) n!⟩
    have e3 : (xm != ym) = false := by simpa using ht
    have HTT := h! ht
    clear ht
    by_cases hf : xf = yf
    rotate_left
    ·have HF := h! (HNO.out (fun h => ne_at HXx.out HYy.out (fun e => hf (by injection e)) h.2.1))
     rcases xf with _ | _ <;> rcases yf with _ | _
     ·exact absurd rfl hf
     ·go_wp2_with fail
      go_ret
      exact ⟨by rw [HF.out]; rfl, bmore HB.out (bmore HB2.out HB3.out n!) n!⟩
     ·go_wp2_with fail
      go_ret
      exact ⟨by rw [HF.out]; rfl, bmore HB.out (bmore HB2.out HB3.out n!) n!⟩
     ·exact absurd rfl hf
    have HF := h! (take_more HT.out HXx.out (by rw [HYy.out, of_decide_eq_true HD2.out.symm, HTT.out, hf]))
    have HN := h! (bmore HB2.out HB3.out n!)
    subst hf
    rcases xf with _ | _
    all_goals
     go_wp2_with fail
     go_roundw
     case rel => exact ⟨k + 1, by omega, by go_num, HN.out, HF⟩
     case measure => simp [intOf]; omega
  ·have HF := h! (HYES.out ⟨HC.out, take_all HT.out (by have := HLA.out; omega) (by have := HLB.out; omega), of_decide_eq_true HD.out.symm⟩)
   go_wp2_with fail
   go_ret
   exact ⟨by rw [HF.out]; rfl, bmore HB.out HB2.out n!⟩
end KP
end Go.Proofs.YteebeiaokfenmaaGreat
