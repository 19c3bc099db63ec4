/- Contracts of functions of towncrier, layers 5 to 9, and of the document's own ones, part 21; each as its theorem says. -/
import Derived.Test.YtiiobafcgdelmaaGreatL01
import Derived.Test.YtiiobafcgdelmaaGreatL20
import Derived.Test.YtiiobafcgdelmaaGreatL04
import Derived.Test.YtiiobafcgdelmaaGreatL10
import Derived.Test.YtiiobafcgdelmaaGreatL15
set_option linter.unusedVariables false
set_option linter.unusedSimpArgs false
namespace Go.Proofs.YtiiobafcgdelmaaGreat.PD
open Go.RowKit
theorem node_yes (n : Int) (w : World) (h : DC.isNode n) : Calls Tryz.prog 51 #[.int .i64 n] w fun e w' => e = .returned (.bool true) ∧ w = w' := by
 obtain ⟨h0, h1⟩ := h
 go_enter Tryz.func51, Tryz.ntmps51
 go_wp2
 go_ret
 exact ⟨rfl, rfl⟩
theorem node_no (n : Int) (w : World) (h : ¬ DC.isNode n) : Calls Tryz.prog 51 #[.int .i64 n] w fun e w' => e = .returned (.bool false) ∧ w = w' := by
 rcases (show n < 0 ∨ 6 ≤ n by unfold DC.isNode at h; omega) with h1 | h1
 all_goals
  clear h
  go_enter Tryz.func51, Tryz.ntmps51
  go_wp2
  go_ret
  exact ⟨by simp; try omega, rfl⟩
def MailOk (m : DC.Ml) : Prop := DC.isNode m.f ∧ DC.isNode m.t ∧ 1 ≤ m.k ∧ m.k ≤ 5 ∧ BM.good m.b ∧ 0 ≤ m.p ∧ m.v.size ≤ 1024
instance (m : DC.Ml) : Decidable (MailOk m) := by unfold MailOk; infer_instance
instance (m : DC.Ml) : Decidable (DC.MayM m) := by unfold DC.MayM; infer_instance
instance (c : DC.Ch) : Decidable (DC.MayC c) := by unfold DC.MayC; infer_instance
theorem mayM_ok (m : DC.Ml) : DC.MayM m ↔ (m.g = 0 ∧ m.s = 0 ∧ m.i = 0 ∧ m.m = 0) ∧ MailOk m := by
 unfold DC.MayM DC.mk MailOk
 constructor
 ·rintro ⟨h, hr⟩
  obtain ⟨f, t, k, g, s, b, p, v, i, mm⟩ := m
  simp only [DC.Ml.mk.injEq, true_and] at h
  exact ⟨⟨h.1, h.2.1, h.2.2.1, h.2.2.2⟩, hr⟩
 ·rintro ⟨⟨h1, h2, h3, h4⟩, hr⟩
  refine ⟨?_, hr⟩
  obtain ⟨f, t, k, g, s, b, p, v, i, mm⟩ := m
  simp only at h1 h2 h3 h4
  subst h1 h2 h3 h4
  rfl
set_option maxRecDepth 100000 in
set_option maxHeartbeats 2000000 in
theorem isMail_any (m : DC.Ml) (w : World) (hF : MFit m) :
  Calls Tryz.prog 67 #[.agg #[.int .i64 m.f, .int .i64 m.t, .int .u8 m.k, .int .i64 m.g, .int .i64 m.s, .int .i64 m.b, .int .i64 m.p, .string m.v, .int .i64 m.i, .int .i64 m.m]] w (BoolIs (decide (MailOk m)) w) := by
 have hb0 : ∀ o : Obj, Below w.heap.size w (w.alloc o) := fun o => (Below.refl _ _).alloc n! _
 have HB := h! hb0
 obtain ⟨r, n, y, hof⟩ := BM.ofIs_ex m.b
 obtain ⟨hk1, hk2, hbb1, hbb2, hpp, hvv⟩ := hF
 have hv63 : m.v.size ≤ 9223372036854775807 := by unfold maxLen at hvv; omega
 have HG := h! (fun W => check_any hof hbb1 hbb2 W)
 have hy : (BM.good m.b ∧ y = 0) ∨ (¬ BM.good m.b ∧ y = 50) := by rcases hof with ⟨h, _, _, h2⟩ | ⟨h, _, _, h2⟩; (· exact .inl ⟨h, h2⟩); (· exact .inr ⟨h, h2⟩)
 clear hof hb0
 obtain ⟨f, t, k, g, s, b, p, v, i, mm⟩ := m
 simp only at hk1 hk2 hbb1 hbb2 hpp hvv hv63 HG hy ⊢
 have hno : ¬ (DC.isNode f ∧ DC.isNode t ∧ 1 ≤ k ∧ k ≤ 5 ∧ BM.good b ∧ 0 ≤ p ∧ v.size ≤ 1024) → decide (MailOk ⟨f, t, k, g, s, b, p, v, i, mm⟩) = false := fun h => decide_eq_false (fun hm => h hm)
 have hyes : (DC.isNode f ∧ DC.isNode t ∧ 1 ≤ k ∧ k ≤ 5 ∧ BM.good b ∧ 0 ≤ p ∧ v.size ≤ 1024) → decide (MailOk ⟨f, t, k, g, s, b, p, v, i, mm⟩) = true := fun h => decide_eq_true h
 have HNO := h! hno
 have HYES := h! hyes
 clear hno hyes
 generalize decide (MailOk ⟨f, t, k, g, s, b, p, v, i, mm⟩) = r at HNO HYES ⊢
 by_cases h0 : DC.isNode f
 rotate_left
 ·have HF := h! (HNO.out (fun h => h0 (h.1)))
  have HC := h! (fun W => node_no f W h0)
  clear HNO HYES h0
  go_enter Tryz.func67, Tryz.ntmps67
  go_wp2_with fail
  refine (HC.out _).mono ?_
  rintro e w9 ⟨rfl, rfl⟩
  go_wp2_with fail
  go_ret
  exact bool_ret (by rw [HF.out]; try simp; try omega) (HB.out _)
 have HC := h! (fun W => node_yes f W h0)
 by_cases h1 : DC.isNode t
 rotate_left
 ·have HF := h! (HNO.out (fun h => h1 (h.2.1)))
  have HT := h! (fun W => node_no t W h1)
  clear HNO HYES h0 h1
  go_enter Tryz.func67, Tryz.ntmps67
  go_wp2_with fail
  refine (HC.out _).mono ?_
  rintro e w9 ⟨rfl, rfl⟩
  go_wp2_with fail
  refine (HT.out _).mono ?_
  rintro e w9 ⟨rfl, rfl⟩
  go_wp2_with fail
  go_ret
  exact bool_ret (by rw [HF.out]; try simp; try omega) (HB.out _)
 have HT := h! (fun W => node_yes t W h1)
 by_cases h2 : 1 ≤ k
 rotate_left
 ·have HF := h! (HNO.out (fun h => h2 (h.2.2.1)))
  have hn2 : k < 1 := by omega
  clear HNO HYES h0 h1
  go_enter Tryz.func67, Tryz.ntmps67
  go_wp2_with fail
  refine (HC.out _).mono ?_
  rintro e w9 ⟨rfl, rfl⟩
  go_wp2_with fail
  refine (HT.out _).mono ?_
  rintro e w9 ⟨rfl, rfl⟩
  go_wp2_with fail
  go_ret
  exact bool_ret (by rw [HF.out]; try simp; try omega) (HB.out _)
 by_cases h3 : k ≤ 5
 rotate_left
 ·have HF := h! (HNO.out (fun h => h3 (h.2.2.2.1)))
  have hn3 : 5 < k := by omega
  clear HNO HYES h0 h1
  go_enter Tryz.func67, Tryz.ntmps67
  go_wp2_with fail
  refine (HC.out _).mono ?_
  rintro e w9 ⟨rfl, rfl⟩
  go_wp2_with fail
  refine (HT.out _).mono ?_
  rintro e w9 ⟨rfl, rfl⟩
  go_wp2_with fail
  go_ret
  exact bool_ret (by rw [HF.out]; try simp; try omega) (HB.out _)
 rcases hy with ⟨h4, rfl⟩ | ⟨h4, rfl⟩
 rotate_left
 ·have HF := h! (HNO.out (fun h => h4 (h.2.2.2.2.1)))
  clear HNO HYES h0 h1 h4
  go_enter Tryz.func67, Tryz.ntmps67
  go_wp2_with fail
  refine (HC.out _).mono ?_
  rintro e w9 ⟨rfl, rfl⟩
  go_wp2_with fail
  refine (HT.out _).mono ?_
  rintro e w9 ⟨rfl, rfl⟩
  go_wp2_with fail
  refine (HG.out _).mono ?_
  rintro e w9 ⟨rfl, rfl⟩
  go_wp2_with fail
  go_ret
  exact bool_ret (by rw [HF.out]; try simp; try omega) (HB.out _)
 by_cases h5 : 0 ≤ p
 rotate_left
 ·have HF := h! (HNO.out (fun h => h5 (h.2.2.2.2.2.1)))
  have hn5 : p < 0 := by omega
  clear HNO HYES h0 h1 h4
  go_enter Tryz.func67, Tryz.ntmps67
  go_wp2_with fail
  refine (HC.out _).mono ?_
  rintro e w9 ⟨rfl, rfl⟩
  go_wp2_with fail
  refine (HT.out _).mono ?_
  rintro e w9 ⟨rfl, rfl⟩
  go_wp2_with fail
  refine (HG.out _).mono ?_
  rintro e w9 ⟨rfl, rfl⟩
  go_wp2_with fail
  go_ret
  exact bool_ret (by rw [HF.out]; try simp; try omega) (HB.out _)
 by_cases h6 : v.size ≤ 1024
 rotate_left
 ·have HF := h! (HNO.out (fun h => h6 (h.2.2.2.2.2.2)))
  have hn6 : 1024 < v.size := by omega
  clear HNO HYES h0 h1 h4
  go_enter Tryz.func67, Tryz.ntmps67
  go_wp2_with fail
  refine (HC.out _).mono ?_
  rintro e w9 ⟨rfl, rfl⟩
  go_wp2_with fail
  refine (HT.out _).mono ?_
  rintro e w9 ⟨rfl, rfl⟩
  go_wp2_with fail
  refine (HG.out _).mono ?_
  rintro e w9 ⟨rfl, rfl⟩
  go_wp2_with fail
  go_ret
  exact bool_ret (by rw [HF.out]; try simp; try omega) (HB.out _)
 have HF := h! (HYES.out ⟨h0, h1, h2, h3, h4, h5, h6⟩)
 clear HNO HYES h0 h1 h4
 go_enter Tryz.func67, Tryz.ntmps67
 go_wp2_with fail
 refine (HC.out _).mono ?_
 rintro e w9 ⟨rfl, rfl⟩
 go_wp2_with fail
 refine (HT.out _).mono ?_
 rintro e w9 ⟨rfl, rfl⟩
 go_wp2_with fail
 refine (HG.out _).mono ?_
 rintro e w9 ⟨rfl, rfl⟩
 go_wp2_with fail
 go_ret
 exact bool_ret (by rw [HF.out]; try simp; try omega) (HB.out _)
def AllRel (W : World) (ml : List DC.Ml) (r : Bool) (k : Nat) (wr : World) : Prop := Below W.heap.size W wr ∧ (ml.drop k).all (fun m => decide (DC.MayM m)) = r
set_option maxRecDepth 100000 in
set_option maxHeartbeats 4000000 in
theorem isAllMail_any (A : Option Addr) (n c : Nat) (ml : List DC.Ml) (W : World) (hr : RdG W 10 A n (flat mcell ml)) (hn : ml.length = n) (h63 : n ≤ 2000) (F : ∀ m ∈ ml, MFit m) :
  Calls Tryz.prog 38 #[.slice A n c] W (BoolIs (ml.all (fun m => decide (DC.MayM m))) W) := by
 obtain ⟨r, hrr⟩ : ∃ r, r = ml.all (fun m => decide (DC.MayM m)) := ⟨_, rfl⟩
 rw [← hrr]
 have hst : AllRel W ml r 0 W := ⟨Below.refl _ _, hrr.symm⟩
 have HS := h! hst; clear hst hrr
 have HF := h! F; clear F
 have HW := h! hr; clear hr
 have HN := h! hn; clear hn
 go_enter Tryz.func38, Tryz.ntmps38
 go_wp2_with fail
 go_loopw [8] (fun i wr => ∃ k : Nat, k ≤ n ∧ i = .int .i64 k ∧ Hid (AllRel W ml r k wr)) (fun i _ => n - (intOf i).toNat)
 case atStart => exact ⟨0, by omega, rfl, HS⟩
 case round =>
  clear HS
  obtain ⟨k, hk, rfl, HR⟩ := hrel
  by_cases hlt : k < n
  ·have hkm : k < ml.length := by have := HN.out; omega
   obtain ⟨bl, o, rfl, hbl, c0, c1, c2, c3, c4, c5, c6, c7, c8, c9⟩ := RdG.mail (RdG.below HW.out HR.out.1) hlt (List.getElem?_eq_getElem hkm)
   have hre := HR.out.2
   rw [List.drop_eq_getElem_cons hkm, List.all_cons] at hre
   have hfm : MFit ml[k] := HF.out _ (List.getElem_mem ..)
   generalize ml[k] = m at c0 c1 c2 c3 c4 c5 c6 c7 c8 c9 hre hfm
   have hiff := mayM_ok m
   have hc := fun W => isMail_any m W hfm
   have HB := h! HR.out.1
   have hb1 : ∀ o1 o2 : Obj, Below W.heap.size W ((wr.alloc o1).alloc o2) := fun o1 o2 => bmore HR.out.1 (((Below.refl _ _).alloc n! _).alloc (by simp) _) n!
   have HB1 := h! hb1
   clear hb1 HR hfm hkm
   by_cases hz : m.g = 0 ∧ m.s = 0 ∧ m.i = 0 ∧ m.m = 0
   ·obtain ⟨f, t, kk, g, s, b, p, v, i, mm⟩ := m
    simp only at c0 c1 c2 c3 c4 c5 c6 c7 c8 c9 hre hc hz hiff
    obtain ⟨rfl, rfl, rfl, rfl⟩ := hz
    have hd : decide (DC.MayM ⟨f, t, kk, 0, 0, b, p, v, 0, 0⟩) = decide (MailOk ⟨f, t, kk, 0, 0, b, p, v, 0, 0⟩) := by rw [decide_eq_decide, hiff]; simp
    rw [hd] at hre
    have HC := h! hc
    clear hiff hd hc
    generalize decide (MailOk ⟨f, t, kk, 0, 0, b, p, v, 0, 0⟩) = q at hre HC
    rcases q with _ | _
    ·have HRE := h! hre
     clear hre
     go_wp2_with fail
     refine (HC.out _).mono ?_
     rintro e w1 ⟨rfl, hb⟩
     have HB2 := h! (bmore (HB1.out _ _) hb n!); clear hb
     go_wp2_with fail
     go_ret
     exact bool_ret (by simpa using HRE.out) HB2.out
    ·rw [Bool.true_and] at hre
     have HRE := h! hre
     clear hre
     go_wp2_with fail
     refine (HC.out _).mono ?_
     rintro e w1 ⟨rfl, hb⟩
     have HB2 := h! (bmore (HB1.out _ _) hb n!); clear hb
     go_wp2_with fail
     go_roundw
     case rel => exact ⟨k + 1, by omega, by go_num, h! ⟨HB2.out, HRE.out⟩⟩
     case measure => simp [intOf]; omega
   ·have hd : decide (DC.MayM m) = false := decide_eq_false (fun hm => hz (hiff.1 hm).1)
    rw [hd, Bool.false_and] at hre
    have HRE := h! hre
    have hz2 : m.g = 0 → m.s = 0 → m.i = 0 → m.m = 0 → False := fun h1 h2 h3 h4 => hz ⟨h1, h2, h3, h4⟩
    have HZ := h! hz2
    clear hre hiff hc hd hz hz2
    obtain ⟨f, t, kk, g, s, b, p, v, i, mm⟩ := m
    simp only at c0 c1 c2 c3 c4 c5 c6 c7 c8 c9 HZ
    go_wp2_with fail
    all_goals first
     | exact absurd (HZ.out (by assumption) (by assumption) (by assumption) (by assumption)) id
     | (go_ret; exact bool_ret HRE.out (HB1.out _ _))
  ·obtain rfl : n = k := by omega
   have hd : true = r := by have := HR.out.2; rw [List.drop_of_length_le (by have := HN.out; omega)] at this; simpa using this
   have HD := h! hd
   have HB := h! HR.out.1
   clear hd HR
   go_wp2_with fail
   go_ret
   exact bool_ret HD.out HB.out
def ChRel (W : World) (ml : List DC.Ch) (r : Bool) (k : Nat) (wr : World) : Prop := Below W.heap.size W wr ∧ (ml.drop k).all (fun m => decide (DC.MayC m)) = r
set_option maxRecDepth 100000 in
set_option maxHeartbeats 4000000 in
theorem areChoices_any (A : Option Addr) (n c : Nat) (ml : List DC.Ch) (W : World) (hr : RdG W 2 A n (flat ccell ml)) (hn : ml.length = n) (h63 : n ≤ 2000) (F : ∀ m ∈ ml, m.v.size ≤ maxLen) :
  Calls Tryz.prog 39 #[.slice A n c] W (BoolIs (ml.all (fun m => decide (DC.MayC m))) W) := by
 obtain ⟨r, hrr⟩ : ∃ r, r = ml.all (fun m => decide (DC.MayC m)) := ⟨_, rfl⟩
 rw [← hrr]
 have hst : ChRel W ml r 0 W := ⟨Below.refl _ _, hrr.symm⟩
 have HS := h! hst; clear hst hrr
 have HF := h! F; clear F
 have HW := h! hr; clear hr
 have HN := h! hn; clear hn
 go_enter Tryz.func39, Tryz.ntmps39
 go_wp2_with fail
 go_loopw [7] (fun i wr => ∃ k : Nat, k ≤ n ∧ i = .int .i64 k ∧ Hid (ChRel W ml r k wr)) (fun i _ => n - (intOf i).toNat)
 case atStart => exact ⟨0, by omega, rfl, HS⟩
 case round =>
  clear HS
  obtain ⟨k, hk, rfl, HR⟩ := hrel
  by_cases hlt : k < n
  ·have hkm : k < ml.length := by have := HN.out; omega
   obtain ⟨bl, o, rfl, hbl, c0, c1⟩ := RdG.choice (RdG.below HW.out HR.out.1) hlt (List.getElem?_eq_getElem hkm)
   have hre := HR.out.2
   rw [List.drop_eq_getElem_cons hkm, List.all_cons] at hre
   have hfm := HF.out _ (List.getElem_mem hkm)
   generalize ml[k] = m at c0 c1 hre hfm
   obtain ⟨x, v⟩ := m
   simp only at c0 c1 hfm
   have hv63 : v.size ≤ 9223372036854775807 := by unfold maxLen at hfm; omega
   have hb1 : ∀ o1 : Obj, Below W.heap.size W (wr.alloc o1) := fun o1 => bmore HR.out.1 ((Below.refl _ _).alloc n! _) n!
   have HB1 := h! hb1
   clear hb1 HR hfm hkm
   by_cases h0 : DC.isNode x
   ·have HC := h! (fun W => node_yes x W h0)
    by_cases h1 : v.size ≤ 1024
    ·have hd : decide (DC.MayC ⟨x, v⟩) = true := decide_eq_true (show DC.MayC ⟨x, v⟩ from ⟨h0, h1⟩)
     rw [hd, Bool.true_and] at hre
     have HRE := h! hre
     clear hre hd h0
     go_wp2_with fail
     refine (HC.out _).mono ?_
     rintro e w1 ⟨rfl, rfl⟩
     go_wp2_with fail
     go_roundw
     case rel => exact ⟨k + 1, by omega, by go_num, h! ⟨HB1.out _, HRE.out⟩⟩
     case measure => simp [intOf]; omega
    ·have hd : decide (DC.MayC ⟨x, v⟩) = false := decide_eq_false (show ¬ DC.MayC ⟨x, v⟩ from fun h => h1 h.2)
     rw [hd, Bool.false_and] at hre
     have HRE := h! hre
     have h2 : 1024 < v.size := by omega
     clear hre hd h0 h1
     go_wp2_with fail
     refine (HC.out _).mono ?_
     rintro e w1 ⟨rfl, rfl⟩
     go_wp2_with fail
     go_ret
     exact bool_ret HRE.out (HB1.out _)
   ·have HC := h! (fun W => node_no x W h0)
    have hd : decide (DC.MayC ⟨x, v⟩) = false := decide_eq_false (show ¬ DC.MayC ⟨x, v⟩ from fun h => h0 h.1)
    rw [hd, Bool.false_and] at hre
    have HRE := h! hre
    clear hre hd h0
    go_wp2_with fail
    refine (HC.out _).mono ?_
    rintro e w1 ⟨rfl, rfl⟩
    go_wp2_with fail
    go_ret
    exact bool_ret HRE.out (HB1.out _)
  ·obtain rfl : n = k := by omega
   have hd : true = r := by have := HR.out.2; rw [List.drop_of_length_le (by have := HN.out; omega)] at this; simpa using this
   have HD := h! hd
   have HB := h! HR.out.1
   clear hd HR
   go_wp2_with fail
   go_ret
   exact bool_ret HD.out HB.out
set_option maxHeartbeats 1000000 in
theorem hasRoom_any (A0 A1 A2 A3 A4 : Option Addr) (n0 c0 n1 c1 n2 c2 n3 c3 n4 c4 : Nat) (W : World) (h3 : n3 ≤ 2000) (h4 : n4 ≤ 2000) :
  Calls Tryz.prog 25 #[.agg #[.slice A0 n0 c0, .slice A1 n1 c1, .slice A2 n2 c2, .slice A3 n3 c3, .slice A4 n4 c4]] W (BoolIs (decide (n3 ≤ 1000 ∧ n4 ≤ 1000)) W) := by
 have hb0 : ∀ o : Obj, Below W.heap.size W (W.alloc o) := fun o => (Below.refl _ _).alloc n! _
 have HB := h! hb0; clear hb0
 by_cases h : n3 ≤ 1000
 ·by_cases h' : n4 ≤ 1000
  ·rw [decide_eq_true (show n3 ≤ 1000 ∧ n4 ≤ 1000 from ⟨h, h'⟩)]
   go_enter Tryz.func25, Tryz.ntmps25
   go_wp2_with fail
   go_ret
   exact bool_ret (by first | rfl | (simp; omega)) (HB.out _)
  ·rw [decide_eq_false (show ¬ (n3 ≤ 1000 ∧ n4 ≤ 1000) from fun q => h' q.2)]
   go_enter Tryz.func25, Tryz.ntmps25
   go_wp2_with fail
   go_ret
   exact bool_ret (by first | rfl | (simp; omega)) (HB.out _)
 ·rw [decide_eq_false (show ¬ (n3 ≤ 1000 ∧ n4 ≤ 1000) from fun q => h q.1)]
  go_enter Tryz.func25, Tryz.ntmps25
  go_wp2_with fail
  go_ret
  exact bool_ret (by first | rfl | (simp; omega)) (HB.out _)
end Go.Proofs.YtiiobafcgdelmaaGreat.PD
namespace Go.Proofs.YtiiobafcgdelmaaGreat.PD
open Go.RowKit Go.Shelf
instance (ms : List Int) (i : Int) (t : AM.At) : Decidable (DC.MayT ms i t) := by unfold DC.MayT; infer_instance
instance (p b : Int) (s : ByteArray) : Decidable (VM.may p b s) := by unfold VM.may VM.okP VM.okA BM.good; infer_instance
set_option maxRecDepth 100000 in
set_option maxHeartbeats 4000000 in
theorem isTry_any (v : Value) (t : AM.At) (A0 : Option Addr) (n0 c0 : Nat) (ms : List Int) (i : Int) (W : World) (H : AtIs W v t) (F : Fit t) (hr : Rd W A0 n0 (ic ms)) (hn0 : n0 ≤ 2000) :
  Calls Tryz.prog 66 #[v, .slice A0 n0 c0, .int .i64 i] W (BoolIs (decide (DC.MayT ms i t)) W) := by
 have hH := H
 obtain ⟨A, n, c, B, m, d, C, k, f, rfl, h1, h2, h3⟩ := H
 obtain ⟨f1, f2, f3⟩ := AtIs.fit_n h1 h2 h3 F
 have HC := h! (fun (U : World) (hU : Below W.heap.size W U) => acheck_any _ t U (hH.below hU) F)
 have HE := h! (fun (U : World) (hU : Below W.heap.size W U) => equalI_any A n c t.ms A0 n0 c0 ms U (h1.below hU) (hr.below hU) (by omega) (by omega))
 have hp0 : 0 ≤ t.ph := F.p1
 have hp255 : t.ph ≤ 255 := F.p2
 obtain ⟨W0, hW0⟩ : ∃ W0, W0 = W.alloc (.cells #[.int .u8 t.ph, .int .i64 t.ba, .slice A n c, .string t.wi, .string t.va, .slice B m d, .slice C k f] 57) := ⟨_, rfl⟩
 have hb0 : Below W.heap.size W W0 := by rw [hW0]; exact (Below.refl _ _).alloc n! _
 have hx0 : Box W0 W.heap.size 57 #[.int .u8 t.ph, .int .i64 t.ba, .slice A n c, .string t.wi, .string t.va, .slice B m d, .slice C k f] := by rw [hW0]; exact Box.new _ _ _
 have HB0 := h! hb0
 have HX0 := h! hx0
 clear hH h1 h2 h3 hr hn0 f1 f2 f3 hb0 hx0
 by_cases hm : AM.may t = true
 rotate_left
 ·have hd := decide_eq_false (show ¬ DC.MayT ms i t from fun h => hm h.1)
  rw [hd]
  simp only [if_neg hm] at HC
  clear hm hd HE F
  go_enter Tryz.func66, Tryz.ntmps66
  go_wp2_with fail
  rw [← hW0]
  refine (HC.out _ HB0.out).mono ?_
  rintro e w1 ⟨rfl, hb⟩
  have HB2 := h! (bmore HB0.out hb n!)
  clear HC HX0 HB0 hb hW0
  go_wp2_with fail
  go_ret
  exact ⟨rfl, HB2.out⟩
 simp only [if_pos hm] at HC
 by_cases h0 : t.ph = 0
 ·have hd := decide_eq_true (show DC.MayT ms i t from ⟨hm, .inl h0⟩)
  rw [hd]
  have he0 : (t.ph == 0) = true := by simpa using h0
  clear hm hd HE F h0
  go_enter Tryz.func66, Tryz.ntmps66
  go_wp2_with fail
  rw [← hW0]
  refine (HC.out _ HB0.out).mono ?_
  rintro e w1 ⟨rfl, hb⟩
  have HB2 := h! (bmore HB0.out hb n!)
  obtain ⟨⟨x0, _⟩, _⟩ := (HX0.out.below hb HX0.out.lt).seven
  clear HC HX0 HB0 hb hW0
  go_wp2_with fail
  go_ret
  exact ⟨rfl, HB2.out⟩
 have hgood := (DC.may_good hm h0).1
 have hof : BM.OfIs t.ba (t.ba / 8) (t.ba % 8) 0 := .inl ⟨hgood, rfl, rfl, rfl⟩
 have HO := h! (fun U => of_any hof F.b1 F.b2 U)
 have he0 : (t.ph == 0) = false := by simpa using h0
 by_cases h8 : t.ba % 8 = i
 ·have hd : decide (DC.MayT ms i t) = decide (t.ms = ms) := by
   rw [decide_eq_decide]
   exact ⟨fun h => by rcases h.2 with h | h; (· exact absurd h h0); (· exact h.2), fun h => ⟨hm, .inr ⟨h8, h⟩⟩⟩
  rw [hd]
  have he8 : (t.ba % 8 == i) = true := by simpa using h8
  clear hm hd F hgood hof h0 h8
  generalize decide (t.ms = ms) = r at HE ⊢
  generalize t.ba % 8 = z at HO he8
  go_enter Tryz.func66, Tryz.ntmps66
  go_wp2_with fail
  rw [← hW0]
  refine (HC.out _ HB0.out).mono ?_
  rintro e w1 ⟨rfl, hb⟩
  have HB2 := h! (bmore HB0.out hb n!)
  obtain ⟨⟨x0, x1, x2, _⟩, _⟩ := (HX0.out.below hb HX0.out.lt).seven
  clear HC HX0 HB0 hb hW0
  go_wp2_with fail
  refine (HO.out _).mono ?_
  rintro e w2 ⟨rfl, rfl⟩
  go_wp2_with fail
  refine (HE.out _ HB2.out).mono ?_
  rintro e w3 ⟨rfl, q, rfl⟩
  clear x0 x1 x2
  go_wp2_with fail
  go_ret
  exact ⟨rfl, below_drewN HB2.out q⟩
 ·have hd := decide_eq_false (show ¬ DC.MayT ms i t from fun h => by rcases h.2 with h | h; (· exact h0 h); (· exact h8 h.1))
  rw [hd]
  have he8 : (t.ba % 8 == i) = false := by simpa using h8
  clear hm hd F hgood hof h0 h8 HE
  generalize t.ba % 8 = z at HO he8
  go_enter Tryz.func66, Tryz.ntmps66
  go_wp2_with fail
  rw [← hW0]
  refine (HC.out _ HB0.out).mono ?_
  rintro e w1 ⟨rfl, hb⟩
  have HB2 := h! (bmore HB0.out hb n!)
  obtain ⟨⟨x0, x1, x2, _⟩, _⟩ := (HX0.out.below hb HX0.out.lt).seven
  clear HC HX0 HB0 hb hW0
  go_wp2_with fail
  refine (HO.out _).mono ?_
  rintro e w2 ⟨rfl, rfl⟩
  go_wp2_with fail
  go_ret
  exact ⟨rfl, HB2.out⟩
def okN (w : DC.Wd) (k : Nat) : Bool := decide (VM.may (DC.getV w k).p (DC.getV w k).b (DC.getV w k).v) && decide (DC.MayT w.ms k (DC.getT w k))
def NodRel (W : World) (w : DC.Wd) (r : Bool) (k : Nat) (wr : World) : Prop := Below W.heap.size W wr ∧ ((List.range' k (6 - k)).all (okN w)) = r
theorem nod_next {w : DC.Wd} {k : Nat} {r : Bool} (hk : k < 6) (h : ((List.range' k (6 - k)).all (okN w)) = r) : (okN w k && ((List.range' (k + 1) (6 - (k + 1))).all (okN w))) = r := by
 rw [show 6 - k = 6 - (k + 1) + 1 by omega, List.range'_succ, List.all_cons] at h
 exact h
set_option maxRecDepth 100000 in
set_option maxHeartbeats 8000000 in
theorem areNodes_any (A0 A1 A2 A3 A4 : Option Addr) (n3 c0 c1 c2 c3 n4 c4 : Nat) (xs : List Value) (w : DC.Wd) (W : World) (h0 : Rd W A0 w.ms.length (ic w.ms)) (h1 : RdG W 3 A1 w.vs.length (flat vcell w.vs)) (h2 : RdG W 7 A2 w.ts.length xs) (ht : TsIs W xs w.ts)
  (hm : w.ms.length ≤ 2000) (hvl : w.vs.length = 6) (htl : w.ts.length = 6) (FV : ∀ v ∈ w.vs, VFit v) (FT : ∀ t ∈ w.ts, Fit t) :
  Calls Tryz.prog 37 #[.agg #[.slice A0 w.ms.length c0, .slice A1 6 c1, .slice A2 6 c2, .slice A3 n3 c3, .slice A4 n4 c4]] W (BoolIs ((List.range' 0 6).all (okN w)) W) := by
 obtain ⟨r, hrr⟩ : ∃ r, r = (List.range' 0 6).all (okN w) := ⟨_, rfl⟩
 rw [← hrr]
 have hb0 : Below W.heap.size W (W.alloc (.cells #[.slice A0 w.ms.length c0, .slice A1 6 c1, .slice A2 6 c2, .slice A3 n3 c3, .slice A4 n4 c4] 28)) := b!
 have hx0 : Box (W.alloc (.cells #[.slice A0 w.ms.length c0, .slice A1 6 c1, .slice A2 6 c2, .slice A3 n3 c3, .slice A4 n4 c4] 28)) W.heap.size 28 _ := Box.new _ _ _
 have HS := h! (show NodRel W w r 0 _ from ⟨hb0, hrr.symm⟩)
 have HX := h! hx0
 have HB0 := h! hb0
 have H0 := h! h0
 have H1 := h! h1
 have H2 := h! h2
 have HTS := h! ht
 have HFV := h! FV
 have HFT := h! FT
 have HVL := h! hvl
 have HTL := h! htl
 have HM := h! hm
 have hz := hx0.five.1
 obtain ⟨z0, z1, z2, z3, z4⟩ := hz
 have mixed : Tryz.prog.follows Departure.mixedOrders = true := by kernel_rfl
 clear hrr hb0 hx0 h0 h1 h2 ht FV FT hvl htl hm
 go_enter Tryz.func37, Tryz.ntmps37
 go_wp2_with fail
 generalize W.alloc (.cells #[.slice A0 w.ms.length c0, .slice A1 6 c1, .slice A2 6 c2, .slice A3 n3 c3, .slice A4 n4 c4] 28) = W1 at HS HX HB0 z0 z1 z2 z3 z4 ⊢
 clear z0 z1 z2 z3 z4
 have HBX : Hid (∀ wr, Below W.heap.size W wr → Below W1.heap.size W1 wr → Box wr W.heap.size 28 #[.slice A0 w.ms.length c0, .slice A1 6 c1, .slice A2 6 c2, .slice A3 n3 c3, .slice A4 n4 c4]) := h! (fun wr _ hb => HX.out.below hb HX.out.lt)
 go_loopw [14] (fun i wr => ∃ k : Nat, k ≤ 6 ∧ i = .int .i64 k ∧ Hid (NodRel W w r k wr) ∧ Hid (Below W1.heap.size W1 wr)) (fun i _ => 6 - (intOf i).toNat)
 case atStart => exact ⟨0, by omega, rfl, HS, h! (Below.refl _ _)⟩
 case round =>
  clear HS
  obtain ⟨k, hk, rfl, HR, HR1⟩ := hrel
  by_cases hlt : k < 6
  ·have hn : DC.isNode (k : Int) := by unfold DC.isNode; omega
   have hV : w.vs[k]? = some (DC.getV w (k : Int)) := by have := DC.getV_at HVL.out hn; rwa [Int.toNat_natCast] at this
   have hT : w.ts[k]? = some (DC.getT w (k : Int)) := by have := DC.getT_at HTL.out hn; rwa [Int.toNat_natCast] at this
   have hre := nod_next hlt HR.out.2
   have hvf := HFV.out _ (List.mem_of_getElem? hV)
   have htf := HFT.out _ (List.mem_of_getElem? hT)
   unfold okN at hre
   generalize DC.getV w (k : Int) = v at hV hre hvf
   generalize DC.getT w (k : Int) = t at hT hre htf
   have hx := HBX.out wr HR.out.1 HR1.out
   obtain ⟨b1, o1, rfl, hb1, v0, v1, v2⟩ := RdG.vote (RdG.below H1.out HR.out.1) (by rw [HVL.out]; exact hlt) hV
   obtain ⟨b2, o2, B, n, c, C, m, d, D, q, f, rfl, hb2, r1, r2, r3, t0, t1, t2, t3, t4, t5, t6⟩ := RdG.try_ (RdG.below H2.out HR.out.1) rfl (HTS.out.below HR.out.1) hT
   obtain ⟨y, hy⟩ := VP.chkIs_ex v.p v.b v.v
   obtain ⟨q1, q2, q3, q4, q5⟩ := hvf
   have HV := h! (fun (U : World) => VP.vcheck_any U q1 q2 q3 q4 q5 hy)
   have hat : AtIs wr (.agg #[.int .u8 t.ph, .int .i64 t.ba, .slice B n c, .string t.wi, .string t.va, .slice C m d, .slice D q f]) t := ⟨B, n, c, C, m, d, D, q, f, rfl, r1, r2, r3⟩
   have HT := h! (fun (U : World) (hU : Below wr.heap.size wr U) => isTry_any _ t A0 w.ms.length c0 w.ms (k : Int) U (hat.below hU) htf ((H0.out.below HR.out.1).below hU) HM.out)
   generalize W.heap.size = gb at hx
   have hS : ∀ w', Below wr.heap.size wr w' → w'.cell? ⟨gb, 0, none⟩ = some (.slice A0 w.ms.length c0) ∧ w'.cell? ⟨gb, 1, none⟩ = some (.slice (some ⟨b1, o1, none⟩) 6 c1) ∧ w'.cell? ⟨gb, 2, none⟩ = some (.slice (some ⟨b2, o2, none⟩) 6 c2) ∧ w'.cell? ⟨b1, o1 + k * 3, none⟩ = some (.int .i64 v.p) ∧ w'.cell? ⟨b1, o1 + k * 3 + 1, none⟩ = some (.int .i64 v.b) ∧ w'.cell? ⟨b1, o1 + k * 3 + 2, none⟩ = some (.string v.v) ∧ w'.cell? ⟨b2, o2 + k * 7, none⟩ = some (.int .u8 t.ph) ∧ w'.cell? ⟨b2, o2 + k * 7 + 1, none⟩ = some (.int .i64 t.ba) ∧ w'.cell? ⟨b2, o2 + k * 7 + 2, none⟩ = some (.slice B n c) ∧ w'.cell? ⟨b2, o2 + k * 7 + 3, none⟩ = some (.string t.wi) ∧ w'.cell? ⟨b2, o2 + k * 7 + 4, none⟩ = some (.string t.va) ∧ w'.cell? ⟨b2, o2 + k * 7 + 5, none⟩ = some (.slice C m d) ∧ w'.cell? ⟨b2, o2 + k * 7 + 6, none⟩ = some (.slice D q f) := fun w' hb => by
    obtain ⟨⟨x0, x1, x2, x3, x4⟩, _⟩ := (hx.below hb hx.lt).five
    exact ⟨x0, x1, x2, (hb.cell hb1).trans v0, (hb.cell hb1).trans v1, (hb.cell hb1).trans v2, (hb.cell hb2).trans t0, (hb.cell hb2).trans t1, (hb.cell hb2).trans t2, (hb.cell hb2).trans t3, (hb.cell hb2).trans t4, (hb.cell hb2).trans t5, (hb.cell hb2).trans t6⟩
   have HSS := h! hS
   have i0 : (0 : Int) ≤ (k : Int) := by omega
   have i1 : (k : Int) < 6 := by omega
   clear hS hx v0 v1 v2 t0 t1 t2 t3 t4 t5 t6 r1 r2 r3 hat htf hV hT q1 q2 q3 q4 q5 hn hb1 hb2 HBX
   rcases hy with ⟨hok, rfl⟩ | ⟨hok, rfl⟩
   rotate_left
   ·rw [decide_eq_false hok, Bool.false_and] at hre
    have HRE := h! hre
    have HRB := h! HR.out.1
    clear hok hre HR HR1 HT
    go_upto_region 6 with (fail)
    refine wp_region_held_drew (S := fun w' => w'.cell? ⟨gb, 0, none⟩ = some (.slice A0 w.ms.length c0) ∧ w'.cell? ⟨gb, 1, none⟩ = some (.slice (some ⟨b1, o1, none⟩) 6 c1) ∧ w'.cell? ⟨gb, 2, none⟩ = some (.slice (some ⟨b2, o2, none⟩) 6 c2) ∧ w'.cell? ⟨b1, o1 + k * 3, none⟩ = some (.int .i64 v.p) ∧ w'.cell? ⟨b1, o1 + k * 3 + 1, none⟩ = some (.int .i64 v.b) ∧ w'.cell? ⟨b1, o1 + k * 3 + 2, none⟩ = some (.string v.v) ∧ w'.cell? ⟨b2, o2 + k * 7, none⟩ = some (.int .u8 t.ph) ∧ w'.cell? ⟨b2, o2 + k * 7 + 1, none⟩ = some (.int .i64 t.ba) ∧ w'.cell? ⟨b2, o2 + k * 7 + 2, none⟩ = some (.slice B n c) ∧ w'.cell? ⟨b2, o2 + k * 7 + 3, none⟩ = some (.string t.wi) ∧ w'.cell? ⟨b2, o2 + k * 7 + 4, none⟩ = some (.string t.va) ∧ w'.cell? ⟨b2, o2 + k * 7 + 5, none⟩ = some (.slice C m d) ∧ w'.cell? ⟨b2, o2 + k * 7 + 6, none⟩ = some (.slice D q f)) (by kernel_rfl) (HSS.out _ ((Below.refl _ _).drew)) (fun hHeld => ?_)
    refine qT 0 ?_
    try simp only [Act.put, qq]
    refine qT 1 ?_
    try simp only [Act.put, qq]
    refine qT 2 ?_
    try simp only [Act.put, qq]
    refine qT 3 ?_
    try simp only [Act.put, qq]
    refine qT 4 ?_
    try simp only [Act.put, qq]
    refine qR 5 fun K hK => ?_
    go_simp
    refine (HV.out _).mono ?_
    rintro e wa ⟨rfl, ha⟩
    have bb1 : Below wr.heap.size wr wa := bmore ((Below.refl _ _).drew) ha n!
    refine hK.out _ _ (HSS.out _ bb1) (fun hHeld => ?_)
    clear hK
    try simp only [Act.put, qq]
    refine qT 6 ?_
    try simp only [Act.put, qq]
    refine qT 7 ?_
    try simp only [Act.put, qq]
    refine qS 8 ?_
    try simp only [Act.put, qq]
    refine qS 9 ?_
    try simp only [Act.put, qq]
    refine qS 10 ?_
    try simp only [Act.put, qq]
    refine qS 11 ?_
    try simp only [Act.put, qq]
    refine qS 12 ?_
    try simp only [Act.put, qq]
    refine qS 13 ?_
    try simp only [Act.put, qq]
    refine qS 14 ?_
    try simp only [Act.put, qq]
    refine qS 15 ?_
    try simp only [Act.put, qq]
    refine qS 16 ?_
    try simp only [Act.put, qq]
    refine qS 17 ?_
    try simp only [Act.put, qq]
    refine qT 18 ?_
    try simp only [Act.put, qq]
    refine wpAnyH_done (by kernel_rfl) ?_ _
    go_wp2_with fail
    go_ret
    exact bool_ret HRE.out (bmore HRB.out bb1 n!)
   rw [decide_eq_true hok, Bool.true_and] at hre
   generalize decide (DC.MayT w.ms (k : Int) t) = z at hre HT
   rcases z with _ | _
   ·rw [Bool.false_and] at hre
    have HRE := h! hre
    have HRB := h! HR.out.1
    clear hok hre HR HR1
    go_upto_region 6 with (fail)
    refine wp_region_held_drew (S := fun w' => w'.cell? ⟨gb, 0, none⟩ = some (.slice A0 w.ms.length c0) ∧ w'.cell? ⟨gb, 1, none⟩ = some (.slice (some ⟨b1, o1, none⟩) 6 c1) ∧ w'.cell? ⟨gb, 2, none⟩ = some (.slice (some ⟨b2, o2, none⟩) 6 c2) ∧ w'.cell? ⟨b1, o1 + k * 3, none⟩ = some (.int .i64 v.p) ∧ w'.cell? ⟨b1, o1 + k * 3 + 1, none⟩ = some (.int .i64 v.b) ∧ w'.cell? ⟨b1, o1 + k * 3 + 2, none⟩ = some (.string v.v) ∧ w'.cell? ⟨b2, o2 + k * 7, none⟩ = some (.int .u8 t.ph) ∧ w'.cell? ⟨b2, o2 + k * 7 + 1, none⟩ = some (.int .i64 t.ba) ∧ w'.cell? ⟨b2, o2 + k * 7 + 2, none⟩ = some (.slice B n c) ∧ w'.cell? ⟨b2, o2 + k * 7 + 3, none⟩ = some (.string t.wi) ∧ w'.cell? ⟨b2, o2 + k * 7 + 4, none⟩ = some (.string t.va) ∧ w'.cell? ⟨b2, o2 + k * 7 + 5, none⟩ = some (.slice C m d) ∧ w'.cell? ⟨b2, o2 + k * 7 + 6, none⟩ = some (.slice D q f)) (by kernel_rfl) (HSS.out _ ((Below.refl _ _).drew)) (fun hHeld => ?_)
    refine qT 0 ?_
    try simp only [Act.put, qq]
    refine qT 1 ?_
    try simp only [Act.put, qq]
    refine qT 2 ?_
    try simp only [Act.put, qq]
    refine qT 3 ?_
    try simp only [Act.put, qq]
    refine qT 4 ?_
    try simp only [Act.put, qq]
    refine qR 5 fun K hK => ?_
    go_simp
    refine (HV.out _).mono ?_
    rintro e wa ⟨rfl, ha⟩
    have bb1 : Below wr.heap.size wr wa := bmore ((Below.refl _ _).drew) ha n!
    refine hK.out _ _ (HSS.out _ bb1) (fun hHeld => ?_)
    clear hK
    try simp only [Act.put, qq]
    refine qT 6 ?_
    try simp only [Act.put, qq]
    refine qT 7 ?_
    try simp only [Act.put, qq]
    refine qT 8 ?_
    try simp only [Act.put, qq]
    refine qT 9 ?_
    try simp only [Act.put, qq]
    refine qT 10 ?_
    try simp only [Act.put, qq]
    refine qT 11 ?_
    try simp only [Act.put, qq]
    refine qT 12 ?_
    try simp only [Act.put, qq]
    refine qT 13 ?_
    try simp only [Act.put, qq]
    refine qT 14 ?_
    try simp only [Act.put, qq]
    refine qT 15 ?_
    try simp only [Act.put, qq]
    refine qR 16 fun K hK => ?_
    go_simp
    refine (HT.out _ bb1).mono ?_
    rintro e wb ⟨rfl, hb⟩
    have bb2 : Below wr.heap.size wr wb := bmore bb1 hb n!
    refine hK.out _ _ (HSS.out _ bb2) (fun hHeld => ?_)
    clear hK
    try simp only [Act.put, qq]
    refine qT 17 ?_
    try simp only [Act.put, qq]
    refine qT 18 ?_
    try simp only [Act.put, qq]
    refine wpAnyH_done (by kernel_rfl) ?_ _
    go_wp2_with fail
    go_ret
    exact bool_ret HRE.out (bmore HRB.out bb2 n!)
   ·rw [Bool.true_and] at hre
    have HRE := h! hre
    have HRB := h! HR.out.1
    clear hok hre HR
    go_upto_region 6 with (fail)
    refine wp_region_held_drew (S := fun w' => w'.cell? ⟨gb, 0, none⟩ = some (.slice A0 w.ms.length c0) ∧ w'.cell? ⟨gb, 1, none⟩ = some (.slice (some ⟨b1, o1, none⟩) 6 c1) ∧ w'.cell? ⟨gb, 2, none⟩ = some (.slice (some ⟨b2, o2, none⟩) 6 c2) ∧ w'.cell? ⟨b1, o1 + k * 3, none⟩ = some (.int .i64 v.p) ∧ w'.cell? ⟨b1, o1 + k * 3 + 1, none⟩ = some (.int .i64 v.b) ∧ w'.cell? ⟨b1, o1 + k * 3 + 2, none⟩ = some (.string v.v) ∧ w'.cell? ⟨b2, o2 + k * 7, none⟩ = some (.int .u8 t.ph) ∧ w'.cell? ⟨b2, o2 + k * 7 + 1, none⟩ = some (.int .i64 t.ba) ∧ w'.cell? ⟨b2, o2 + k * 7 + 2, none⟩ = some (.slice B n c) ∧ w'.cell? ⟨b2, o2 + k * 7 + 3, none⟩ = some (.string t.wi) ∧ w'.cell? ⟨b2, o2 + k * 7 + 4, none⟩ = some (.string t.va) ∧ w'.cell? ⟨b2, o2 + k * 7 + 5, none⟩ = some (.slice C m d) ∧ w'.cell? ⟨b2, o2 + k * 7 + 6, none⟩ = some (.slice D q f)) (by kernel_rfl) (HSS.out _ ((Below.refl _ _).drew)) (fun hHeld => ?_)
    refine qT 0 ?_
    try simp only [Act.put, qq]
    refine qT 1 ?_
    try simp only [Act.put, qq]
    refine qT 2 ?_
    try simp only [Act.put, qq]
    refine qT 3 ?_
    try simp only [Act.put, qq]
    refine qT 4 ?_
    try simp only [Act.put, qq]
    refine qR 5 fun K hK => ?_
    go_simp
    refine (HV.out _).mono ?_
    rintro e wa ⟨rfl, ha⟩
    have bb1 : Below wr.heap.size wr wa := bmore ((Below.refl _ _).drew) ha n!
    refine hK.out _ _ (HSS.out _ bb1) (fun hHeld => ?_)
    clear hK
    try simp only [Act.put, qq]
    refine qT 6 ?_
    try simp only [Act.put, qq]
    refine qT 7 ?_
    try simp only [Act.put, qq]
    refine qT 8 ?_
    try simp only [Act.put, qq]
    refine qT 9 ?_
    try simp only [Act.put, qq]
    refine qT 10 ?_
    try simp only [Act.put, qq]
    refine qT 11 ?_
    try simp only [Act.put, qq]
    refine qT 12 ?_
    try simp only [Act.put, qq]
    refine qT 13 ?_
    try simp only [Act.put, qq]
    refine qT 14 ?_
    try simp only [Act.put, qq]
    refine qT 15 ?_
    try simp only [Act.put, qq]
    refine qR 16 fun K hK => ?_
    go_simp
    refine (HT.out _ bb1).mono ?_
    rintro e wb ⟨rfl, hb⟩
    have bb2 : Below wr.heap.size wr wb := bmore bb1 hb n!
    refine hK.out _ _ (HSS.out _ bb2) (fun hHeld => ?_)
    clear hK
    try simp only [Act.put, qq]
    refine qT 17 ?_
    try simp only [Act.put, qq]
    refine qT 18 ?_
    try simp only [Act.put, qq]
    refine wpAnyH_done (by kernel_rfl) ?_ _
    go_wp2_with fail
    go_roundw
    case rel => exact ⟨k + 1, by omega, by go_num, h! ⟨bmore HRB.out bb2 n!, HRE.out⟩, h! (bmore HR1.out bb2 n!)⟩
    case measure => simp [intOf]; omega
  ·obtain rfl : k = 6 := by omega
   have hd : true = r := by have := HR.out.2; simpa using this
   have HD := h! hd
   have HB := h! HR.out.1
   clear hd HR
   go_wp2_with fail
   go_ret
   exact bool_ret HD.out HB.out
end Go.Proofs.YtiiobafcgdelmaaGreat.PD
