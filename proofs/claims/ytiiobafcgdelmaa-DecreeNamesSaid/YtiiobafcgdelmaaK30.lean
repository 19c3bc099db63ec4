/-
  Package decree's isNode, isMail, isAllMail, areChoices, hasRoom. Conditions: as each theorem says.
-/
import Derived.Test.YtiiobafcgdelmaaK29
import Derived.Test.YtiiobafcgdelmaaK06
namespace Go.Proofs.Ytiiobafcgdelmaa.PD
open Go.RowKit
set_option linter.unusedVariables false
set_option linter.unusedSimpArgs false

theorem node_yes (n : Int) (w : World) (h : DC.isNode n) : Calls Try.prog 27 #[.int .i64 n] w fun e w' => e = .returned (.bool true) ∧ w = w' := by
  obtain ⟨h0, h1⟩ := h
  go_enter Try.func27, Try.ntmps27
  go_wp2
  go_ret
  exact ⟨rfl, rfl⟩
theorem node_no (n : Int) (w : World) (h : ¬ DC.isNode n) : Calls Try.prog 27 #[.int .i64 n] w fun e w' => e = .returned (.bool false) ∧ w = w' := by
  rcases (show n < 0 ∨ 6 ≤ n by unfold DC.isNode at h; omega) with h1 | h1
  all_goals
    clear h
    go_enter Try.func27, Try.ntmps27
    go_wp2
    go_ret
    exact ⟨by simp; try omega, rfl⟩
/-- the fields of mail of this layer, whatever the others are -/
def MailOk (m : DC.Ml) : Prop := DC.isNode m.f ∧ DC.isNode m.t ∧ 1 ≤ m.k ∧ m.k ≤ 5 ∧ BM.good m.b ∧ 0 ≤ m.p ∧ m.v.size ≤ 1024
instance (m : DC.Ml) : Decidable (MailOk m) := by unfold MailOk; infer_instance
instance (m : DC.Ml) : Decidable (DC.MayM m) := by unfold DC.MayM; infer_instance
instance (c : DC.Ch) : Decidable (DC.MayC c) := by unfold DC.MayC; infer_instance
theorem mayM_ok (m : DC.Ml) : DC.MayM m ↔ (m.g = 0 ∧ m.s = 0 ∧ m.i = 0 ∧ m.m = 0) ∧ MailOk m := by
  unfold DC.MayM DC.mk MailOk
  constructor
  · rintro ⟨h, hr⟩
    obtain ⟨f, t, k, g, s, b, p, v, i, mm⟩ := m
    simp only [DC.Ml.mk.injEq, true_and] at h
    exact ⟨⟨h.1, h.2.1, h.2.2.1, h.2.2.2⟩, hr⟩
  · rintro ⟨⟨h1, h2, h3, h4⟩, hr⟩
    refine ⟨?_, hr⟩
    obtain ⟨f, t, k, g, s, b, p, v, i, mm⟩ := m
    simp only at h1 h2 h3 h4
    subst h1 h2 h3 h4
    rfl
set_option maxRecDepth 100000 in
set_option maxHeartbeats 2000000 in
theorem isMail_any (m : DC.Ml) (w : World) (hF : MFit m) :
    Calls Try.prog 38 #[.agg #[.int .i64 m.f, .int .i64 m.t, .int .u8 m.k, .int .i64 m.g, .int .i64 m.s, .int .i64 m.b, .int .i64 m.p, .string m.v, .int .i64 m.i, .int .i64 m.m]] w (BoolIs (decide (MailOk m)) w) := by
  have hb0 : ∀ o : Obj, Below w.heap.size w (w.alloc o) := fun o => (Below.refl _ _).alloc (Nat.le_refl _) _
  have HB := Lib.hid hb0
  obtain ⟨r, n, y, hof⟩ := BM.ofIs_ex m.b
  obtain ⟨hk1, hk2, hbb1, hbb2, hpp, hvv⟩ := hF
  have hv63 : m.v.size ≤ 9223372036854775807 := by unfold maxLen at hvv; omega
  have HG := Lib.hid (fun W => check_any hof hbb1 hbb2 W)
  have hy : (BM.good m.b ∧ y = 0) ∨ (¬ BM.good m.b ∧ y = 50) := by rcases hof with ⟨h, _, _, h2⟩ | ⟨h, _, _, h2⟩; (· exact .inl ⟨h, h2⟩); (· exact .inr ⟨h, h2⟩)
  clear hof hb0
  obtain ⟨f, t, k, g, s, b, p, v, i, mm⟩ := m
  simp only at hk1 hk2 hbb1 hbb2 hpp hvv hv63 HG hy ⊢
  have hno : ¬ (DC.isNode f ∧ DC.isNode t ∧ 1 ≤ k ∧ k ≤ 5 ∧ BM.good b ∧ 0 ≤ p ∧ v.size ≤ 1024) → decide (MailOk ⟨f, t, k, g, s, b, p, v, i, mm⟩) = false := fun h => decide_eq_false (fun hm => h hm)
  have hyes : (DC.isNode f ∧ DC.isNode t ∧ 1 ≤ k ∧ k ≤ 5 ∧ BM.good b ∧ 0 ≤ p ∧ v.size ≤ 1024) → decide (MailOk ⟨f, t, k, g, s, b, p, v, i, mm⟩) = true := fun h => decide_eq_true h
  have HNO := Lib.hid hno
  have HYES := Lib.hid hyes
  clear hno hyes
  generalize decide (MailOk ⟨f, t, k, g, s, b, p, v, i, mm⟩) = r at HNO HYES ⊢
  by_cases h0 : DC.isNode f
  rotate_left
  · have HF := Lib.hid (HNO.out (fun h => h0 (h.1)))
    have HC := Lib.hid (fun W => node_no f W h0)
    clear HNO HYES h0
    go_enter Try.func38, Try.ntmps38
    go_wp2_with fail
    refine (HC.out _).mono ?_
    rintro e w9 ⟨rfl, rfl⟩
    go_wp2_with fail
    go_ret
    exact bool_ret (by rw [HF.out]; try simp; try omega) (HB.out _)
  have HC := Lib.hid (fun W => node_yes f W h0)
  by_cases h1 : DC.isNode t
  rotate_left
  · have HF := Lib.hid (HNO.out (fun h => h1 (h.2.1)))
    have HT := Lib.hid (fun W => node_no t W h1)
    clear HNO HYES h0 h1
    go_enter Try.func38, Try.ntmps38
    go_wp2_with fail
    refine (HC.out _).mono ?_
    rintro e w9 ⟨rfl, rfl⟩
    go_wp2_with fail
    refine (HT.out _).mono ?_
    rintro e w9 ⟨rfl, rfl⟩
    go_wp2_with fail
    go_ret
    exact bool_ret (by rw [HF.out]; try simp; try omega) (HB.out _)
  have HT := Lib.hid (fun W => node_yes t W h1)
  by_cases h2 : 1 ≤ k
  rotate_left
  · have HF := Lib.hid (HNO.out (fun h => h2 (h.2.2.1)))
    have hn2 : k < 1 := by omega
    clear HNO HYES h0 h1
    go_enter Try.func38, Try.ntmps38
    go_wp2_with fail
    refine (HC.out _).mono ?_
    rintro e w9 ⟨rfl, rfl⟩
    go_wp2_with fail
    refine (HT.out _).mono ?_
    rintro e w9 ⟨rfl, rfl⟩
    go_wp2_with fail
    go_ret
    exact bool_ret (by rw [HF.out]; try simp; try omega) (HB.out _)
  by_cases h3 : k ≤ 5
  rotate_left
  · have HF := Lib.hid (HNO.out (fun h => h3 (h.2.2.2.1)))
    have hn3 : 5 < k := by omega
    clear HNO HYES h0 h1
    go_enter Try.func38, Try.ntmps38
    go_wp2_with fail
    refine (HC.out _).mono ?_
    rintro e w9 ⟨rfl, rfl⟩
    go_wp2_with fail
    refine (HT.out _).mono ?_
    rintro e w9 ⟨rfl, rfl⟩
    go_wp2_with fail
    go_ret
    exact bool_ret (by rw [HF.out]; try simp; try omega) (HB.out _)
  rcases hy with ⟨h4, rfl⟩ | ⟨h4, rfl⟩
  rotate_left
  · have HF := Lib.hid (HNO.out (fun h => h4 (h.2.2.2.2.1)))
    clear HNO HYES h0 h1 h4
    go_enter Try.func38, Try.ntmps38
    go_wp2_with fail
    refine (HC.out _).mono ?_
    rintro e w9 ⟨rfl, rfl⟩
    go_wp2_with fail
    refine (HT.out _).mono ?_
    rintro e w9 ⟨rfl, rfl⟩
    go_wp2_with fail
    refine (HG.out _).mono ?_
    rintro e w9 ⟨rfl, rfl⟩
    go_wp2_with fail
    go_ret
    exact bool_ret (by rw [HF.out]; try simp; try omega) (HB.out _)
  by_cases h5 : 0 ≤ p
  rotate_left
  · have HF := Lib.hid (HNO.out (fun h => h5 (h.2.2.2.2.2.1)))
    have hn5 : p < 0 := by omega
    clear HNO HYES h0 h1 h4
    go_enter Try.func38, Try.ntmps38
    go_wp2_with fail
    refine (HC.out _).mono ?_
    rintro e w9 ⟨rfl, rfl⟩
    go_wp2_with fail
    refine (HT.out _).mono ?_
    rintro e w9 ⟨rfl, rfl⟩
    go_wp2_with fail
    refine (HG.out _).mono ?_
    rintro e w9 ⟨rfl, rfl⟩
    go_wp2_with fail
    go_ret
    exact bool_ret (by rw [HF.out]; try simp; try omega) (HB.out _)
  by_cases h6 : v.size ≤ 1024
  rotate_left
  · have HF := Lib.hid (HNO.out (fun h => h6 (h.2.2.2.2.2.2)))
    have hn6 : 1024 < v.size := by omega
    clear HNO HYES h0 h1 h4
    go_enter Try.func38, Try.ntmps38
    go_wp2_with fail
    refine (HC.out _).mono ?_
    rintro e w9 ⟨rfl, rfl⟩
    go_wp2_with fail
    refine (HT.out _).mono ?_
    rintro e w9 ⟨rfl, rfl⟩
    go_wp2_with fail
    refine (HG.out _).mono ?_
    rintro e w9 ⟨rfl, rfl⟩
    go_wp2_with fail
    go_ret
    exact bool_ret (by rw [HF.out]; try simp; try omega) (HB.out _)
  have HF := Lib.hid (HYES.out ⟨h0, h1, h2, h3, h4, h5, h6⟩)
  clear HNO HYES h0 h1 h4
  go_enter Try.func38, Try.ntmps38
  go_wp2_with fail
  refine (HC.out _).mono ?_
  rintro e w9 ⟨rfl, rfl⟩
  go_wp2_with fail
  refine (HT.out _).mono ?_
  rintro e w9 ⟨rfl, rfl⟩
  go_wp2_with fail
  refine (HG.out _).mono ?_
  rintro e w9 ⟨rfl, rfl⟩
  go_wp2_with fail
  go_ret
  exact bool_ret (by rw [HF.out]; try simp; try omega) (HB.out _)

/-- the word of isAllMail's loop -/
def AllRel (W : World) (ml : List DC.Ml) (r : Bool) (k : Nat) (wr : World) : Prop := Below W.heap.size W wr ∧ (ml.drop k).all (fun m => decide (DC.MayM m)) = r
set_option maxRecDepth 100000 in
set_option maxHeartbeats 4000000 in
theorem isAllMail_any (A : Option Addr) (n c : Nat) (ml : List DC.Ml) (W : World) (hr : RdG W 10 A n (flat mcell ml)) (hn : ml.length = n) (h63 : n ≤ 2000) (F : ∀ m ∈ ml, MFit m) :
    Calls Try.prog 23 #[.slice A n c] W (BoolIs (ml.all (fun m => decide (DC.MayM m))) W) := by
  obtain ⟨r, hrr⟩ : ∃ r, r = ml.all (fun m => decide (DC.MayM m)) := ⟨_, rfl⟩
  rw [← hrr]
  have hst : AllRel W ml r 0 W := ⟨Below.refl _ _, hrr.symm⟩
  have HS := Lib.hid hst; clear hst hrr
  have HF := Lib.hid F; clear F
  have HW := Lib.hid hr; clear hr
  have HN := Lib.hid hn; clear hn
  go_enter Try.func23, Try.ntmps23
  go_wp2_with fail
  go_loopw [8] (fun i wr => ∃ k : Nat, k ≤ n ∧ i = .int .i64 k ∧ Hid (AllRel W ml r k wr)) (fun i _ => n - (intOf i).toNat)
  case atStart => exact ⟨0, by omega, rfl, HS⟩
  case round =>
    clear HS
    obtain ⟨k, hk, rfl, HR⟩ := hrel
    by_cases hlt : k < n
    · have hkm : k < ml.length := by have := HN.out; omega
      obtain ⟨bl, o, rfl, hbl, c0, c1, c2, c3, c4, c5, c6, c7, c8, c9⟩ := RdG.mail (RdG.below HW.out HR.out.1) hlt (List.getElem?_eq_getElem hkm)
      have hre := HR.out.2
      rw [List.drop_eq_getElem_cons hkm, List.all_cons] at hre
      have hfm : MFit ml[k] := HF.out _ (List.getElem_mem ..)
      generalize ml[k] = m at c0 c1 c2 c3 c4 c5 c6 c7 c8 c9 hre hfm
      have hiff := mayM_ok m
      have hc := fun W => isMail_any m W hfm
      have HB := Lib.hid HR.out.1
      have hb1 : ∀ o1 o2 : Obj, Below W.heap.size W ((wr.alloc o1).alloc o2) := fun o1 o2 => bmore HR.out.1 (((Below.refl _ _).alloc (Nat.le_refl _) _).alloc (by simp) _) (Nat.le_refl _)
      have HB1 := Lib.hid hb1
      clear hb1 HR hfm hkm
      by_cases hz : m.g = 0 ∧ m.s = 0 ∧ m.i = 0 ∧ m.m = 0
      · obtain ⟨f, t, kk, g, s, b, p, v, i, mm⟩ := m
        simp only at c0 c1 c2 c3 c4 c5 c6 c7 c8 c9 hre hc hz hiff
        obtain ⟨rfl, rfl, rfl, rfl⟩ := hz
        have hd : decide (DC.MayM ⟨f, t, kk, 0, 0, b, p, v, 0, 0⟩) = decide (MailOk ⟨f, t, kk, 0, 0, b, p, v, 0, 0⟩) := by rw [decide_eq_decide, hiff]; simp
        rw [hd] at hre
        have HC := Lib.hid hc
        clear hiff hd hc
        generalize decide (MailOk ⟨f, t, kk, 0, 0, b, p, v, 0, 0⟩) = q at hre HC
        rcases q with _ | _
        · have HRE := Lib.hid hre
          clear hre
          go_wp2_with fail
          refine (HC.out _).mono ?_
          rintro e w1 ⟨rfl, hb⟩
          have HB2 := Lib.hid (bmore (HB1.out _ _) hb (Nat.le_refl _)); clear hb
          go_wp2_with fail
          go_ret
          exact bool_ret (by simpa using HRE.out) HB2.out
        · rw [Bool.true_and] at hre
          have HRE := Lib.hid hre
          clear hre
          go_wp2_with fail
          refine (HC.out _).mono ?_
          rintro e w1 ⟨rfl, hb⟩
          have HB2 := Lib.hid (bmore (HB1.out _ _) hb (Nat.le_refl _)); clear hb
          go_wp2_with fail
          go_roundw
          case rel => exact ⟨k + 1, by omega, by go_num, Lib.hid ⟨HB2.out, HRE.out⟩⟩
          case measure => simp [intOf]; omega
      · have hd : decide (DC.MayM m) = false := decide_eq_false (fun hm => hz (hiff.1 hm).1)
        rw [hd, Bool.false_and] at hre
        have HRE := Lib.hid hre
        have hz2 : m.g = 0 → m.s = 0 → m.i = 0 → m.m = 0 → False := fun h1 h2 h3 h4 => hz ⟨h1, h2, h3, h4⟩
        have HZ := Lib.hid hz2
        clear hre hiff hc hd hz hz2
        obtain ⟨f, t, kk, g, s, b, p, v, i, mm⟩ := m
        simp only at c0 c1 c2 c3 c4 c5 c6 c7 c8 c9 HZ
        go_wp2_with fail
        all_goals first
          | exact absurd (HZ.out (by assumption) (by assumption) (by assumption) (by assumption)) id
          | (go_ret; exact bool_ret HRE.out (HB1.out _ _))
    · obtain rfl : n = k := by omega
      have hd : true = r := by have := HR.out.2; rw [List.drop_of_length_le (by have := HN.out; omega)] at this; simpa using this
      have HD := Lib.hid hd
      have HB := Lib.hid HR.out.1
      clear hd HR
      go_wp2_with fail
      go_ret
      exact bool_ret HD.out HB.out
/-- the word of areChoices' loop -/
def ChRel (W : World) (ml : List DC.Ch) (r : Bool) (k : Nat) (wr : World) : Prop := Below W.heap.size W wr ∧ (ml.drop k).all (fun m => decide (DC.MayC m)) = r
set_option maxRecDepth 100000 in
set_option maxHeartbeats 4000000 in
theorem areChoices_any (A : Option Addr) (n c : Nat) (ml : List DC.Ch) (W : World) (hr : RdG W 2 A n (flat ccell ml)) (hn : ml.length = n) (h63 : n ≤ 2000) (F : ∀ m ∈ ml, m.v.size ≤ maxLen) :
    Calls Try.prog 24 #[.slice A n c] W (BoolIs (ml.all (fun m => decide (DC.MayC m))) W) := by
  obtain ⟨r, hrr⟩ : ∃ r, r = ml.all (fun m => decide (DC.MayC m)) := ⟨_, rfl⟩
  rw [← hrr]
  have hst : ChRel W ml r 0 W := ⟨Below.refl _ _, hrr.symm⟩
  have HS := Lib.hid hst; clear hst hrr
  have HF := Lib.hid F; clear F
  have HW := Lib.hid hr; clear hr
  have HN := Lib.hid hn; clear hn
  go_enter Try.func24, Try.ntmps24
  go_wp2_with fail
  go_loopw [7] (fun i wr => ∃ k : Nat, k ≤ n ∧ i = .int .i64 k ∧ Hid (ChRel W ml r k wr)) (fun i _ => n - (intOf i).toNat)
  case atStart => exact ⟨0, by omega, rfl, HS⟩
  case round =>
    clear HS
    obtain ⟨k, hk, rfl, HR⟩ := hrel
    by_cases hlt : k < n
    · have hkm : k < ml.length := by have := HN.out; omega
      obtain ⟨bl, o, rfl, hbl, c0, c1⟩ := RdG.choice (RdG.below HW.out HR.out.1) hlt (List.getElem?_eq_getElem hkm)
      have hre := HR.out.2
      rw [List.drop_eq_getElem_cons hkm, List.all_cons] at hre
      have hfm := HF.out _ (List.getElem_mem hkm)
      generalize ml[k] = m at c0 c1 hre hfm
      obtain ⟨x, v⟩ := m
      simp only at c0 c1 hfm
      have hv63 : v.size ≤ 9223372036854775807 := by unfold maxLen at hfm; omega
      have hb1 : ∀ o1 : Obj, Below W.heap.size W (wr.alloc o1) := fun o1 => bmore HR.out.1 ((Below.refl _ _).alloc (Nat.le_refl _) _) (Nat.le_refl _)
      have HB1 := Lib.hid hb1
      clear hb1 HR hfm hkm
      by_cases h0 : DC.isNode x
      · have HC := Lib.hid (fun W => node_yes x W h0)
        by_cases h1 : v.size ≤ 1024
        · have hd : decide (DC.MayC ⟨x, v⟩) = true := decide_eq_true (show DC.MayC ⟨x, v⟩ from ⟨h0, h1⟩)
          rw [hd, Bool.true_and] at hre
          have HRE := Lib.hid hre
          clear hre hd h0
          go_wp2_with fail
          refine (HC.out _).mono ?_
          rintro e w1 ⟨rfl, rfl⟩
          go_wp2_with fail
          go_roundw
          case rel => exact ⟨k + 1, by omega, by go_num, Lib.hid ⟨HB1.out _, HRE.out⟩⟩
          case measure => simp [intOf]; omega
        · have hd : decide (DC.MayC ⟨x, v⟩) = false := decide_eq_false (show ¬ DC.MayC ⟨x, v⟩ from fun h => h1 h.2)
          rw [hd, Bool.false_and] at hre
          have HRE := Lib.hid hre
          have h2 : 1024 < v.size := by omega
          clear hre hd h0 h1
          go_wp2_with fail
          refine (HC.out _).mono ?_
          rintro e w1 ⟨rfl, rfl⟩
          go_wp2_with fail
          go_ret
          exact bool_ret HRE.out (HB1.out _)
      · have HC := Lib.hid (fun W => node_no x W h0)
        have hd : decide (DC.MayC ⟨x, v⟩) = false := decide_eq_false (show ¬ DC.MayC ⟨x, v⟩ from fun h => h0 h.1)
        rw [hd, Bool.false_and] at hre
        have HRE := Lib.hid hre
        clear hre hd h0
        go_wp2_with fail
        refine (HC.out _).mono ?_
        rintro e w1 ⟨rfl, rfl⟩
        go_wp2_with fail
        go_ret
        exact bool_ret HRE.out (HB1.out _)
    · obtain rfl : n = k := by omega
      have hd : true = r := by have := HR.out.2; rw [List.drop_of_length_le (by have := HN.out; omega)] at this; simpa using this
      have HD := Lib.hid hd
      have HB := Lib.hid HR.out.1
      clear hd HR
      go_wp2_with fail
      go_ret
      exact bool_ret HD.out HB.out
set_option maxHeartbeats 1000000 in
theorem hasRoom_any (A0 A1 A2 A3 A4 : Option Addr) (n0 c0 n1 c1 n2 c2 n3 c3 n4 c4 : Nat) (W : World) (h3 : n3 ≤ 2000) (h4 : n4 ≤ 2000) :
    Calls Try.prog 21 #[.agg #[.slice A0 n0 c0, .slice A1 n1 c1, .slice A2 n2 c2, .slice A3 n3 c3, .slice A4 n4 c4]] W (BoolIs (decide (n3 ≤ 1000 ∧ n4 ≤ 1000)) W) := by
  have hb0 : ∀ o : Obj, Below W.heap.size W (W.alloc o) := fun o => (Below.refl _ _).alloc (Nat.le_refl _) _
  have HB := Lib.hid hb0; clear hb0
  by_cases h : n3 ≤ 1000
  · by_cases h' : n4 ≤ 1000
    · rw [decide_eq_true (show n3 ≤ 1000 ∧ n4 ≤ 1000 from ⟨h, h'⟩)]
      go_enter Try.func21, Try.ntmps21
      go_wp2_with fail
      go_ret
      exact bool_ret (by first | rfl | (simp; omega)) (HB.out _)
    · rw [decide_eq_false (show ¬ (n3 ≤ 1000 ∧ n4 ≤ 1000) from fun q => h' q.2)]
      go_enter Try.func21, Try.ntmps21
      go_wp2_with fail
      go_ret
      exact bool_ret (by first | rfl | (simp; omega)) (HB.out _)
  · rw [decide_eq_false (show ¬ (n3 ≤ 1000 ∧ n4 ≤ 1000) from fun q => h q.1)]
    go_enter Try.func21, Try.ntmps21
    go_wp2_with fail
    go_ret
    exact bool_ret (by first | rfl | (simp; omega)) (HB.out _)
end Go.Proofs.Ytiiobafcgdelmaa.PD
