/-
  Package skeen: deliver. Conditions: what waits rises by ids; not many.
-/
import Derived.Test.YteebeiaokfenmaaGreatK04
import Derived.Test.YteebeiaokfenmaaGreatK09
namespace Go.Proofs.YteebeiaokfenmaaGreat.KP
open Go.RowKit CP TP
open CM (Mg Cm)
open TM (Sp)
open KM (Wt Sk)
set_option linter.unusedVariables false
set_option linter.unusedSimpArgs false
set_option maxRecDepth 100000
section
variable {ws : List Wt} {ds : List Sp} {out : List Mg}
theorem dv_step {x : Wt} (hx : ws[KM.lst ws]? = some x) (hf : x.f = true) : KM.drain ws.length ws ds out = KM.drain (ws.eraseIdx (KM.lst ws)).length (ws.eraseIdx (KM.lst ws)) (ds ++ [KM.stp x]) (out ++ [x.m]) := by
  have hl := (List.getElem?_eq_some_iff.1 hx).1
  have he : (ws.eraseIdx (KM.lst ws)).length = ws.length - 1 := by rw [List.length_eraseIdx, if_pos hl]
  rw [he]
  obtain ⟨n, hn⟩ : ∃ n, ws.length = n + 1 := ⟨ws.length - 1, by omega⟩
  rw [hn, Nat.add_sub_cancel]
  show (match ws[KM.lst ws]? with | none => (ws, ds, out) | some w => if w.f then KM.drain n (ws.eraseIdx (KM.lst ws)) (ds ++ [KM.stp w]) (out ++ [w.m]) else (ws, ds, out)) = _
  rw [hx]
  simp [hf]
theorem dv_stop {x : Wt} (hx : ws[KM.lst ws]? = some x) (hf : x.f = false) : KM.drain ws.length ws ds out = (ws, ds, out) := by
  have hl := (List.getElem?_eq_some_iff.1 hx).1
  obtain ⟨n, hn⟩ : ∃ n, ws.length = n + 1 := ⟨ws.length - 1, by omega⟩
  rw [hn]
  show (match ws[KM.lst ws]? with | none => (ws, ds, out) | some w => if w.f then KM.drain n (ws.eraseIdx (KM.lst ws)) (ds ++ [KM.stp w]) (out ++ [w.m]) else (ws, ds, out)) = _
  rw [hx]
  simp [hf]
theorem dv_nil : KM.drain ([] : List Wt).length [] ds out = ([], ds, out) := rfl
theorem dv_len : ∀ (n : Nat) (ws : List Wt) (ds : List Sp) (out : List Mg), ds.length ≤ (KM.drain n ws ds out).2.1.length
  | 0, _, _, _ => Nat.le_refl _
  | n + 1, ws, ds, out => by
    show _ ≤ (match ws[KM.lst ws]? with | none => (ws, ds, out) | some w => if w.f then KM.drain n (ws.eraseIdx (KM.lst ws)) (ds ++ [KM.stp w]) (out ++ [w.m]) else (ws, ds, out)).2.1.length
    rcases ws[KM.lst ws]? with _ | x
    · exact Nat.le_refl _
    · show _ ≤ (if x.f then KM.drain n (ws.eraseIdx (KM.lst ws)) (ds ++ [KM.stp x]) (out ++ [x.m]) else (ws, ds, out)).2.1.length
      split
      · have := dv_len n (ws.eraseIdx (KM.lst ws)) (ds ++ [KM.stp x]) (out ++ [x.m])
        rw [List.length_append] at this
        exact Nat.le_trans (Nat.le_add_right _ _) this
      · exact Nat.le_refl _
end
/-- how many wait, by the variable's cell -/
def lenC (w : World) (p : Nat) : Nat := match w.cell? ⟨p, 1, none⟩ with | some (.slice _ n _) => n | _ => 0
theorem lenC_of {w0 W : World} {b p : Nat} {c : Int} {A : Option Addr} {n cw : Nat} {vD : Value} {ws : List Wt} {ds : List Sp} (h : PtC w0 b p c (.slice A n cw) vD ws ds W) : lenC W p = ws.length := by
  have h1 := h.bx.cell 1
  unfold lenC
  rw [h1]
  exact h.ow.slice.1
/-- while it gathers -/
structure DvR (w0 : World) (b p : Nat) (sc : Int) (D : List Wt × List Sp × List Mg) (vm : Value) (ws : List Wt) (ds : List Sp) (out : List Mg) (W : World) : Prop where
  pt : ∃ A n cw B m cd, PtC w0 b p sc (.slice A n cw) (.slice B m cd) ws ds W
  ms : KO KM_ W b 33 vm out
  eq : KM.drain ws.length ws ds out = D
  so : ws.Pairwise fun a b => a.m.id < b.m.id
  le : out.length + ws.length ≤ 200 ∧ ds.length ≤ 200
theorem DvR.len {w0 W : World} {b p : Nat} {sc : Int} {D : List Wt × List Sp × List Mg} {vm : Value} {ws : List Wt} {ds : List Sp} {out : List Mg} (h : DvR w0 b p sc D vm ws ds out W) : lenC W p = ws.length := by
  obtain ⟨A, n, cw, B, m, cd, h1⟩ := h.pt
  exact lenC_of h1
/-- what deliver answers -/
def DvQ (w0 : World) (b p : Nat) (sc : Int) (D : List Wt × List Sp × List Mg) (e : Ending) (w' : World) : Prop :=
  (D.2.1.length ≤ 200 ∧ ∃ vm, e = .returned (.tuple #[vm, .int .i64 0]) ∧ KO KM_ w' b 33 vm D.2.2 ∧ ∃ vW vD, PtC w0 b p sc vW vD D.1 D.2.1 w') ∨
    (200 < D.2.1.length ∧ e = .returned (.tuple #[.slice none 0 0, .int .i64 9]) ∧ ∃ vW vD ws ds, PtC w0 b p sc vW vD ws ds w')
set_option maxHeartbeats 16000000 in
theorem pdeliver15_any (w0 : World) (b p : Nat) (sc : Int) (vW vD : Value) (ws : List Wt) (ds : List Sp) (W : World) (h : PtC w0 b p sc vW vD ws ds W) (hp : ws.Pairwise fun a b => a.m.id < b.m.id) (hn : ws.length ≤ 200) (hd : ds.length ≤ 200) :
    Calls Tryz.prog 87 #[.pointer (some ⟨p, 0, none⟩)] W (DvQ w0 b p sc (KM.drain ws.length ws ds [])) := by
  obtain ⟨j0, hj, hy0, hy1, hy2⟩ := info_parts info_mg
  obtain ⟨D, hD⟩ : ∃ D, D = KM.drain ws.length ws ds [] := ⟨_, rfl⟩
  rw [← hD]
  have hst : DvR w0 b p sc D (.slice none 0 0) ws ds [] W := by
    obtain ⟨A, n, cw, B, cd, e1, e2, e3⟩ := h.forms
    subst e1 e2
    exact ⟨⟨A, _, cw, B, _, cd, h⟩, kO_nil KM_ _ _ _, hD.symm, hp, by simpa using ⟨hn, hd⟩⟩
  have HT := Lib.hid hst
  clear hst hD h hp hn hd
  go_enter Tryz.func87, Tryz.ntmps87
  go_wp2_with fail
  go_step3
  go_wp2_with fail
  go_step3
  go_wp2_with fail
  go_loopw [4] (fun u wr => ∃ (E : Option Addr) (m9 f : Nat) (ws : List Wt) (ds : List Sp) (out : List Mg), u = .slice E m9 f ∧ Hid (DvR w0 b p sc D (.slice E m9 f) ws ds out wr)) (fun _ wr => lenC wr p)
  case atStart => exact ⟨none, 0, 0, ws, ds, [], rfl, HT⟩
  case round =>
    clear HT
    obtain ⟨E, m9, f, ws, ds, out, rfl, HT⟩ := hrel
    have HLN := Lib.hid HT.out.len
    obtain ⟨A, n, cw, B, m, cd, hpt⟩ := HT.out.pt
    have HPT := Lib.hid hpt
    have HNL := Lib.hid hpt.ow.slice.1
    have HML := Lib.hid (show m = ds.length by obtain ⟨_, _, e, _⟩ := own_form hpt.od; injection e)
    have hle := HT.out.le
    have hn2 : n ≤ 200 := by have := HNL.out; omega
    obtain ⟨x0, x1, x2⟩ := box_sk hpt.bx
    clear hpt
    by_cases h0 : n = 0
    · have hws : ws = [] := List.eq_nil_of_length_eq_zero (by have := HNL.out; omega)
      have HE := Lib.hid (show D = ([], ds, out) by have h1 := HT.out.eq; rw [hws] at h1; exact h1.symm)
      subst h0
      go_wp2_with fail
      go_ret2
      exact .inl ⟨by rw [HE.out]; exact hle.2, _, rfl, by rw [HE.out]; exact HT.out.ms, _, _, by rw [HE.out, ← hws]; exact HPT.out⟩
    · have hn1 : (0 : Int) < (n : Int) := by omega
      have CM := Lib.hid (pmin_any A n cw ws wr HPT.out.ow.slice.2.2.2.r (by intro e; have := HNL.out; rw [e] at this; exact h0 this))
      go_wp2_with fail
      refine (CM.out).mono ?_
      rintro e w2 ⟨bl, o, Q, q9, x, hA, hx, hat, rfl, hb⟩
      subst hA
      obtain ⟨q, hq⟩ := HPT.out.ow.some hx
      injection hq with hq
      injection hq with hq1 hq2
      subst hq1 hq2
      obtain ⟨Q2, q2, hat2, _, hrow⟩ := wtc_store HPT.out.ow hx
      rw [Nat.zero_add] at hat
      have e1 := hat.2.1
      rw [hat2.2.1] at e1
      injection e1 with e1
      injection e1 with e1 _ e2
      subst e1 e2
      have HX := Lib.hid hx
      have HR2 := Lib.hid (hrow.below hb)
      have HP2 := Lib.hid (HPT.out.below hb)
      have HM2 := Lib.hid (HT.out.ms.below hb)
      clear hat hat2 hrow hb CM x0 x1 x2 hx
      obtain ⟨k, hk⟩ : ∃ k, k = KM.lst ws := ⟨_, rfl⟩
      have HKL := Lib.hid hk
      rw [← hk] at HX
      clear hk
      have hws2 : ws.length ≤ 200 := by omega
      have C1 := Lib.hid (fun W' (t : PtC w0 b p sc (.slice (some ⟨bl, 0, none⟩) n cw) (.slice B m cd) ws ds W') => ptake15_any w0 b p sc (some ⟨bl, 0, none⟩) n cw B m cd ws ds k x Q2 q2 W' t HX.out HT.out.so hws2 hle.2)
      unfold vwt at C1 ⊢
      go_upto_region 4 with (fail)
      have hb3 : Below w2.heap.size w2 (w2.alloc (.cells #[.int .i64 x.m.id, .slice Q2 x.m.gs.length q2, .int .i64 x.m.tp, .string x.m.key, .string x.m.body, .int .i64 x.t, .bool x.f] 78)) := (Below.refl _ _).alloc (Nat.le_refl _) _
      have HP3 := Lib.hid (HP2.out.below hb3)
      have HM3 := Lib.hid (HM2.out.below hb3)
      have HR3 := Lib.hid (HR2.out.below hb3)
      have Y3 := Lib.hid (Box.new w2 78 #[.int .i64 x.m.id, .slice Q2 x.m.gs.length q2, .int .i64 x.m.tp, .string x.m.key, .string x.m.body, .int .i64 x.t, .bool x.f])
      have HSZ := Lib.hid (show b ≤ w2.heap.size from HP2.out.ord.2)
      have HBLT := Lib.hid (show bl < w2.heap.size from (HP2.out.ow.blk (g := bl) rfl).2)
      have HGP := Lib.hid (show w2.heap.size ≠ p from fun e => by have := HP2.out.bx.lt; omega)
      clear hb3 HP2 HM2 HR2
      generalize w2.alloc (.cells #[.int .i64 x.m.id, .slice Q2 x.m.gs.length q2, .int .i64 x.m.tp, .string x.m.key, .string x.m.body, .int .i64 x.t, .bool x.f] 78) = w3 at HP3 HM3 HR3 Y3 ⊢
      generalize w2.heap.size = g5 at Y3 HSZ HBLT HGP ⊢
      obtain ⟨x0, x1, x2⟩ := box_sk HP3.out.bx
      obtain ⟨a0, a1, a2, a3, a4, a5, a6⟩ := box_wt Y3.out
      rcases hxf : x.f with _ | _
      · have HE := Lib.hid (show D = (ws, ds, out) by have h1 := HT.out.eq; rw [dv_stop (by rw [← HKL.out]; exact HX.out) hxf] at h1; exact h1.symm)
        rw [hxf] at a6
        go_wp2_with fail
        go_ret2
        exact .inl ⟨by rw [HE.out]; exact hle.2, _, rfl, by rw [HE.out]; exact HM3.out, _, _, by rw [HE.out]; exact HP3.out⟩
      have HXF := Lib.hid hxf
      rw [hxf] at a6 C1
      have HST := Lib.hid (show KM.drain (ws.eraseIdx k).length (ws.eraseIdx k) (ds ++ [KM.stp x]) (out ++ [x.m]) = D from by have h1 := HT.out.eq; rw [dv_step (by rw [← HKL.out]; exact HX.out) hxf, ← HKL.out] at h1; exact h1)
      clear hxf
      by_cases hf : m = 200
      · have HF := Lib.hid (show 200 < D.2.1.length from by
          have h1 := dv_len (ws.eraseIdx k).length (ws.eraseIdx k) (ds ++ [KM.stp x]) (out ++ [x.m])
          rw [HST.out, List.length_append, List.length_singleton] at h1
          have := HML.out
          omega)
        subst hf
        go_wp2_with fail
        go_ret2
        exact .inr ⟨HF.out, rfl, _, _, _, _, HP3.out⟩
      have hf2 : ((m : Int) == 200) = false := by simp; omega
      have hf3 : ¬ ((m : Int) = 200) := by omega
      go_wp2_with fail
      refine (C1.out _ HP3.out).mono ?_
      rintro e w4 ⟨rfl, ⟨vW4, vD4, hp4⟩, hk4, hbx⟩
      have HP4 := Lib.hid hp4
      have HM4 := Lib.hid (KO.kept hk4 isC_int isC_msg HM3.out)
      have HR4 := Lib.hid (rowGe_kept hk4 isC_int HR3.out)
      have Y4 := Lib.hid (hbx g5 _ (fun e => by
        injection e with e
        injection e with e
        have h1 := HBLT.out
        omega) HGP.out Y3.out)
      have HQ4 := Lib.hid hp4.forms
      clear hp4 hk4 hbx a0 a1 a2 a3 a4 a5 a6 x0 x1 x2 C1 HP3 HM3 HR3 Y3
      obtain ⟨a0, a1, a2, a3, a4, a5, a6⟩ := box_wt Y4.out
      have HML2 := Lib.hid HM4.out.slice.1
      have HNE := Lib.hid (show ∀ ad, Q2 = some ad → 0 < (KM_.gs x.m).length → (Value.slice E m9 f).ownBlock ≠ some ad.block from fun ad e hn kk => by
        obtain ⟨g', cur, e', _, hbx, _⟩ := HR4.out.tn hn
        rw [e] at e'
        injection e' with e'
        subst e'
        obtain ⟨es, _, h2, _⟩ := HM4.out
        exact own_ne h2 hbx (by decide) kk.symm)
      have HOW := Lib.hid (show ∃ es : List (Ex Mg), (w4.alloc (.cells #[.int .i64 x.m.id, .slice Q2 x.m.gs.length q2, .int .i64 x.m.tp, .string x.m.key, .string x.m.body] 33)).ownsRow b 33 5 (.slice E m9 f) es.length (flat (exc KM_) es) from (by obtain ⟨es, _, h2, _⟩ := HM4.out; exact ⟨es, own_below3 h2 ((Below.refl _ _).alloc (Nat.le_refl _) _)⟩))
      have hwl : 0 < ws.length := by have := HNL.out; omega
      have hm9 : m9 ≤ 200 := by have := HML2.out; omega
      go_wp2_with (at_builtin; refine wpList_append_ko (K := KM_) rfl _ _ 40 rfl 33 j0 _ 72 Tryz.underlying40 hj hy0 hy1 hy2 rfl rfl HM4.out rfl #[.int .i64 x.m.id, .slice Q2 x.m.gs.length q2, .int .i64 x.m.tp, .string x.m.key, .string x.m.body] (show _ = KM_.cel Q2 q2 x.m from rfl) HR4.out HNE.out (by unfold maxLen; omega) (by omega) HP4.out.ord.2 ?_; intro A6 c6 w6 hko hgr hob; have HG6 := Lib.hid hgr; have HM6 := Lib.hid hko; clear hko hgr hob)
      have NX := Lib.hid (show DvR w0 b p sc D (.slice A6 (m9 + 1) c6) (ws.eraseIdx k) (ds ++ [KM.stp x]) (out ++ [x.m]) w6 from by
        obtain ⟨A5, n5, cw5, B5, cd5, e1, e2, e3⟩ := HQ4.out
        have hp5 := HP4.out.below (show Below w4.heap.size w4 (w4.alloc (.cells #[.int .i64 x.m.id, .slice Q2 x.m.gs.length q2, .int .i64 x.m.tp, .string x.m.key, .string x.m.body] 33)) from (Below.refl _ _).alloc (Nat.le_refl _) _)
        obtain ⟨es, hoe⟩ := HOW.out
        have hkp := Kept.grown (S := fun e => e = 33) hoe rfl HG6.out
        have hp6 := hp5.kept hkp (below_row (Below.refl _ _) hoe hp5.ord.2 HG6.out) (by decide) (by decide) (by decide) (by decide)
        rw [e1, e2] at hp6
        have hkl := (List.getElem?_eq_some_iff.1 HX.out).1
        refine ⟨⟨A5, _, cw5, B5, _, cd5, hp6⟩, HM6.out, HST.out, HT.out.so.sublist (List.eraseIdx_sublist _ _), ?_⟩
        have h1 := HML.out
        rw [List.length_append, List.length_append, List.length_eraseIdx, if_pos hkl]
        simp only [List.length_singleton]
        omega)
      have HLE := Lib.hid (show lenC w6 p < lenC wr p by
        have hkl := (List.getElem?_eq_some_iff.1 HX.out).1
        rw [NX.out.len, HLN.out, List.length_eraseIdx, if_pos hkl]
        omega)
      go_roundw
      case rel => exact ⟨A6, _, c6, _, _, _, rfl, NX⟩
      case measure => exact HLE.out
end Go.Proofs.YteebeiaokfenmaaGreat.KP
