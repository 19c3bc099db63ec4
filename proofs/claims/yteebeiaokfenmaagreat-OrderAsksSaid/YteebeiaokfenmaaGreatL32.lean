/- Contracts of functions, L32: each as its theorem says. -/
import Derived.Test.YteebeiaokfenmaaGreatL29
import Derived.Test.YteebeiaokfenmaaGreatL25
import Derived.Test.YteebeiaokfenmaaGreatL27
import Derived.Test.YteebeiaokfenmaaGreatL28
set_option linter.unusedVariables false
set_option linter.unusedSimpArgs false
set_option maxRecDepth 100000
set_option maxHeartbeats 16000000
namespace Go.Proofs.YteebeiaokfenmaaGreat
namespace CP
open Go.RowKit
open CM (Mg Cm)
theorem pwrite_6 (mi mt : Int) (mg : List Int) (mk mb : ByteArray) (aid atm : Int) (ams : List Int) (atp awh an : Int) (A : Option Addr) (c : Nat) (P : Option Addr) (q : Nat) (w : World) (r1 : RowIs w A c mg) (r3 : RowIs w P q ams) (hm : CM.may ⟨6, ⟨mi, mg, mt, mk, mb⟩, aid, atm, ams, atp, awh, an⟩) (hf : CmFit ⟨6, ⟨mi, mg, mt, mk, mb⟩, aid, atm, ams, atp, awh, an⟩) :
  Calls Tryz.prog 42 #[.agg #[.int .u8 6, .int .i64 mi, .slice A mg.length c, .int .i64 mt, .string mk, .string mb, .int .i64 aid, .int .i64 atm, .slice P ams.length q, .int .i64 atp, .int .i64 awh, .int .i64 an]] w fun e w' => e = .returned (.tuple #[.string ⟨(CM.wr ⟨6, ⟨mi, mg, mt, mk, mb⟩, aid, atm, ams, atp, awh, an⟩).toArray⟩, .int .i64 0]) ∧ Below w.heap.size w w' := by
 have CC := h! (fun W (hb : Below w.heap.size w W) => pcheck_any ⟨6, ⟨mi, mg, mt, mk, mb⟩, aid, atm, ams, atp, awh, an⟩ (.agg (ccells A c P q ⟨6, ⟨mi, mg, mt, mk, mb⟩, aid, atm, ams, atp, awh, an⟩)) W ⟨A, c, P, q, rfl, r1.below hb, r3.below hb⟩ hf)
 rw [if_pos hm] at CC
 unfold ccells at CC
 simp only at CC
 have hq := may_iff6.1 hm
 have q1 := hq.2.1
 have q2 := hq.2.2.2.2.1
 have q3 := hq.2.2.2.2.2.1
 clear hq
 unfold CM.idOk at q1
 obtain ⟨n0, rfl⟩ : ∃ n : Nat, aid = n := ⟨aid.toNat, by omega⟩
 have b0 : n0 ≤ 1099511627776 := by omega
 obtain ⟨n1, rfl⟩ : ∃ n : Nat, atp = n := ⟨atp.toNat, by omega⟩
 have b1 : n1 ≤ 1099511627776 := by omega
 obtain ⟨n2, rfl⟩ : ∃ n : Nat, an = n := ⟨an.toNat, by omega⟩
 have b2 : n2 ≤ 1099511627776 := by omega
 have le0 : (encs [6]).length ≤ 10 := encs_len [6]
 have le1 : (encs [n0, n1]).length ≤ 20 := encs_len [n0, n1]
 have le2 : (encs [n2]).length ≤ 10 := encs_len [n2]
 have hw : [] ++ encs [6] ++ encs [n0, n1] ++ encs [n2] = CM.wr ⟨6, ⟨mi, mg, mt, mk, mb⟩, n0, atm, ams, n1, awh, n2⟩ := by unfold CM.wr CM.bod; simp [List.append_assoc, encs]
 have HW := h! hw
 generalize CM.wr ⟨6, ⟨mi, mg, mt, mk, mb⟩, n0, atm, ams, n1, awh, n2⟩ = T at HW ⊢
 have CF := h! (fun w => fields_any (show Fl 6 false false false true false true from .inr (.inr (.inr (.inr (.inr (.inr (.inl ⟨rfl, rfl, rfl, rfl, rfl, rfl, rfl⟩))))))) w)
 have hb0 : Below w.heap.size w (w.alloc (.cells #[.int .u8 6, .int .i64 mi, .slice A mg.length c, .int .i64 mt, .string mk, .string mb, .int .i64 n0, .int .i64 atm, .slice P ams.length q, .int .i64 n1, .int .i64 awh, .int .i64 n2] 91)) := b!
 have HB := h! hb0
 have R0 := h! (Box.new w 91 #[.int .u8 6, .int .i64 mi, .slice A mg.length c, .int .i64 mt, .string mk, .string mb, .int .i64 n0, .int .i64 atm, .slice P ams.length q, .int .i64 n1, .int .i64 awh, .int .i64 n2])
 clear hb0 hw hm hf r1 r3 q1 q2 q3
 go_enter Tryz.func42, Tryz.ntmps42
 go_wp2_with fail
 refine (CC.out _ HB.out).mono ?_
 rintro e w1 ⟨rfl, hb1⟩
 have R1 := h! (R0.out.below hb1 R0.out.lt)
 have HB1 := h! (bmore HB.out hb1 (by simp))
 have HLT := h! (Nat.lt_of_lt_of_le R0.out.lt hb1.size)
 clear hb1 R0 HB CC
 have cN := (gat_nil w1).cell 0
 have fN := (gat_nil w1).frozen 0
 simp at cN
 have hst : ∀ (a : Addr) (fn : Fn) (x y : Array Value) (w : World), (store a (.func fn x y)).run Tryz.prog w = stored Tryz.prog w a (.func fn x y) .plain := fun _ _ _ _ _ => run_store _ _ _ _ _ rfl
 go_upto_region 7 with (fail)
 clear cN fN hst
 have GN := h! (gat_new w1)
 unfold gval at GN
 have hb2 := gat_below w1 (.func (.func 66) #[] #[.pointer (some ⟨w1.heap.size, 0, none⟩)])
 replace R1 := h! (R1.out.below hb2 R1.out.lt)
 replace HB1 := h! (bmore HB1.out hb2 n!)
 clear hb2
 generalize (w1.alloc (.cells #[.slice none 0 0] 120)).alloc (.cells #[.func (.func 66) #[] #[.pointer (some ⟨w1.heap.size, 0, none⟩)]] 121) = w2 at GN R1 HB1 ⊢
 generalize w1.heap.size = g at GN HLT ⊢
 obtain ⟨c0, c1, c2, c3, c4, c5, c6, c7, c8, c9, c10, c11⟩ := box_cm R1.out
 clear c1 c2 c3 c4 c5 c6 c7 c8 c9 c10 c11
 go_wp2_with fail
 refine (CF.out _).mono ?_
 rintro e w3 ⟨rfl, hb3⟩
 have S := h! (ws_new (R1.out.below hb3 R1.out.lt) (show GatV w3 g (.slice none 0 0) [] from GN.out.below hb3) HLT.out (bmore HB1.out hb3 n!) false false false true false)
 clear hb3 GN R1 HB1 HLT CF c0
 go_upto_region 8 with (fail)
 generalize w3.alloc (.cells #[.bool false, .bool false, .bool false, .bool true, .bool false] 126) = w4 at S ⊢
 generalize w3.heap.size = f at S ⊢
 have HSS : Hid (∀ W v' pre', Ws w W #[.int .u8 6, .int .i64 mi, .slice A mg.length c, .int .i64 mt, .string mk, .string mb, .int .i64 n0, .int .i64 atm, .slice P ams.length q, .int .i64 n1, .int .i64 awh, .int .i64 n2] f false false false true false g v' pre' → W.cell? ⟨g + 1, 0, none⟩ = some (.func (.func 66) #[] #[.pointer (some ⟨g, 0, none⟩)])) := h! (fun W v' pre' hW => by
  have := hW.2.1.2.1.cell 0
  simpa [gval] using this)
 obtain ⟨x0, x1, x2, x3, x4, x5, x6, x7, x8, x9, x10, x11⟩ := box_cm S.out.1
 obtain ⟨y0, y1, y2, y3, y4⟩ := box_mg S.out.2.2.1
 go_wp2_with fail
 clear x0 x1 x2 x3 x4 x5 x6 x7 x8 x9 x10 x11 y0 y1 y2 y3 y4
 refine (nums_lit S.out [6] _ _ rfl rfl (by simp) (by intro z hz; simp at hz; omega) (by simp only [List.length_append, List.length_nil]; omega)).mono ?_
 rintro e u0 ⟨rfl, v0, hS⟩
 replace S := h! hS
 clear hS
 obtain ⟨x0, x1, x2, x3, x4, x5, x6, x7, x8, x9, x10, x11⟩ := box_cm S.out.1
 obtain ⟨y0, y1, y2, y3, y4⟩ := box_mg S.out.2.2.1
 go_wp2_with fail
 clear x0 x1 x2 x3 x4 x5 x6 x7 x8 x9 x10 x11 y0 y1 y2 y3 y4
 refine (nums_lit S.out [n0, n1] _ _ rfl rfl (by simp) (by intro z hz; simp at hz; omega) (by simp only [List.length_append, List.length_nil]; omega)).mono ?_
 rintro e u1 ⟨rfl, v1, hS⟩
 replace S := h! hS
 clear hS
 obtain ⟨x0, x1, x2, x3, x4, x5, x6, x7, x8, x9, x10, x11⟩ := box_cm S.out.1
 obtain ⟨y0, y1, y2, y3, y4⟩ := box_mg S.out.2.2.1
 go_wp2_with fail
 clear x0 x1 x2 x3 x4 x5 x6 x7 x8 x9 x10 x11 y0 y1 y2 y3 y4
 refine (nums_lit S.out [n2] _ _ rfl rfl (by simp) (by intro z hz; simp at hz; omega) (by simp only [List.length_append, List.length_nil]; omega)).mono ?_
 rintro e u2 ⟨rfl, v2, hS⟩
 replace S := h! hS
 clear hS
 obtain ⟨x0, x1, x2, x3, x4, x5, x6, x7, x8, x9, x10, x11⟩ := box_cm S.out.1
 obtain ⟨y0, y1, y2, y3, y4⟩ := box_mg S.out.2.2.1
 rw [HW.out] at S
 obtain ⟨b1, _, ho⟩ := S.out.2.1
 obtain ⟨A9, q9, rfl, _, _⟩ := own_slice ho
 have d1 := b1.cell 0
 simp at d1
 have hc := str_at (Rd.of_own ho) q9
 clear b1 ho x0 x1 x2 x3 x4 x5 x6 x7 x8 x9 x10 x11
 go_wp2_with fail
 go_ret2
 exact ⟨rfl, S.out.2.2.2.2⟩
end CP
namespace KP
open Go.RowKit CP TP
open CM (Mg Cm)
open TM (Sp)
open KM (Wt Sk)
section
variable {ws : List Wt} {ds : List Sp} {out : List Mg}
theorem dv_step {x : Wt} (hx : ws[KM.lst ws]? = some x) (hf : x.f = true) : KM.drain ws.length ws ds out = KM.drain (ws.eraseIdx (KM.lst ws)).length (ws.eraseIdx (KM.lst ws)) (ds ++ [KM.stp x]) (out ++ [x.m]) := by
 have hl := (List.getElem?_eq_some_iff.1 hx).1
 have he : (ws.eraseIdx (KM.lst ws)).length = ws.length - 1 := by rw [List.length_eraseIdx, if_pos hl]
 rw [he]
 obtain ⟨n, hn⟩ : ∃ n, ws.length = n + 1 := ⟨ws.length - 1, by omega⟩
 rw [hn, Nat.add_sub_cancel]
 show (match ws[KM.lst ws]? with | none => (ws, ds, out) | some w => if w.f then KM.drain n (ws.eraseIdx (KM.lst ws)) (ds ++ [KM.stp w]) (out ++ [w.m]) else (ws, ds, out)) = _
 rw [hx]
 simp [hf]
theorem dv_stop {x : Wt} (hx : ws[KM.lst ws]? = some x) (hf : x.f = false) : KM.drain ws.length ws ds out = (ws, ds, out) := by
 have hl := (List.getElem?_eq_some_iff.1 hx).1
 obtain ⟨n, hn⟩ : ∃ n, ws.length = n + 1 := ⟨ws.length - 1, by omega⟩
 rw [hn]
 show (match ws[KM.lst ws]? with | none => (ws, ds, out) | some w => if w.f then KM.drain n (ws.eraseIdx (KM.lst ws)) (ds ++ [KM.stp w]) (out ++ [w.m]) else (ws, ds, out)) = _
 rw [hx]
 simp [hf]
theorem dv_len : ∀ (n : Nat) (ws : List Wt) (ds : List Sp) (out : List Mg), ds.length ≤ (KM.drain n ws ds out).2.1.length
 | 0, _, _, _ => Nat.le_refl _
 | n + 1, ws, ds, out => by
  show _ ≤ (match ws[KM.lst ws]? with | none => (ws, ds, out) | some w => if w.f then KM.drain n (ws.eraseIdx (KM.lst ws)) (ds ++ [KM.stp w]) (out ++ [w.m]) else (ws, ds, out)).2.1.length
  rcases ws[KM.lst ws]? with _ | x
  ·exact Nat.le_refl _
  ·show _ ≤ (if x.f then KM.drain n (ws.eraseIdx (KM.lst ws)) (ds ++ [KM.stp x]) (out ++ [x.m]) else (ws, ds, out)).2.1.length
   split
   ·have := dv_len n (ws.eraseIdx (KM.lst ws)) (ds ++ [KM.stp x]) (out ++ [x.m])
    rw [List.length_append] at this
    exact Nat.le_trans (Nat.le_add_right _ _) this
   ·exact Nat.le_refl _
end
def lenC (w : World) (p : Nat) : Nat := match w.cell? ⟨p, 1, none⟩ with | some (.slice _ n _) => n | _ => 0
theorem lenC_of {w0 W : World} {b p : Nat} {c : Int} {A : Option Addr} {n cw : Nat} {vD : Value} {ws : List Wt} {ds : List Sp} (h : PtC w0 b p c (.slice A n cw) vD ws ds W) : lenC W p = ws.length := by
 have h1 := h.bx.cell 1
 unfold lenC
 rw [h1]
 exact h.ow.slice.1
structure DvR (w0 : World) (b p : Nat) (sc : Int) (D : List Wt × List Sp × List Mg) (vm : Value) (ws : List Wt) (ds : List Sp) (out : List Mg) (W : World) : Prop where
 pt : ∃ A n cw B m cd, PtC w0 b p sc (.slice A n cw) (.slice B m cd) ws ds W
 ms : KO KM_ W b 33 vm out
 eq : KM.drain ws.length ws ds out = D
 so : ws.Pairwise fun a b => a.m.id < b.m.id
 le : out.length + ws.length ≤ 200 ∧ ds.length ≤ 200
theorem DvR.len {w0 W : World} {b p : Nat} {sc : Int} {D : List Wt × List Sp × List Mg} {vm : Value} {ws : List Wt} {ds : List Sp} {out : List Mg} (h : DvR w0 b p sc D vm ws ds out W) : lenC W p = ws.length := by
 obtain ⟨A, n, cw, B, m, cd, h1⟩ := h.pt
 exact lenC_of h1
def DvQ (w0 : World) (b p : Nat) (sc : Int) (D : List Wt × List Sp × List Mg) (e : Ending) (w' : World) : Prop :=
 (D.2.1.length ≤ 200 ∧ ∃ vm, e = .returned (.tuple #[vm, .int .i64 0]) ∧ KO KM_ w' b 33 vm D.2.2 ∧ ∃ vW vD, PtC w0 b p sc vW vD D.1 D.2.1 w') ∨
  (200 < D.2.1.length ∧ e = .returned (.tuple #[.slice none 0 0, .int .i64 9]) ∧ ∃ vW vD ws ds, PtC w0 b p sc vW vD ws ds w')
theorem pdeliver15_any (w0 : World) (b p : Nat) (sc : Int) (vW vD : Value) (ws : List Wt) (ds : List Sp) (W : World) (h : PtC w0 b p sc vW vD ws ds W) (hp : ws.Pairwise fun a b => a.m.id < b.m.id) (hn : ws.length ≤ 200) (hd : ds.length ≤ 200) :
  Calls Tryz.prog 87 #[.pointer (some ⟨p, 0, none⟩)] W (DvQ w0 b p sc (KM.drain ws.length ws ds [])) := by
 obtain ⟨j0, hj, hy0, hy1, hy2⟩ := info_parts info_mg
 obtain ⟨D, hD⟩ : ∃ D, D = KM.drain ws.length ws ds [] := ⟨_, rfl⟩
 rw [← hD]
 have hst : DvR w0 b p sc D (.slice none 0 0) ws ds [] W := by
  obtain ⟨A, n, cw, B, cd, e1, e2, e3⟩ := h.forms
  subst e1 e2
  exact ⟨⟨A, _, cw, B, _, cd, h⟩, kO_nil KM_ _ _ _, hD.symm, hp, by simpa using ⟨hn, hd⟩⟩
 have HT := h! hst
 clear hst hD h hp hn hd
 go_enter Tryz.func87, Tryz.ntmps87
 go_wp2_with fail
 go_step3
 go_wp2_with fail
 go_step3
 go_wp2_with fail
 go_loopw [4] (fun u wr => ∃ (E : Option Addr) (m9 f : Nat) (ws : List Wt) (ds : List Sp) (out : List Mg), u = .slice E m9 f ∧ Hid (DvR w0 b p sc D (.slice E m9 f) ws ds out wr)) (fun _ wr => lenC wr p)
 case atStart => exact ⟨none, 0, 0, ws, ds, [], rfl, HT⟩
 case round =>
  clear HT
  obtain ⟨E, m9, f, ws, ds, out, rfl, HT⟩ := hrel
  have HLN := h! HT.out.len
  obtain ⟨A, n, cw, B, m, cd, hpt⟩ := HT.out.pt
  have HPT := h! hpt
  have HNL := h! hpt.ow.slice.1
  have HML := h! (show m = ds.length by obtain ⟨_, _, e, _⟩ := own_form hpt.od; injection e)
  have hle := HT.out.le
  have hn2 : n ≤ 200 := by have := HNL.out; omega
  obtain ⟨x0, x1, x2⟩ := box_sk hpt.bx
  clear hpt
  by_cases h0 : n = 0
  ·have hws : ws = [] := List.eq_nil_of_length_eq_zero (by have := HNL.out; omega)
   have HE := h! (show D = ([], ds, out) by have h1 := HT.out.eq; rw [hws] at h1; exact h1.symm)
   subst h0
   go_wp2_with fail
   go_ret2
   exact .inl ⟨by rw [HE.out]; exact hle.2, _, rfl, by rw [HE.out]; exact HT.out.ms, _, _, by rw [HE.out, ← hws]; exact HPT.out⟩
  ·have hn1 : (0 : Int) < (n : Int) := by omega
   have CM := h! (pmin_any A n cw ws wr HPT.out.ow.slice.2.2.2.r (by intro e; have := HNL.out; rw [e] at this; exact h0 this))
   go_wp2_with fail
   refine (CM.out).mono ?_
   rintro e w2 ⟨bl, o, Q, q9, x, hA, hx, hat, rfl, hb⟩
   subst hA
   obtain ⟨q, hq⟩ := HPT.out.ow.some hx
   injection hq with hq
   injection hq with hq1 hq2
   subst hq1 hq2
   obtain ⟨Q2, q2, hat2, _, hrow⟩ := wtc_store HPT.out.ow hx
   rw [Nat.zero_add] at hat
   have e1 := hat.2.1
   rw [hat2.2.1] at e1
   injection e1 with e1
   injection e1 with e1 _ e2
   subst e1 e2
   have HX := h! hx
   have HR2 := h! (hrow.below hb)
   have HP2 := h! (HPT.out.below hb)
   have HM2 := h! (HT.out.ms.below hb)
   clear hat hat2 hrow hb CM x0 x1 x2 hx
   obtain ⟨k, hk⟩ : ∃ k, k = KM.lst ws := ⟨_, rfl⟩
   have HKL := h! hk
   rw [← hk] at HX
   clear hk
   have hws2 : ws.length ≤ 200 := by omega
   have C1 := h! (fun W' (t : PtC w0 b p sc (.slice (some ⟨bl, 0, none⟩) n cw) (.slice B m cd) ws ds W') => ptake15_any w0 b p sc (some ⟨bl, 0, none⟩) n cw B m cd ws ds k x Q2 q2 W' t HX.out HT.out.so hws2 hle.2)
   unfold vwt at C1 ⊢
   go_upto_region 4 with (fail)
   have hb3 : Below w2.heap.size w2 (w2.alloc (.cells #[.int .i64 x.m.id, .slice Q2 x.m.gs.length q2, .int .i64 x.m.tp, .string x.m.key, .string x.m.body, .int .i64 x.t, .bool x.f] 78)) := b!
   have HP3 := h! (HP2.out.below hb3)
   have HM3 := h! (HM2.out.below hb3)
   have HR3 := h! (HR2.out.below hb3)
   have Y3 := h! (Box.new w2 78 #[.int .i64 x.m.id, .slice Q2 x.m.gs.length q2, .int .i64 x.m.tp, .string x.m.key, .string x.m.body, .int .i64 x.t, .bool x.f])
   have HSZ := h! (show b ≤ w2.heap.size from HP2.out.ord.2)
   have HBLT := h! (show bl < w2.heap.size from (HP2.out.ow.blk (g := bl) rfl).2)
   have HGP := h! (show w2.heap.size ≠ p from fun e => by have := HP2.out.bx.lt; omega)
   clear hb3 HP2 HM2 HR2
   generalize w2.alloc (.cells #[.int .i64 x.m.id, .slice Q2 x.m.gs.length q2, .int .i64 x.m.tp, .string x.m.key, .string x.m.body, .int .i64 x.t, .bool x.f] 78) = w3 at HP3 HM3 HR3 Y3 ⊢
   generalize w2.heap.size = g5 at Y3 HSZ HBLT HGP ⊢
   obtain ⟨x0, x1, x2⟩ := box_sk HP3.out.bx
   obtain ⟨a0, a1, a2, a3, a4, a5, a6⟩ := box_wt Y3.out
   rcases hxf : x.f with _ | _
   ·have HE := h! (show D = (ws, ds, out) by have h1 := HT.out.eq; rw [dv_stop (by rw [← HKL.out]; exact HX.out) hxf] at h1; exact h1.symm)
    rw [hxf] at a6
    go_wp2_with fail
    go_ret2
    exact .inl ⟨by rw [HE.out]; exact hle.2, _, rfl, by rw [HE.out]; exact HM3.out, _, _, by rw [HE.out]; exact HP3.out⟩
   have HXF := h! hxf
   rw [hxf] at a6 C1
   have HST := h! (show KM.drain (ws.eraseIdx k).length (ws.eraseIdx k) (ds ++ [KM.stp x]) (out ++ [x.m]) = D from by have h1 := HT.out.eq; rw [dv_step (by rw [← HKL.out]; exact HX.out) hxf, ← HKL.out] at h1; exact h1)
   clear hxf
   by_cases hf : m = 200
   ·have HF := h! (show 200 < D.2.1.length from by
     have h1 := dv_len (ws.eraseIdx k).length (ws.eraseIdx k) (ds ++ [KM.stp x]) (out ++ [x.m])
     rw [HST.out, List.length_append, List.length_singleton] at h1
     have := HML.out
     omega)
    subst hf
    go_wp2_with fail
    go_ret2
    exact .inr ⟨HF.out, rfl, _, _, _, _, HP3.out⟩
   have hf2 : ((m : Int) == 200) = false := by simp; omega
   have hf3 : ¬ ((m : Int) = 200) := by omega
   go_wp2_with fail
   refine (C1.out _ HP3.out).mono ?_
   rintro e w4 ⟨rfl, ⟨vW4, vD4, hp4⟩, hk4, hbx⟩
   have HP4 := h! hp4
   have HM4 := h! (KO.kept hk4 isC_int isC_msg HM3.out)
   have HR4 := h! (rowGe_kept hk4 isC_int HR3.out)
   have Y4 := h! (hbx g5 _ (fun e => by
    injection e with e
    injection e with e
    have h1 := HBLT.out
    omega) HGP.out Y3.out)
   have HQ4 := h! hp4.forms
   clear hp4 hk4 hbx a0 a1 a2 a3 a4 a5 a6 x0 x1 x2 C1 HP3 HM3 HR3 Y3
   obtain ⟨a0, a1, a2, a3, a4, a5, a6⟩ := box_wt Y4.out
   have HML2 := h! HM4.out.slice.1
   have HNE := h! (show ∀ ad, Q2 = some ad → 0 < (KM_.gs x.m).length → (Value.slice E m9 f).ownBlock ≠ some ad.block from fun ad e hn kk => by
    obtain ⟨g', cur, e', _, hbx, _⟩ := HR4.out.tn hn
    rw [e] at e'
    injection e' with e'
    subst e'
    obtain ⟨es, _, h2, _⟩ := HM4.out
    exact own_ne h2 hbx (by decide) kk.symm)
   have HOW := h! (show ∃ es : List (Ex Mg), (w4.alloc (.cells #[.int .i64 x.m.id, .slice Q2 x.m.gs.length q2, .int .i64 x.m.tp, .string x.m.key, .string x.m.body] 33)).ownsRow b 33 5 (.slice E m9 f) es.length (flat (exc KM_) es) from (by obtain ⟨es, _, h2, _⟩ := HM4.out; exact ⟨es, own_below3 h2 ((Below.refl _ _).alloc n! _)⟩))
   have hwl : 0 < ws.length := by have := HNL.out; omega
   have hm9 : m9 ≤ 200 := by have := HML2.out; omega
   go_wp2_with (at_builtin; refine wpList_append_ko (K := KM_) rfl _ _ 40 rfl 33 j0 _ 72 Tryz.underlying40 hj hy0 hy1 hy2 rfl rfl HM4.out rfl #[.int .i64 x.m.id, .slice Q2 x.m.gs.length q2, .int .i64 x.m.tp, .string x.m.key, .string x.m.body] (show _ = KM_.cel Q2 q2 x.m from rfl) HR4.out HNE.out (by unfold maxLen; omega) (by omega) HP4.out.ord.2 ?_; intro A6 c6 w6 hko hgr hob; have HG6 := h! hgr; have HM6 := h! hko; clear hko hgr hob)
   have NX := h! (show DvR w0 b p sc D (.slice A6 (m9 + 1) c6) (ws.eraseIdx k) (ds ++ [KM.stp x]) (out ++ [x.m]) w6 from by
    obtain ⟨A5, n5, cw5, B5, cd5, e1, e2, e3⟩ := HQ4.out
    have hp5 := HP4.out.below (show Below w4.heap.size w4 (w4.alloc (.cells #[.int .i64 x.m.id, .slice Q2 x.m.gs.length q2, .int .i64 x.m.tp, .string x.m.key, .string x.m.body] 33)) from (Below.refl _ _).alloc n! _)
    obtain ⟨es, hoe⟩ := HOW.out
    have hkp := Kept.grown (S := fun e => e = 33) hoe rfl HG6.out
    have hp6 := hp5.kept hkp (below_row (Below.refl _ _) hoe hp5.ord.2 HG6.out) (by decide) (by decide) (by decide) (by decide)
    rw [e1, e2] at hp6
    have hkl := (List.getElem?_eq_some_iff.1 HX.out).1
    refine ⟨⟨A5, _, cw5, B5, _, cd5, hp6⟩, HM6.out, HST.out, HT.out.so.sublist (List.eraseIdx_sublist _ _), ?_⟩
    have h1 := HML.out
    rw [List.length_append, List.length_append, List.length_eraseIdx, if_pos hkl]
    simp only [List.length_singleton]
    omega)
   have HLE := h! (show lenC w6 p < lenC wr p by
    have hkl := (List.getElem?_eq_some_iff.1 HX.out).1
    rw [NX.out.len, HLN.out, List.length_eraseIdx, if_pos hkl]
    omega)
   go_roundw
   case rel => exact ⟨A6, _, c6, _, _, _, rfl, NX⟩
   case measure => exact HLE.out
end KP
namespace CP
open Go.RowKit
open CM (Mg Cm)
theorem parse_k2 (v : Value) (l : List UInt8) (w : World) (h : BsIs w w.heap.size v l) (r0 : List UInt8) (hn : CM.nm l = some (2, r0)) :
  Calls Tryz.prog 113 #[v] w (ParseIs (CM.parse l) w) := by
 have hk : nums 1 l = some ([2], r0) := by rw [nums1, hn]; rfl
 have hp : CM.parse l = CM.q2 r0 := by unfold CM.parse; rw [hn]; rfl
 rcases e0 : CM.nm r0 with _ | ⟨n0, r1⟩
 ·exact parse_2_0 v l w h r0 hk (by rw [nums2]; simp [e0]) (by rw [hp]; simp [CM.q2, e0])
 rcases e1 : CM.nm r1 with _ | ⟨n1, r2⟩
 ·exact parse_2_0 v l w h r0 hk (by rw [nums2]; simp [e0, e1]) (by rw [hp]; simp [CM.q2, e0, e1])
 exact parse_2_ok (r1 := r2) v l w h r0 hk (by rw [nums2]; simp [e0, e1]) (by rw [hp]; simp [CM.q2, e0, e1]) ⟨by constructor <;> simp, mz_fit, i64_nat (nm_le e0), i64_nat (nm_le e1), i64_zero, i64_zero, i64_zero⟩
theorem parse_k4 (v : Value) (l : List UInt8) (w : World) (h : BsIs w w.heap.size v l) (r0 : List UInt8) (hn : CM.nm l = some (4, r0)) :
  Calls Tryz.prog 113 #[v] w (ParseIs (CM.parse l) w) := by
 have hk : nums 1 l = some ([4], r0) := by rw [nums1, hn]; rfl
 have hp : CM.parse l = CM.q4 r0 := by unfold CM.parse; rw [hn]; rfl
 rcases e0 : CM.nm r0 with _ | ⟨n0, r1⟩
 ·exact parse_4_0 v l w h r0 hk (by rw [nums4]; simp [e0]) (by rw [hp]; simp [CM.q4, e0])
 rcases e1 : CM.nm r1 with _ | ⟨n1, r2⟩
 ·exact parse_4_0 v l w h r0 hk (by rw [nums4]; simp [e0, e1]) (by rw [hp]; simp [CM.q4, e0, e1])
 rcases e2 : CM.nm r2 with _ | ⟨n2, r3⟩
 ·exact parse_4_0 v l w h r0 hk (by rw [nums4]; simp [e0, e1, e2]) (by rw [hp]; simp [CM.q4, e0, e1, e2])
 rcases e3 : CM.nm r3 with _ | ⟨n3, r4⟩
 ·exact parse_4_0 v l w h r0 hk (by rw [nums4]; simp [e0, e1, e2, e3]) (by rw [hp]; simp [CM.q4, e0, e1, e2, e3])
 exact parse_4_ok (r1 := r4) v l w h r0 hk (by rw [nums4]; simp [e0, e1, e2, e3]) (by rw [hp]; simp [CM.q4, e0, e1, e2, e3]) ⟨by constructor <;> simp, mz_fit, i64_nat (nm_le e0), i64_zero, i64_nat (nm_le e1), i64_nat (nm_le e2), i64_nat (nm_le e3)⟩
theorem parse_k5 (v : Value) (l : List UInt8) (w : World) (h : BsIs w w.heap.size v l) (r0 : List UInt8) (hn : CM.nm l = some (5, r0)) :
  Calls Tryz.prog 113 #[v] w (ParseIs (CM.parse l) w) := by
 have hk : nums 1 l = some ([5], r0) := by rw [nums1, hn]; rfl
 have hp : CM.parse l = CM.q5 5 r0 := by unfold CM.parse; rw [hn]; rfl
 rcases e0 : CM.nm r0 with _ | ⟨n0, r1⟩
 ·exact parse_5_0 v l w h r0 hk (by rw [nums3]; simp [e0]) (by rw [hp]; simp [CM.q5, e0])
 rcases e1 : CM.nm r1 with _ | ⟨n1, r2⟩
 ·exact parse_5_0 v l w h r0 hk (by rw [nums3]; simp [e0, e1]) (by rw [hp]; simp [CM.q5, e0, e1])
 rcases e2 : CM.nm r2 with _ | ⟨n2, r3⟩
 ·exact parse_5_0 v l w h r0 hk (by rw [nums3]; simp [e0, e1, e2]) (by rw [hp]; simp [CM.q5, e0, e1, e2])
 exact parse_5_ok (r1 := r3) v l w h r0 hk (by rw [nums3]; simp [e0, e1, e2]) (by rw [hp]; simp [CM.q5, e0, e1, e2]) ⟨by constructor <;> simp, mz_fit, i64_nat (nm_le e0), i64_zero, i64_nat (nm_le e1), i64_zero, i64_nat (nm_le e2)⟩
theorem parse_k6 (v : Value) (l : List UInt8) (w : World) (h : BsIs w w.heap.size v l) (r0 : List UInt8) (hn : CM.nm l = some (6, r0)) :
  Calls Tryz.prog 113 #[v] w (ParseIs (CM.parse l) w) := by
 have hk : nums 1 l = some ([6], r0) := by rw [nums1, hn]; rfl
 have hp : CM.parse l = CM.q5 6 r0 := by unfold CM.parse; rw [hn]; rfl
 rcases e0 : CM.nm r0 with _ | ⟨n0, r1⟩
 ·exact parse_6_0 v l w h r0 hk (by rw [nums3]; simp [e0]) (by rw [hp]; simp [CM.q5, e0])
 rcases e1 : CM.nm r1 with _ | ⟨n1, r2⟩
 ·exact parse_6_0 v l w h r0 hk (by rw [nums3]; simp [e0, e1]) (by rw [hp]; simp [CM.q5, e0, e1])
 rcases e2 : CM.nm r2 with _ | ⟨n2, r3⟩
 ·exact parse_6_0 v l w h r0 hk (by rw [nums3]; simp [e0, e1, e2]) (by rw [hp]; simp [CM.q5, e0, e1, e2])
 exact parse_6_ok (r1 := r3) v l w h r0 hk (by rw [nums3]; simp [e0, e1, e2]) (by rw [hp]; simp [CM.q5, e0, e1, e2]) ⟨by constructor <;> simp, mz_fit, i64_nat (nm_le e0), i64_zero, i64_nat (nm_le e1), i64_zero, i64_nat (nm_le e2)⟩
theorem parse_k3 (v : Value) (l : List UInt8) (w : World) (h : BsIs w w.heap.size v l) (r0 : List UInt8) (hn : CM.nm l = some (3, r0)) :
  Calls Tryz.prog 113 #[v] w (ParseIs (CM.parse l) w) := by
 have hk : nums 1 l = some ([3], r0) := by rw [nums1, hn]; rfl
 have hp : CM.parse l = CM.q3 r0 := by unfold CM.parse; rw [hn]; rfl
 rcases e0 : CM.lst 6 r0 with _ | ⟨xs, r1⟩
 ·exact parse_3_0 v l w h r0 hk e0 (by rw [hp]; simp [CM.q3, e0])
 ·exact parse_3_ok v l w h r0 hk e0 (by rw [hp]; simp [CM.q3, e0]) ⟨by constructor <;> simp, mz_fit, i64_zero, i64_zero, i64_zero, i64_zero, i64_zero⟩
theorem parse_k1 (v : Value) (l : List UInt8) (w : World) (h : BsIs w w.heap.size v l) (r0 : List UInt8) (hn : CM.nm l = some (1, r0)) :
  Calls Tryz.prog 113 #[v] w (ParseIs (CM.parse l) w) := by
 have hk : nums 1 l = some ([1], r0) := by rw [nums1, hn]; rfl
 have hp : CM.parse l = CM.q1 r0 := by unfold CM.parse; rw [hn]; rfl
 rcases e0 : CM.nm r0 with _ | ⟨n0, r1⟩
 ·exact parse_1_0 v l w h r0 hk (by rw [nums1]; simp [e0]) (by rw [hp]; simp [CM.q1, e0])
 have hq0 : nums 1 r0 = some ([n0], r1) := by rw [nums1]; simp [e0]
 rcases e1 : CM.lst 4 r1 with _ | ⟨xs, r2⟩
 ·exact parse_1_1 v l w h r0 hk hq0 e1 (by rw [hp]; simp [CM.q1, e0, e1])
 rcases e2 : CM.nm r2 with _ | ⟨n1, r3⟩
 ·exact parse_1_2 v l w h r0 hk hq0 e1 (by rw [nums1]; simp [e2]) (by rw [hp]; simp [CM.q1, e0, e1, e2])
 have hq2 : nums 1 r2 = some ([n1], r3) := by rw [nums1]; simp [e2]
 rcases e3 : CM.tx r3 with _ | ⟨s, r4⟩
 ·exact parse_1_3 v l w h r0 hk hq0 e1 hq2 (by unfold tx2; simp [e3]) (by rw [hp]; simp [CM.q1, e0, e1, e2, e3])
 rcases e4 : CM.tx r4 with _ | ⟨t, r5⟩
 ·exact parse_1_3 v l w h r0 hk hq0 e1 hq2 (by unfold tx2; simp [e3, e4]) (by rw [hp]; simp [CM.q1, e0, e1, e2, e3, e4])
 ·exact parse_1_ok (r4 := r5) v l w h r0 hk hq0 e1 hq2 (by unfold tx2; simp [e3, e4]) (by rw [hp]; simp [CM.q1, e0, e1, e2, e3, e4]) ⟨by constructor <;> simp, ⟨i64_nat (nm_le e0), i64_nat (nm_le e2), tx_size e3, tx_size e4⟩, i64_zero, i64_zero, i64_zero, i64_zero, i64_zero⟩
theorem parse12_any (v : Value) (l : List UInt8) (w : World) (h : BsIs w w.heap.size v l) :
  Calls Tryz.prog 113 #[v] w (ParseIs (CM.parse l) w) := by
 rcases hn : CM.nm l with _ | ⟨k, r0⟩
 ·exact parse_none v l w h (by rw [nums1, hn]; rfl) (by unfold CM.parse; rw [hn]; rfl)
 by_cases h0 : k = 0
 ·subst h0; exact parse_0 v l w h r0 (by rw [nums1, hn]; rfl) (by unfold CM.parse; rw [hn]; rfl)
 by_cases h1 : k = 1
 ·subst h1; exact parse_k1 v l w h r0 hn
 by_cases h2 : k = 2
 ·subst h2; exact parse_k2 v l w h r0 hn
 by_cases h3 : k = 3
 ·subst h3; exact parse_k3 v l w h r0 hn
 by_cases h4 : k = 4
 ·subst h4; exact parse_k4 v l w h r0 hn
 by_cases h5 : k = 5
 ·subst h5; exact parse_k5 v l w h r0 hn
 by_cases h6 : k = 6
 ·subst h6; exact parse_k6 v l w h r0 hn
 exact parse_big v l w h r0 k (by omega) (by rw [nums1, hn]; rfl) (by unfold CM.parse; rw [hn]; simp [h0, h1, h2, h3, h4, h5, h6])
theorem read12_ge {x : Cm} {y : Int} (s : ByteArray) (h : CM.ReadIs (RM.bsz s) x y) (hs : s.size ≤ maxLen) (w : World) :
  Calls Tryz.prog 95 #[.string s] w (RdGe x y w) := by
 have HXY := h! (CM.readIs_eq h (CM.readIs_read (RM.bsz s)))
 clear h
 have HB := h! (show Below w.heap.size w (w.alloc (.cells #[.int .u8 0, .int .i64 0, .slice none 0 0, .int .i64 0, .string ⟨#[]⟩, .string ⟨#[]⟩, .int .i64 0, .int .i64 0, .slice none 0 0, .int .i64 0, .int .i64 0, .int .i64 0] 91)) from (Below.refl _ _).alloc n! _)
 have R := h! (Box.new w 91 #[.int .u8 0, .int .i64 0, .slice none 0 0, .int .i64 0, .string ⟨#[]⟩, .string ⟨#[]⟩, .int .i64 0, .int .i64 0, .slice none 0 0, .int .i64 0, .int .i64 0, .int .i64 0])
 have hs2 := hs
 unfold maxLen at hs2
 by_cases hl : 1024 < s.size
 ·have hF : CM.readF (RM.bsz s) = (CM.zero, 3) := by unfold CM.readF; rw [if_pos (by rw [RM.bsz_len]; exact hl)]
  obtain ⟨rfl, rfl⟩ : x = CM.zero ∧ y = 3 := by have h := HXY.out; rw [hF] at h; exact h
  have hli : (1024 : Int) < (s.size : Int) := by omega
  clear hF hs HXY
  obtain ⟨d0, d1, d2, d3, d4, d5, d6, d7, d8, d9, d10, d11⟩ := box_cm R.out
  have g0 := R.out.frozen 0
  have g1 := R.out.frozen 1
  have g2 := R.out.frozen 2
  have g3 := R.out.frozen 3
  have g4 := R.out.frozen 4
  have g5 := R.out.frozen 5
  have g6 := R.out.frozen 6
  have g7 := R.out.frozen 7
  have g8 := R.out.frozen 8
  have g9 := R.out.frozen 9
  have g10 := R.out.frozen 10
  have g11 := R.out.frozen 11
  go_enter Tryz.func95, Tryz.ntmps95
  go_wp2_with fail
  exact bodyPost_ret (v := .tuple #[.agg #[.int .u8 0, .int .i64 0, .slice none 0 0, .int .i64 0, .string ⟨#[]⟩, .string ⟨#[]⟩, .int .i64 0, .int .i64 0, .slice none 0 0, .int .i64 0, .int .i64 0, .int .i64 0], .int .i64 3]) (by simp [results, Tryz.results95, go_sem, d0, d1, d2, d3, d4, d5, d6, d7, d8, d9, d10, d11]; try rfl) rfl ⟨_, rfl, zero_ge _ _, HB.out⟩
 ·obtain ⟨A0, c0, w1, hcv, hR, hc1, hc2, hb1⟩ := conv_ex (w.alloc (.cells #[.int .u8 0, .int .i64 0, .slice none 0 0, .int .i64 0, .string ⟨#[]⟩, .string ⟨#[]⟩, .int .i64 0, .int .i64 0, .slice none 0 0, .int .i64 0, .int .i64 0, .int .i64 0] 91)) s hs
  have HF := h! (show CM.readF (RM.bsz s) = (match CM.parse (RM.bsz s) with
   | some (c, []) => if CM.may c then (c, 0) else (CM.zero, 8)
   | _ => (CM.zero, 8)) by unfold CM.readF; rw [if_neg (by rw [RM.bsz_len]; exact hl)]; rfl)
  have hli : (s.size : Int) ≤ (1024 : Int) := by omega
  have R1 := h! (R.out.below hb1 R.out.lt)
  have HB1 := h! (bmore HB.out hb1 (by simp))
  have hlen : (RM.bsz s).length = s.size := RM.bsz_len s
  have CPa := h! (parse12_any (.slice A0 s.size c0) (RM.bsz s) w1 ⟨A0, c0, by rw [hlen], by rw [hlen]; exact hR, by rw [hlen]; exact hc1, hc2, fun ad e hn => by
   rw [hlen] at hn
   obtain ⟨a, e2, hB, _⟩ := hR.2 hn
   rw [e] at e2
   injection e2 with e2
   rw [e2]
   exact hB⟩)
  clear hb1 hR R HB hc1 hc2 hs hlen
  generalize CM.parse (RM.bsz s) = oo at CPa HF
  go_enter Tryz.func95, Tryz.ntmps95
  go_wp2_with fail
  refine (CPa.out).mono ?_
  rintro e1 w2 ⟨hb2, ⟨rfl, A, c, P, q, x2, u, rfl⟩ | ⟨x2, r, v, u, rfl, rfl, ⟨A, c, P, q, rfl, r1, r3⟩, hfit, ⟨A5, c5, rfl, _, hc5, hm5, _⟩⟩⟩
  ·have hF := HF.out
   simp only at hF
   obtain ⟨rfl, rfl⟩ : x = CM.zero ∧ y = 8 := by have h := HXY.out; rw [hF] at h; exact h
   clear HXY
   obtain ⟨k, ⟨mi, mg, mt, mk, mb⟩, aid, atm, ams, atp, awh, an⟩ := x2
   unfold ccells
   have R2 := h! ((R1.out.below hb2 R1.out.lt).alloc (.cells #[.int .u8 k, .int .i64 mi, .slice A mg.length c, .int .i64 mt, .string mk, .string mb, .int .i64 aid, .int .i64 atm, .slice P ams.length q, .int .i64 atp, .int .i64 awh, .int .i64 an] 91))
   have HBF := h! ((bmore HB1.out hb2 n!).alloc (by have := HB1.out.size; have := hb2.size; omega) (.cells #[.int .u8 k, .int .i64 mi, .slice A mg.length c, .int .i64 mt, .string mk, .string mb, .int .i64 aid, .int .i64 atm, .slice P ams.length q, .int .i64 atp, .int .i64 awh, .int .i64 an] 91))
   clear hb2 R1 HB1 CPa HF hF
   go_upto_region 4 with (fail)
   generalize w2.alloc (.cells #[.int .u8 k, .int .i64 mi, .slice A mg.length c, .int .i64 mt, .string mk, .string mb, .int .i64 aid, .int .i64 atm, .slice P ams.length q, .int .i64 atp, .int .i64 awh, .int .i64 an] 91) = w4 at R2 HBF ⊢
   obtain ⟨d0, d1, d2, d3, d4, d5, d6, d7, d8, d9, d10, d11⟩ := box_cm R2.out
   have g0 := R2.out.frozen 0
   have g1 := R2.out.frozen 1
   have g2 := R2.out.frozen 2
   have g3 := R2.out.frozen 3
   have g4 := R2.out.frozen 4
   have g5 := R2.out.frozen 5
   have g6 := R2.out.frozen 6
   have g7 := R2.out.frozen 7
   have g8 := R2.out.frozen 8
   have g9 := R2.out.frozen 9
   have g10 := R2.out.frozen 10
   have g11 := R2.out.frozen 11
   go_wp2_with fail
   exact bodyPost_ret (v := .tuple #[.agg #[.int .u8 0, .int .i64 0, .slice none 0 0, .int .i64 0, .string ⟨#[]⟩, .string ⟨#[]⟩, .int .i64 0, .int .i64 0, .slice none 0 0, .int .i64 0, .int .i64 0, .int .i64 0], .int .i64 8]) (by simp [results, Tryz.results95, go_sem, d0, d1, d2, d3, d4, d5, d6, d7, d8, d9, d10, d11]; try rfl) rfl ⟨_, rfl, zero_ge _ _, put12_below HBF.out n! (.int .u8 0) (.int .i64 0) (.slice none 0 0) (.int .i64 0) (.string ⟨#[]⟩) (.string ⟨#[]⟩) (.int .i64 0) (.int .i64 0) (.slice none 0 0) (.int .i64 0) (.int .i64 0) (.int .i64 0)⟩
  ·obtain ⟨k, ⟨mi, mg, mt, mk, mb⟩, aid, atm, ams, atp, awh, an⟩ := x2
   simp only at r1 r3
   unfold ccells
   have hb3 : Below w2.heap.size w2 (w2.alloc (.cells #[.int .u8 k, .int .i64 mi, .slice A mg.length c, .int .i64 mt, .string mk, .string mb, .int .i64 aid, .int .i64 atm, .slice P ams.length q, .int .i64 atp, .int .i64 awh, .int .i64 an] 91)) := b!
   have R2 := h! ((R1.out.below hb2 R1.out.lt).alloc (.cells #[.int .u8 k, .int .i64 mi, .slice A mg.length c, .int .i64 mt, .string mk, .string mb, .int .i64 aid, .int .i64 atm, .slice P ams.length q, .int .i64 atp, .int .i64 awh, .int .i64 an] 91))
   have B2 := h! (Box.new w2 91 #[.int .u8 k, .int .i64 mi, .slice A mg.length c, .int .i64 mt, .string mk, .string mb, .int .i64 aid, .int .i64 atm, .slice P ams.length q, .int .i64 atp, .int .i64 awh, .int .i64 an])
   have HBF := h! (bmore (bmore HB1.out hb2 n!) hb3 n!)
   have HR1 := h! (⟨r1.below hb3, r3.below hb3⟩ : RowGe (w2.alloc (.cells #[.int .u8 k, .int .i64 mi, .slice A mg.length c, .int .i64 mt, .string mk, .string mb, .int .i64 aid, .int .i64 atm, .slice P ams.length q, .int .i64 atp, .int .i64 awh, .int .i64 an] 91)) w1.heap.size A c mg ∧ RowGe (w2.alloc (.cells #[.int .u8 k, .int .i64 mi, .slice A mg.length c, .int .i64 mt, .string mk, .string mb, .int .i64 aid, .int .i64 atm, .slice P ams.length q, .int .i64 atp, .int .i64 awh, .int .i64 an] 91)) w1.heap.size P q ams)
   have HP := h! R1.out.lt
   have CM12 := h! (may12_any ⟨k, ⟨mi, mg, mt, mk, mb⟩, aid, atm, ams, atp, awh, an⟩ (.agg #[.int .u8 k, .int .i64 mi, .slice A mg.length c, .int .i64 mt, .string mk, .string mb, .int .i64 aid, .int .i64 atm, .slice P ams.length q, .int .i64 atp, .int .i64 awh, .int .i64 an]) (w2.alloc (.cells #[.int .u8 k, .int .i64 mi, .slice A mg.length c, .int .i64 mt, .string mk, .string mb, .int .i64 aid, .int .i64 atm, .slice P ams.length q, .int .i64 atp, .int .i64 awh, .int .i64 an] 91)) ⟨A, c, P, q, rfl, (r1.below hb3).1, (r3.below hb3).1⟩ hfit)
   unfold maxLen at hm5
   clear hb2 hb3 R1 HB1 CPa r1 r3 hfit
   go_upto_region 4 with (fail)
   generalize w2.alloc (.cells #[.int .u8 k, .int .i64 mi, .slice A mg.length c, .int .i64 mt, .string mk, .string mb, .int .i64 aid, .int .i64 atm, .slice P ams.length q, .int .i64 atp, .int .i64 awh, .int .i64 an] 91) = w4 at R2 B2 HBF HR1 CM12 ⊢
   generalize w2.heap.size = g at B2 ⊢
   rcases r with _ | ⟨b0, r⟩
   ·by_cases hm : CM.may ⟨k, ⟨mi, mg, mt, mk, mb⟩, aid, atm, ams, atp, awh, an⟩
    ·have hF := HF.out
     simp only at hF
     rw [if_pos hm] at hF
     obtain ⟨rfl, rfl⟩ : x = ⟨k, ⟨mi, mg, mt, mk, mb⟩, aid, atm, ams, atp, awh, an⟩ ∧ y = 0 := by have h := HXY.out; rw [hF] at h; exact h
     clear HXY
     rw [decide_eq_true hm] at CM12
     clear hm hF HF
     obtain ⟨c0, c1, c2, c3, c4, c5, c6, c7, c8, c9, c10, c11⟩ := box_cm B2.out
     go_wp2_with fail
     clear c0 c1 c2 c3 c4 c5 c6 c7 c8 c9 c10 c11
     refine (CM12.out).mono ?_
     rintro e2 w5 ⟨rfl, hb⟩
     have R3 := h! (R2.out.below hb R2.out.lt)
     have B3 := h! (B2.out.below hb B2.out.lt)
     have HBF5 := h! (bmore HBF.out hb n!)
     have HRW := h! (⟨HR1.out.1.below hb, HR1.out.2.below hb⟩ : RowGe w5 w1.heap.size A c mg ∧ RowGe w5 w1.heap.size P q ams)
     clear hb CM12 R2 B2 HBF HR1
     obtain ⟨c0, c1, c2, c3, c4, c5, c6, c7, c8, c9, c10, c11⟩ := box_cm B3.out
     obtain ⟨d0, d1, d2, d3, d4, d5, d6, d7, d8, d9, d10, d11⟩ := box_cm R3.out
     have g0 := R3.out.frozen 0
     have g1 := R3.out.frozen 1
     have g2 := R3.out.frozen 2
     have g3 := R3.out.frozen 3
     have g4 := R3.out.frozen 4
     have g5 := R3.out.frozen 5
     have g6 := R3.out.frozen 6
     have g7 := R3.out.frozen 7
     have g8 := R3.out.frozen 8
     have g9 := R3.out.frozen 9
     have g10 := R3.out.frozen 10
     have g11 := R3.out.frozen 11
     go_wp2_with fail
     exact bodyPost_ret (v := .tuple #[.agg #[.int .u8 k, .int .i64 mi, .slice A mg.length c, .int .i64 mt, .string mk, .string mb, .int .i64 aid, .int .i64 atm, .slice P ams.length q, .int .i64 atp, .int .i64 awh, .int .i64 an], .int .i64 0]) (by simp [results, Tryz.results95, go_sem, d0, d1, d2, d3, d4, d5, d6, d7, d8, d9, d10, d11]; try rfl) rfl ⟨_, rfl, ⟨A, c, P, q, rfl, (HRW.out.1.put12p HP.out (.int .u8 k) (.int .i64 mi) (.slice A mg.length c) (.int .i64 mt) (.string mk) (.string mb) (.int .i64 aid) (.int .i64 atm) (.slice P ams.length q) (.int .i64 atp) (.int .i64 awh) (.int .i64 an)).mono (Nat.le_of_lt HP.out), (HRW.out.2.put12p HP.out (.int .u8 k) (.int .i64 mi) (.slice A mg.length c) (.int .i64 mt) (.string mk) (.string mb) (.int .i64 aid) (.int .i64 atm) (.slice P ams.length q) (.int .i64 atp) (.int .i64 awh) (.int .i64 an)).mono (Nat.le_of_lt HP.out)⟩, put12_below HBF5.out n! (.int .u8 k) (.int .i64 mi) (.slice A mg.length c) (.int .i64 mt) (.string mk) (.string mb) (.int .i64 aid) (.int .i64 atm) (.slice P ams.length q) (.int .i64 atp) (.int .i64 awh) (.int .i64 an)⟩
    ·have hF := HF.out
     simp only at hF
     rw [if_neg hm] at hF
     obtain ⟨rfl, rfl⟩ : x = CM.zero ∧ y = 8 := by have h := HXY.out; rw [hF] at h; exact h
     clear HXY
     rw [decide_eq_false hm] at CM12
     clear hm hF HF HR1
     obtain ⟨c0, c1, c2, c3, c4, c5, c6, c7, c8, c9, c10, c11⟩ := box_cm B2.out
     go_wp2_with fail
     clear c0 c1 c2 c3 c4 c5 c6 c7 c8 c9 c10 c11
     refine (CM12.out).mono ?_
     rintro e2 w5 ⟨rfl, hb⟩
     have R3 := h! (R2.out.below hb R2.out.lt)
     have HBF5 := h! (bmore HBF.out hb n!)
     clear hb CM12 R2 B2 HBF
     obtain ⟨d0, d1, d2, d3, d4, d5, d6, d7, d8, d9, d10, d11⟩ := box_cm R3.out
     have g0 := R3.out.frozen 0
     have g1 := R3.out.frozen 1
     have g2 := R3.out.frozen 2
     have g3 := R3.out.frozen 3
     have g4 := R3.out.frozen 4
     have g5 := R3.out.frozen 5
     have g6 := R3.out.frozen 6
     have g7 := R3.out.frozen 7
     have g8 := R3.out.frozen 8
     have g9 := R3.out.frozen 9
     have g10 := R3.out.frozen 10
     have g11 := R3.out.frozen 11
     go_wp2_with fail
     exact bodyPost_ret (v := .tuple #[.agg #[.int .u8 0, .int .i64 0, .slice none 0 0, .int .i64 0, .string ⟨#[]⟩, .string ⟨#[]⟩, .int .i64 0, .int .i64 0, .slice none 0 0, .int .i64 0, .int .i64 0, .int .i64 0], .int .i64 8]) (by simp [results, Tryz.results95, go_sem, d0, d1, d2, d3, d4, d5, d6, d7, d8, d9, d10, d11]; try rfl) rfl ⟨_, rfl, zero_ge _ _, put12_below HBF5.out n! (.int .u8 0) (.int .i64 0) (.slice none 0 0) (.int .i64 0) (.string ⟨#[]⟩) (.string ⟨#[]⟩) (.int .i64 0) (.int .i64 0) (.slice none 0 0) (.int .i64 0) (.int .i64 0) (.int .i64 0)⟩
   ·have hF := HF.out
    simp only at hF
    obtain ⟨rfl, rfl⟩ : x = CM.zero ∧ y = 8 := by have h := HXY.out; rw [hF] at h; exact h
    clear HXY
    clear hF HF HR1 CM12 B2
    have hlr : 0 < (b0 :: r).length := Nat.succ_pos _
    generalize (b0 :: r).length = nr at hlr hc5 ⊢
    have hlri : (0 : Int) < (nr : Int) := by omega
    obtain ⟨d0, d1, d2, d3, d4, d5, d6, d7, d8, d9, d10, d11⟩ := box_cm R2.out
    have g0 := R2.out.frozen 0
    have g1 := R2.out.frozen 1
    have g2 := R2.out.frozen 2
    have g3 := R2.out.frozen 3
    have g4 := R2.out.frozen 4
    have g5 := R2.out.frozen 5
    have g6 := R2.out.frozen 6
    have g7 := R2.out.frozen 7
    have g8 := R2.out.frozen 8
    have g9 := R2.out.frozen 9
    have g10 := R2.out.frozen 10
    have g11 := R2.out.frozen 11
    go_wp2_with fail
    exact bodyPost_ret (v := .tuple #[.agg #[.int .u8 0, .int .i64 0, .slice none 0 0, .int .i64 0, .string ⟨#[]⟩, .string ⟨#[]⟩, .int .i64 0, .int .i64 0, .slice none 0 0, .int .i64 0, .int .i64 0, .int .i64 0], .int .i64 8]) (by simp [results, Tryz.results95, go_sem, d0, d1, d2, d3, d4, d5, d6, d7, d8, d9, d10, d11]; try rfl) rfl ⟨_, rfl, zero_ge _ _, put12_below HBF.out n! (.int .u8 0) (.int .i64 0) (.slice none 0 0) (.int .i64 0) (.string ⟨#[]⟩) (.string ⟨#[]⟩) (.int .i64 0) (.int .i64 0) (.slice none 0 0) (.int .i64 0) (.int .i64 0) (.int .i64 0)⟩
end CP
end Go.Proofs.YteebeiaokfenmaaGreat
