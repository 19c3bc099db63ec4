/- Contracts of functions, L09: each as its theorem says. -/
import Derived.Test.YteebeiaokfenmaaGreatL08
set_option linter.unusedVariables false
set_option linter.unusedSimpArgs false
set_option maxRecDepth 100000
set_option maxHeartbeats 16000000
namespace Go.Proofs.YteebeiaokfenmaaGreat
namespace KP
open Go.RowKit CP TP
open CM (Mg Cm)
open TM (Sp)
open KM (Wt Sk)
theorem rtwinMessage_any (m : Mg) (v : Value) (w : World) (h : MgIs w v m) (hs : m.gs.length ≤ 17592186044416) : Calls Tryz.prog 119 #[v] w (TmIs m w) := by
 obtain ⟨A, c, rfl, r1⟩ := h
 obtain ⟨i0, hi, hz0, hz1, hz2⟩ := info_parts info_int15
 obtain ⟨mi, mg, mt, mk, mb⟩ := m
 unfold mcells
 simp only at r1 hs ⊢
 have HB := h! (show Below w.heap.size w ((w.alloc (.cells #[.int .i64 mi, .slice A mg.length c, .int .i64 mt, .string mk, .string mb] 33)).alloc (.cells #[.int .i64 0, .slice none 0 0, .int .i64 0, .string ⟨#[]⟩, .string ⟨#[]⟩] 33)) from ((Below.refl _ _).alloc n! _).alloc (by simp) _)
 have X := h! ((Box.new w 33 #[.int .i64 mi, .slice A mg.length c, .int .i64 mt, .string mk, .string mb]).alloc (.cells #[.int .i64 0, .slice none 0 0, .int .i64 0, .string ⟨#[]⟩, .string ⟨#[]⟩] 33))
 have Y := h! (Box.new_at (w := w.alloc (.cells #[.int .i64 mi, .slice A mg.length c, .int .i64 mt, .string mk, .string mb] 33)) (t := 33) (cs := #[.int .i64 0, .slice none 0 0, .int .i64 0, .string ⟨#[]⟩, .string ⟨#[]⟩]) (w.heap.size + 1) (by simp))
 have R := h! (fun W (hb : Below w.heap.size w W) => r1.below hb)
 clear r1
 go_enter Tryz.func119, Tryz.ntmps119
 go_upto_region 1 with (fail)
 generalize (w.alloc (.cells #[.int .i64 mi, .slice A mg.length c, .int .i64 mt, .string mk, .string mb] 33)).alloc (.cells #[.int .i64 0, .slice none 0 0, .int .i64 0, .string ⟨#[]⟩, .string ⟨#[]⟩] 33) = w1 at HB X Y ⊢
 have hlt := Y.out.lt
 obtain ⟨⟨x0, x1, x2, x3, x4⟩, f0, f1, f2, f3, f4⟩ := box_mg5 X.out
 go_upto_region 2 with (at_builtin; refine wpList_append_rd _ rfl _ _ 31 rfl (w.heap.size + 1 + 1) 3 i0 (.int .i64 0) 8 Tryz.underlying31 hi hz0 hz1 hz2 rfl (.slice none 0 0) 0 [] rfl (World.ownsRow_nil _ _ _ _) A mg.length c (ic mg) rfl (R.out _ HB.out).1 (ic_one _) (by unfold maxLen; omega) (by omega) hlt ?_; intro v1 u1 hown hgr hob; rw [Nat.zero_add] at hown; obtain ⟨A1, c1, rfl, hc1, hm1⟩ := own_form hown; have hb := below_of_grown hgr (by intro g h; cases h); have HG := h! (rowGe_own (l := mg) (by simpa using hown) rfl hc1 hm1); replace HB := h! (bmore HB.out hb n!); replace X := h! (X.out.below hb X.out.lt); replace Y := h! (Y.out.below hb Y.out.lt); clear x0 x1 x2 x3 x4 f0 f1 f2 f3 f4; obtain ⟨⟨x0, x1, x2, x3, x4⟩, f0, f1, f2, f3, f4⟩ := box_mg5 X.out)
 clear x0 x1 x2 x3 x4 f0 f1 f2 f3 f4
 replace HB := h! (HB.out.setCell (p := ⟨w.heap.size, 1, none⟩) n! (.slice A1 mg.length c1))
 replace X := h! (X.out.stored 1 (.slice A1 mg.length c1))
 replace Y := h! (Y.out.far (p := ⟨w.heap.size, 1, none⟩) (by show w.heap.size + 1 ≠ w.heap.size; omega) (.slice A1 mg.length c1))
 replace HG := h! (HG.out.set (i := 1) (show w.heap.size < w.heap.size + 1 + 1 by omega) (.slice A1 mg.length c1))
 clear hown hgr hob hb
 generalize u1.setCell ⟨w.heap.size, 1, none⟩ (.slice A1 mg.length c1) = w2 at HB X Y HG ⊢
 obtain ⟨x0, x1, x2, x3, x4⟩ := box_mg (show Box w2 w.heap.size 33 #[.int .i64 mi, .slice A1 mg.length c1, .int .i64 mt, .string mk, .string mb] by simpa using X.out)
 obtain ⟨⟨y0, y1, y2, y3, y4⟩, f0, f1, f2, f3, f4⟩ := box_mg5 Y.out
 have Z := h! (pt5_box Y.out (.int .i64 mi) (.slice A1 mg.length c1) (.int .i64 mt) (.string mk) (.string mb))
 have ZB := h! (pt5_below HB.out (g := w.heap.size + 1) (by omega) (.int .i64 mi) (.slice A1 mg.length c1) (.int .i64 mt) (.string mk) (.string mb))
 have ZG := h! ((RowGe.setB HG.out (g := w.heap.size + 1) (by omega) (.int .i64 mi) (.slice A1 mg.length c1) (.int .i64 mt) (.string mk) (.string mb)).mono (show w.heap.size ≤ w.heap.size + 1 + 1 by omega))
 go_wp2_with fail
 unfold pt5 at Z ZB ZG
 obtain ⟨z0, z1, z2, z3, z4⟩ := box_mg Z.out
 exact bodyPost_ret (v := .agg #[.int .i64 mi, .slice A1 mg.length c1, .int .i64 mt, .string mk, .string mb]) (by simp [results, Tryz.results119, go_sem, z0, z1, z2, z3, z4]; try rfl) rfl ⟨A1, c1, rfl, ZG.out, ZB.out⟩
end KP
namespace KP
open CP TP
open CM (Mg Cm)
open TM (Sp)
open KM (Wt Sk)
theorem fit_mg {m : Mg} (h : CM.mgOk m) : MgFit m ∧ m.gs.length ≤ 4 := by
 obtain ⟨h1, h2, h3, h4, h5, h6⟩ := h
 have h7 := CM.riseG_len h3 (by decide)
 unfold CM.idOk at h1
 unfold MgFit i64In maxLen
 omega
theorem fit_may {s : Sk} (h : KM.may s) : SkFit s := by
 obtain ⟨⟨h1, h2, h3, h4⟩, ⟨h5, h6, h7⟩, ⟨h8, h9⟩, h10⟩ := h
 refine ⟨⟨by omega, by omega⟩, fun x hx => ?_, fun x hx => ?_⟩
 ·obtain ⟨k1, ⟨k2, k3⟩, _⟩ := h8 x hx
  have := fit_mg k1
  exact ⟨⟨this.1, by omega, by omega⟩, by omega⟩
 ·obtain ⟨k1, k2, k3⟩ := h5 x hx
  obtain ⟨k4, k5, k6, k7⟩ := k1
  exact ⟨⟨by omega, by omega⟩, ⟨by omega, by omega⟩⟩
def PApply : Prop := ∀ (vs : Value) (s : Sk) (g : Int) (vc : Value) (c : Cm) (w : World), SkIs w vs s → SkFit s → CmIs w vc c → CmFit c → c.m.gs.length ≤ 17592186044416 → Calls Tryz.prog 57 #[vs, .int .i64 g, vc] w (ApIs (KM.applyF s g c) w)
end KP
namespace KP
open Go.RowKit CP TP
open CM (Mg Cm)
open TM (Sp)
open KM (Wt Sk)
theorem isId_any (a : Sp) (g : Nat) (id : Int) (w : World) (h : w.cell? ⟨g, 0, none⟩ = some (.int .i64 id)) : Calls Tryz.prog 154 #[vsp a, .pointer (some ⟨g, 0, none⟩)] w (IsB (decide (a.i = id)) w) := by
 obtain ⟨d, hd⟩ : ∃ d, d = decide (a.i = id) := ⟨_, rfl⟩
 have HD := h! hd
 rw [← hd]
 clear hd
 obtain ⟨at_, ai⟩ := a
 simp only at HD
 unfold vsp
 simp only
 have HB := h! (show Below w.heap.size w (w.alloc (.cells #[.int .i64 at_, .int .i64 ai] 46)) from (Below.refl _ _).alloc n! _)
 have X := h! (Box.new w 46 #[.int .i64 at_, .int .i64 ai])
 have HC := h! (HB.out.cell (p := ⟨g, 0, none⟩) (cell_block h))
 have HC2 := h! (HC.out.trans h)
 clear HC h
 go_enter Tryz.func154, Tryz.ntmps154
 go_upto_region 1 with (fail)
 generalize w.alloc (.cells #[.int .i64 at_, .int .i64 ai] 46) = w1 at HB X HC2 ⊢
 generalize w.heap.size = g0 at X ⊢
 obtain ⟨x0, x1⟩ := box_two X.out
 have c0 := HC2.out
 by_cases k : ai = id
 ·have e : d = true := by rw [HD.out]; simp [k]
  subst e
  subst k
  go_wp2_with fail
  go_ret
  exact ⟨rfl, HB.out⟩
 ·have e : d = false := by rw [HD.out]; simp [k]
  subst e
  have k2 : (ai == id) = false := by simpa using k
  go_wp2_with fail
  go_ret
  exact ⟨by simp [k2], HB.out⟩
def IxPost (ds : List Sp) (id : Int) (w : World) (e : Ending) (w' : World) : Prop := ∃ z : Int, e = .returned (.int .i64 z) ∧ (0 ≤ z ↔ KM.doneF ds id = true) ∧ Below w.heap.size w w'
theorem indexId_any (A : Option Addr) (n c : Nat) (ds : List Sp) (g : Nat) (id : Int) (w : World) (h : SpsIs w A n c ds) (hc : w.cell? ⟨g, 0, none⟩ = some (.int .i64 id)) :
  Calls Tryz.prog 165 #[.slice A n c, .func (.func 154) #[] #[.pointer (some ⟨g, 0, none⟩)]] w (IxPost ds id w) := by
 have HL := h! h.2.1
 have hn63 := h.small
 have H := h! (fun W (hb : Below w.heap.size w W) => h.below hb)
 have HC := h! (fun W (hb : Below w.heap.size w W) => (hb.cell (p := ⟨g, 0, none⟩) (cell_block hc)).trans hc)
 clear h hc
 go_enter Tryz.func165, Tryz.ntmps165
 go_wp2_with fail
 go_loopw [8] (fun i wr => ∃ k : Nat, k ≤ n ∧ i = .int .i64 k ∧ Hid (Below w.heap.size w wr) ∧ Hid (∀ (j : Nat) x, j < k → ds[j]? = some x → x.i ≠ id)) (fun i _ => n - (intOf i).toNat)
 case atStart => exact ⟨0, by omega, rfl, h! (Below.refl _ _), h! (fun j x hj => absurd hj (Nat.not_lt_zero _))⟩
 case round =>
  obtain ⟨k, hk, rfl, HB, HS⟩ := hrel
  by_cases hlt : k < n
  ·obtain ⟨x, hx⟩ : ∃ x, ds[k]? = some x := ⟨_, List.getElem?_eq_getElem (by have := HL.out; omega)⟩
   have HX := h! hx
   obtain ⟨bl, o, rfl, _, hbl, a0, a1⟩ := (H.out _ HB.out).at_ hx
   have C1 := h! (isId_any x g id wr (HC.out _ HB.out))
   have hk0 : (0 : Int) ≤ (k : Int) := by omega
   have hkn : (k : Int) < (n : Int) := by omega
   clear hx hbl
   obtain ⟨d, hd⟩ : ∃ d, d = decide (x.i = id) := ⟨_, rfl⟩
   rw [← hd] at C1
   have HD := h! hd
   clear hd
   obtain ⟨xt, xi⟩ := x
   unfold vsp at C1
   simp only at a0 a1 C1 HD
   go_wp2_with fail
   refine (C1.out).mono ?_
   rintro e w4 ⟨rfl, hb⟩
   have HB2 := h! (bmore HB.out hb n!)
   clear hb a0 a1 C1
   rcases d with _ | _
   ·have NX := h! (show ∀ (j : Nat) x, j < k + 1 → ds[j]? = some x → x.i ≠ id from fun j x hj hx => by
     rcases Nat.lt_or_ge j k with h1 | h1
     ·exact HS.out j x h1 hx
     ·obtain rfl : j = k := by omega
      rw [HX.out] at hx
      injection hx with hx
      rw [← hx]
      exact of_decide_eq_false HD.out.symm)
    go_wp2_with fail
    go_roundw
    case rel => exact ⟨k + 1, by omega, by go_num, HB2, NX⟩
    case measure => simp [intOf]; omega
   ·have HF := h! (show KM.doneF ds id = true from by
     unfold KM.doneF
     rw [List.any_eq_true]
     exact ⟨_, List.mem_of_getElem? HX.out, by simpa using of_decide_eq_true HD.out.symm⟩)
    go_wp2_with fail
    go_ret
    exact ⟨k, rfl, ⟨fun _ => HF.out, fun _ => by omega⟩, HB2.out⟩
  ·have HF := h! (show KM.doneF ds id = false from KM.doneF_no.2 fun x hx => by
    obtain ⟨j, hj, rfl⟩ := List.getElem_of_mem hx
    exact HS.out j _ (by have := HL.out; omega) (List.getElem?_eq_getElem hj))
   go_wp2_with fail
   go_ret
   exact ⟨-1, rfl, ⟨fun h => absurd h (by decide), fun h => by rw [HF.out] at h; cases h⟩, HB.out⟩
theorem containsId_any (A : Option Addr) (n c : Nat) (ds : List Sp) (g : Nat) (id : Int) (w : World) (h : SpsIs w A n c ds) (hc : w.cell? ⟨g, 0, none⟩ = some (.int .i64 id)) :
  Calls Tryz.prog 153 #[.slice A n c, .func (.func 154) #[] #[.pointer (some ⟨g, 0, none⟩)]] w (IsB (KM.doneF ds id) w) := by
 have CI := h! (indexId_any A n c ds g id w h hc)
 generalize hd : KM.doneF ds id = d at CI ⊢
 clear h hc
 go_enter Tryz.func153, Tryz.ntmps153
 go_wp2_with fail
 refine (CI.out).mono ?_
 rintro e w1 ⟨z, rfl, hz, hb⟩
 rw [hd] at hz
 have HB := h! hb
 clear hb CI hd
 by_cases k : 0 ≤ z
 ·have e : d = true := hz.1 k
  subst e
  clear hz
  go_wp2_with fail
  go_ret
  exact ⟨rfl, HB.out⟩
 ·have e : d = false := by
   rcases d with _ | _
   ·rfl
   ·exact absurd (hz.2 rfl) k
  subst e
  clear hz
  go_wp2_with fail
  go_ret
  exact ⟨by have kd : decide (0 ≤ z) = false := decide_eq_false (by omega); simp [kd], HB.out⟩
theorem isDone_any (p : Nat) (B : Option Addr) (m c : Nat) (ds : List Sp) (id : Int) (w : World) (h : SpsIs w B m c ds) (hc : w.cell? ⟨p, 2, none⟩ = some (.slice B m c)) :
  Calls Tryz.prog 135 #[.pointer (some ⟨p, 0, none⟩), .int .i64 id] w (IsB (KM.doneF ds id) w) := by
 have HB := h! (show Below w.heap.size w (w.alloc (.cells #[.int .i64 id] 3)) from (Below.refl _ _).alloc n! _)
 have X := h! ((Box.new w 3 #[.int .i64 id]).cell 0)
 have CC := h! (containsId_any B m c ds w.heap.size id _ (h.below HB.out) X.out)
 have HC := h! ((HB.out.cell (p := ⟨p, 2, none⟩) (cell_block hc)).trans hc)
 generalize KM.doneF ds id = d at CC ⊢
 clear h hc X
 go_enter Tryz.func135, Tryz.ntmps135
 go_upto_region 1 with (fail)
 generalize w.alloc (.cells #[.int .i64 id] 3) = w1 at HB HC CC ⊢
 generalize w.heap.size = g0 at CC ⊢
 have c0 := HC.out
 go_wp2_with fail
 refine (CC.out).mono ?_
 rintro e w2 ⟨rfl, hb⟩
 have HB2 := h! (bmore HB.out hb n!)
 clear hb CC c0
 go_wp2_with fail
 go_ret
 exact ⟨rfl, HB2.out⟩
end KP
namespace KP
open Go.RowKit CP TP
open CM (Mg Cm)
open TM (Sp)
open KM (Wt Sk)
open Go.Lib Go.Shelf
theorem insW_shift (base b n c i vb : Nat) (xs vs : List Value) (cur : Array Value) (w : World) (hi : i < n) (hn : n ≤ 2000) (hroom : n + 1 ≤ c) (hc : c ≤ maxLen)
  (hbase : base ≤ b) (hx : Box w b 78 cur) (hsz : cur.size = c * 7) (htk : cur.toList.take (n * 7) = xs) (hl : xs.length = n * 7)
  (hv : Box w vb 78 vs.toArray) (hvl : vs.length = 7) (hvb : vb ≠ b) (h1 : ∀ u ∈ xs, u.oneCell' = true) (h1v : ∀ u ∈ vs, u.oneCell' = true) :
  Calls Tryz.prog 137 #[.slice (some ⟨b, 0, none⟩) n c, .int .i64 i, .slice (some ⟨vb, 0, none⟩) 1 1] w (InsIs base 78 7 n (xs.take (i * 7) ++ vs ++ xs.drop (i * 7)) (some b) w) := by
 obtain ⟨i0, hi0, hz0, hz1, hz2⟩ := info_parts info_wt
 unfold maxLen at hc
 have hinfo : (Tryz.prog.info? 78).map (·.size) = some 7 := by rw [hi0]; simp [hz1]
 have hxc : ∀ j v, xs[j]? = some v → w.cell? ⟨b, j, none⟩ = some v := by
  intro j v hj
  have hjl := (List.getElem?_eq_some_iff.1 hj).1
  rw [hx.cell j, ← Array.getElem?_toList, ← hj, ← htk, List.getElem?_take, if_pos (by omega)]
 have hvc : ∀ j v, vs[j]? = some v → w.cell? ⟨vb, j, none⟩ = some v := by
  intro j v hj
  rw [hv.cell j]
  simpa using hj
 have hdl : (xs.drop (i * 7)).length = ((n - i) * 7) := by rw [List.length_drop, hl]; omega
 have hov : ∀ lb cb, (callFunc 156 #[.slice (some ⟨vb, 0, none⟩) 1 1, .slice (some ⟨b, (i + 1) * 7, none⟩) lb cb]).run Tryz.prog w = .ok (.value (.bool false)) w := fun lb cb => by
  rw [run_callFunc_extern Tryz.func156 (by kernel_rfl) (by kernel_rfl) (by kernel_rfl) (e := Extern.SlicesOverlaps.overlaps #[37, 37] #[4]) (by kernel_rfl),
   Lib.run_overlaps_apart w 37 4 78 Tryz.underlying37 7 Tryz.sizeOf78 ⟨vb, 0, none⟩ ⟨b, (i + 1) * 7, none⟩ 1 1 lb cb hvb 78 78 vs.toArray.size cur.size (by simp [World.shape?, hv, Box] at *; simp [hv]) (by simp [World.shape?, Box] at *; simp [hx]) (by omega) (hv.frozen 0) (hv.frozen _)]
  rfl
 have hcp1 : ∀ ty dc sc, (Builtin.copy_ #[37, 37] ty #[.slice (some ⟨b, (i + 1) * 7, none⟩) (n - i) dc, .slice (some ⟨b, i * 7, none⟩) (n + 1 - i) sc]).run Tryz.prog w.drew = .ok (goInt (n - i)) (w.drew.setCells b ((i + 1) * 7) (xs.drop (i * 7))) := fun ty dc sc => by
  have := run_copy_s (P := Tryz.prog) w.drew 37 37 ty 78 7 b ((i + 1) * 7) (n - i) dc ⟨b, i * 7, none⟩ (n + 1 - i) sc (xs.drop (i * 7)) Tryz.underlying37 hinfo (by rw [hdl]; simp only [Nat.min_def]; split <;> omega)
   (fun j v hj => by rw [Addr.add_lit]; exact hxc _ v (by rw [List.getElem?_drop] at hj; simpa using hj))
   (fun j hj => Box.isSome (w := w.drew) hx (by rw [hdl] at hj; omega)) (fun j hj => Box.frozen (w := w.drew) hx _) (fun v hv => h1 v (List.mem_of_mem_drop hv))
  rw [this]
  congr 2
  simp only [Nat.min_def]; split <;> omega
 obtain ⟨cu1, bx1, e1⟩ := box_setCells (xs.drop (i * 7)) ((i + 1) * 7) w.drew cur hx (by rw [hdl, hsz]; omega)
 have g1 := grown_setCells b (xs.drop (i * 7)) ((i + 1) * 7) w.drew
 obtain ⟨W1, hW1⟩ : ∃ W1, W1 = w.drew.setCells b ((i + 1) * 7) (xs.drop (i * 7)) := ⟨_, rfl⟩
 rw [← hW1] at hcp1 bx1 g1
 clear hW1
 have hv1 : Box W1 vb 78 vs.toArray := Box.grown (w := w.drew) hv g1 (by simpa using hvb)
 have hsz1 : cu1.size = cur.size := by rw [← Array.length_toList, e1]; simp [hdl]; omega
 have hcp2 : ∀ ty dc, (Builtin.copy_ #[37, 37] ty #[.slice (some ⟨b, i * 7, none⟩) (n + 1 - i) dc, .slice (some ⟨vb, 0, none⟩) 1 1]).run Tryz.prog W1 = .ok (goInt 1) (W1.setCells b (i * 7) vs) := fun ty dc => by
  have := run_copy_s (P := Tryz.prog) W1 37 37 ty 78 7 b (i * 7) (n + 1 - i) dc ⟨vb, 0, none⟩ 1 1 vs Tryz.underlying37 hinfo (by rw [hvl]; simp only [Nat.min_def]; split <;> omega)
   (fun j v hj => by rw [Addr.add_lit, hv1.cell]; simpa using hj)
   (fun j hj => bx1.isSome (by omega)) (fun j hj => bx1.frozen _) h1v
  rw [this]
  congr 2
  simp only [Nat.min_def]; split <;> omega
 obtain ⟨cu2, bx2, e2⟩ := box_setCells vs (i * 7) W1 cu1 bx1 (by rw [hvl, hsz1, hsz]; omega)
 have g2 := grown_setCells b vs (i * 7) W1
 obtain ⟨W2, hW2⟩ : ∃ W2, W2 = W1.setCells b (i * 7) vs := ⟨_, rfl⟩
 rw [← hW2] at hcp2 bx2 g2
 clear hW2
 have hfin := set_tail_first (L := cur.toList) (xs := xs.take (i * 7)) (ys := xs.drop (i * 7)) (vs := vs) (a := i * 7) (s := 7) (r := ((n - i) * 7)) (L1 := cu1.toList) (L2 := cu2.toList)
  (by rw [← htk, List.take_take, Nat.min_eq_left (by omega)]) hvl hdl (by simp [hsz]; omega) (by rw [List.length_take, hl]; omega) (by have := e1; rwa [show (i + 1) * 7 = i * 7 + 7 by omega] at this) e2
 have hret : InsIs base 78 7 n (xs.take (i * 7) ++ vs ++ xs.drop (i * 7)) (some b) w (.returned (.slice (some ⟨b, 0, none⟩) (n + 1) c)) W2 :=
  ⟨_, c, rfl, ⟨by simp [hl, hvl]; omega, .inr ⟨b, c, cu2, rfl, hbase, bx2, hroom, hc, by rw [← Array.length_toList, hfin.2]; simpa using hsz, by rw [← hfin.1]; congr 1; omega⟩⟩, grown_more (a := w) ⟨g1.os, g1.tape, g1.output, g1.size, g1.block⟩ g2 (.inl rfl), .inl rfl⟩
 have HRET := h! hret
 clear hret hfin bx2 g2 e2 e1 bx1 g1 hv1 hsz1 hx hsz htk hv hvc hxc
 have hz3 : ¬ ((i : Int) = (n : Int)) := by omega
 have hw1 : IntKind.i64.wrap ((i : Int) + 1) = (i : Int) + 1 := by rw [IntKind.wrap_i64]; omega
 have htn : ((i : Int) + 1).toNat = i + 1 := by omega
 have hb2 : ¬ (c = i + 1) := by omega
 have hb4 : ¬ (c = i) := by omega
 have hin : i ≤ n := by omega
 have hb1 : (0 : Int) ≤ (i : Int) + 1 := by omega
 have mixed : Tryz.prog.follows Departure.mixedOrders = true := by kernel_rfl
 have hb3 : (i : Int) ≤ (n : Int) + 1 := by omega
 have hb5 : (i : Int) < (n : Int) := by omega
 go_enter Tryz.func137, Tryz.ntmps137
 go_wp2_with (simp only [hov])
 go_region_law_o (refine step_copy_go rfl _ _ 37 37 rfl _ _ (by simp [Act.eval, Act.put]) (by simp [Act.eval, Act.put]) (hcp1 _ _ _) ?_)
 go_wp2_with (at_builtin; refine wpList_copy_go _ rfl _ _ 37 37 rfl _ _ rfl rfl (hcp2 _ _) ?_)
 go_ret
 exact HRET.out
theorem insW_end (base n c vb : Nat) (A : Option Addr) (xs vs : List Value) (w : World) (hn : n ≤ 2000) (hnc : n ≤ c) (hcm : c ≤ maxLen) (hbase : base ≤ w.heap.size) (ho : w.ownsRow base 78 7 (.slice A n c) n xs)
  (hv : Box w vb 78 vs.toArray) (hvl : vs.length = 7) (h1v : ∀ u ∈ vs, u.oneCell' = true) :
  Calls Tryz.prog 137 #[.slice A n c, .int .i64 n, .slice (some ⟨vb, 0, none⟩) 1 1] w (InsIs base 78 7 n (xs ++ vs) (Value.ownBlock (.slice A n c)) w) := by
 obtain ⟨i0, hi, hz0, hz1, hz2⟩ := info_parts info_wt
 unfold maxLen at hcm
 have hr := rdG_box (n := 1) (s := 7) (xs := vs) hv rfl (by omega)
 have HO := h! ho
 have HR := h! hr
 have H1 := h! h1v
 clear ho hr h1v hv hvl
 go_enter Tryz.func137, Tryz.ntmps137
 go_wp2_with (at_builtin; refine wpList_append_g _ rfl _ _ 37 rfl base 78 i0 _ 7 88 Tryz.underlying37 hi hz0 hz1 hz2 rfl (by omega) (.slice A n c) _ _ rfl HO.out (some ⟨vb, 0, none⟩) 1 1 vs rfl HR.out H1.out (by unfold maxLen; omega) (by omega) hbase ?_; intro v2 w2 hown2 hg2 hob2)
 all_goals
  obtain ⟨A', c', rfl, _, _⟩ := own_form hown2
  go_ret
  refine ⟨A', c', rfl, hown2, ?_, ?_⟩
  ·rcases A with _ | _ <;> exact hg2
  ·rcases A with _ | _ <;> exact hob2
theorem insW_grow (base b n i vb : Nat) (xs vs : List Value) (cur : Array Value) (w : World) (hi : i < n) (hn : n ≤ 2000) (hbw : base ≤ w.heap.size)
  (hx : Box w b 78 cur) (htk : cur.toList.take (n * 7) = xs) (hl : xs.length = n * 7)
  (hv : Box w vb 78 vs.toArray) (hvl : vs.length = 7) (h1 : ∀ u ∈ xs, u.oneCell' = true) (h1v : ∀ u ∈ vs, u.oneCell' = true) :
  Calls Tryz.prog 137 #[.slice (some ⟨b, 0, none⟩) n n, .int .i64 i, .slice (some ⟨vb, 0, none⟩) 1 1] w (InsIs base 78 7 n (xs.take (i * 7) ++ vs ++ xs.drop (i * 7)) (some b) w) := by
 obtain ⟨i0, hi0, hz0, hz1, hz2⟩ := info_parts info_wt
 have hinfo : (Tryz.prog.info? 78).map (·.size) = some 7 := by rw [hi0]; simp [hz1]
 have hxc : ∀ j v, xs[j]? = some v → w.cell? ⟨b, j, none⟩ = some v := by
  intro j v hj
  have hjl := (List.getElem?_eq_some_iff.1 hj).1
  rw [hx.cell j, ← Array.getElem?_toList, ← hj, ← htk, List.getElem?_take, if_pos (by omega)]
 have hdl : (xs.drop (i * 7)).length = ((n - i) * 7) := by rw [List.length_drop, hl]; omega
 have hold : (Builtin.firstCells i0.size i (.slice (some ⟨b, 0, none⟩) i n)).run Tryz.prog w.drew = .ok (xs.take (i * 7)).toArray w.drew := by
  rw [hz1]
  exact run_firstCells_some w.drew 7 i ⟨b, 0, none⟩ i n (xs.take (i * 7)) (by rw [List.length_take, hl]; omega) (fun j v hj => by
   rw [Addr.add_lit]
   rw [List.getElem?_take] at hj
   split at hj
   ·rw [Nat.zero_add]; exact hxc j v hj
   ·cases hj)
 have hcur : ∀ (j : Nat) (v : Value), xs[j]? = some v → cur[j]? = some v := by
  intro j v hj
  rw [← hx.cell j]
  exact hxc j v hj
 obtain ⟨G, hG⟩ : ∃ G, G = grownCap w (n + 1) n 78 := ⟨_, rfl⟩
 obtain ⟨zc, hzc⟩ : ∃ zc : Array Value, zc = (.agg #[.int .i64 0, .slice none 0 0, .int .i64 0, .string ⟨#[]⟩, .string ⟨#[]⟩, .int .i64 0, .bool false] : Value).cells := ⟨_, rfl⟩
 have hzs : zc.size = 7 := by rw [hzc]; rfl
 have hsz0 : ∀ k, (Builtin.zeroCells zc k).size = k * 7 := fun k => by simp [Builtin.zeroCells, hzs]
 have hrz : ∀ ty, (Builtin.append_ #[37, 3] ty #[.slice (some ⟨b, 0, none⟩) i n, .int .i64 ((n : Int) + 1 - (i : Int))]).run Tryz.prog w =
   .ok (.slice (some ⟨w.heap.size, 0, none⟩) (n + 1) G) (w.drew.alloc (.cells ((xs.take (i * 7)).toArray ++ Builtin.zeroCells zc (n + 1 - i) ++ Builtin.zeroCells zc (G - (n + 1))) 78)) := fun ty => by
  have h := Lib.run_append_grow_zeros (P := Tryz.prog) w 37 3 ty 78 i0 _ .i64 .i64 Tryz.underlying37 Tryz.underlying3 hi0 hz0 (some ⟨b, 0, none⟩) i n (xs.take (i * 7)) hold (n + 1 - i) (by omega) (by omega) (by omega) (by omega) (by rw [hz2]; omega)
   (by rw [hz2, show i + (n + 1 - i) = n + 1 by omega]; exact growslice_fits (by omega) (by omega))
  rw [show i + (n + 1 - i) = n + 1 by omega, ← hG, ← hzc] at h
  rw [show (n : Int) + 1 - (i : Int) = ((n + 1 - i : Nat) : Int) by omega]
  exact h
 have hGn : n + 1 ≤ G := by rw [hG]; exact grownCap_ge w _ _ _
 have hGm : G ≤ maxLen := by rw [hG]; exact grownCap_le_maxLen w (n + 1) n 78 (by unfold maxLen; omega)
 obtain ⟨ROW, hROW⟩ : ∃ ROW : Array Value, ROW = (xs.take (i * 7)).toArray ++ Builtin.zeroCells zc (n + 1 - i) ++ Builtin.zeroCells zc (G - (n + 1)) := ⟨_, rfl⟩
 have hRs : ROW.size = G * 7 := by
  rw [hROW]
  simp only [Array.size_append, hsz0, List.size_toArray, List.length_take, hl]
  omega
 have hRt : ROW.toList.take (i * 7) = xs.take (i * 7) := by
  rw [hROW]
  simp only [Array.toList_append, List.append_assoc]
  rw [List.take_append_of_le_length (by simp [hl]; omega), List.take_take, Nat.min_self]
 rw [← hROW] at hrz
 clear hROW hzc hsz0 hzs hold
 obtain ⟨g, hg⟩ : ∃ g, g = w.heap.size := ⟨_, rfl⟩
 obtain ⟨W1, hW1⟩ : ∃ W1, W1 = w.drew.alloc (.cells ROW 78) := ⟨_, rfl⟩
 have bN : Box W1 g 78 ROW := by rw [hW1]; exact Box.new_at (w := w.drew) g hg.symm
 have bB : Box W1 b 78 cur := by rw [hW1]; exact Box.alloc (w := w.drew) hx _
 have bV : Box W1 vb 78 vs.toArray := by rw [hW1]; exact Box.alloc (w := w.drew) hv _
 have hbg : b ≠ g := by have := hx.lt; omega
 have hg0 : w.grownBy W1 (some b) := by rw [hW1]; exact grown_alloc (a := w) (b := w.drew) ⟨rfl, rfl, rfl, Nat.le_refl _, fun _ _ _ => rfl⟩ _
 have hs1 : w.heap.size ≤ W1.heap.size := hg0.size
 rw [← hW1, ← hg] at hrz
 clear hW1 hx hv htk
 obtain ⟨cu1, bx1, e1⟩ := box_setCells vs (i * 7) W1 ROW bN (by rw [hvl, hRs]; omega)
 have g1 := grown_setCells g vs (i * 7) W1
 have hcp1 : ∀ ty dc, (Builtin.copy_ #[37, 37] ty #[.slice (some ⟨g, i * 7, none⟩) (n + 1 - i) dc, .slice (some ⟨vb, 0, none⟩) 1 1]).run Tryz.prog W1 = .ok (goInt 1) (W1.setCells g (i * 7) vs) := fun ty dc => by
  have := run_copy_s (P := Tryz.prog) W1 37 37 ty 78 7 g (i * 7) (n + 1 - i) dc ⟨vb, 0, none⟩ 1 1 vs Tryz.underlying37 hinfo (by rw [hvl]; simp only [Nat.min_def]; split <;> omega)
   (fun j v hj => by rw [Addr.add_lit, bV.cell]; simpa using hj)
   (fun j hj => bN.isSome (by omega)) (fun j hj => bN.frozen _) h1v
  rw [this]
  congr 2
  simp only [Nat.min_def]; split <;> omega
 obtain ⟨W2, hW2⟩ : ∃ W2, W2 = W1.setCells g (i * 7) vs := ⟨_, rfl⟩
 rw [← hW2] at hcp1 bx1 g1
 clear hW2
 have bB2 : Box W2 b 78 cur := Box.grown bB g1 (by simpa using hbg)
 have hsz1 : cu1.size = ROW.size := by rw [← Array.length_toList, e1]; simp [hvl]; omega
 have hcp2 : ∀ ty dc sc, (Builtin.copy_ #[37, 37] ty #[.slice (some ⟨g, (i + 1) * 7, none⟩) (n - i) dc, .slice (some ⟨b, i * 7, none⟩) (n - i) sc]).run Tryz.prog W2.drew = .ok (goInt (n - i)) (W2.drew.setCells g ((i + 1) * 7) (xs.drop (i * 7))) := fun ty dc sc => by
  have := run_copy_s (P := Tryz.prog) W2.drew 37 37 ty 78 7 g ((i + 1) * 7) (n - i) dc ⟨b, i * 7, none⟩ (n - i) sc (xs.drop (i * 7)) Tryz.underlying37 hinfo (by rw [hdl]; simp only [Nat.min_def]; split <;> omega)
   (fun j v hj => by rw [Addr.add_lit, Box.cell (w := W2.drew) bB2]; exact hcur _ v (by rw [List.getElem?_drop] at hj; simpa using hj))
   (fun j hj => Box.isSome (w := W2.drew) bx1 (by rw [hdl] at hj; omega)) (fun j hj => Box.frozen (w := W2.drew) bx1 _) (fun v hv => h1 v (List.mem_of_mem_drop hv))
  rw [this]
  congr 2
  simp only [Nat.min_def]; split <;> omega
 obtain ⟨cu2, bx2, e2⟩ := box_setCells (xs.drop (i * 7)) ((i + 1) * 7) W2.drew cu1 bx1 (by rw [hdl, hsz1, hRs]; omega)
 have g2 := grown_setCells g (xs.drop (i * 7)) ((i + 1) * 7) W2.drew
 obtain ⟨W3, hW3⟩ : ∃ W3, W3 = W2.drew.setCells g ((i + 1) * 7) (xs.drop (i * 7)) := ⟨_, rfl⟩
 rw [← hW3] at hcp2 bx2 g2
 clear hW3
 have hfin := set_new_first (L := ROW.toList) (xs := xs.take (i * 7)) (ys := xs.drop (i * 7)) (vs := vs) (a := i * 7) (s := 7) (r := ((n - i) * 7)) (L1 := cu1.toList) (L2 := cu2.toList)
  hRt hvl hdl (by simp [hRs]; omega) (by rw [List.length_take, hl]; omega) e1 (by have := e2; rwa [show (i + 1) * 7 = i * 7 + 7 by omega] at this)
 have hret : InsIs base 78 7 n (xs.take (i * 7) ++ vs ++ xs.drop (i * 7)) (some b) w (.returned (.slice (some ⟨g, 0, none⟩) (n + 1) G)) W3 :=
  ⟨_, G, rfl, ⟨by simp [hl, hvl]; omega, .inr ⟨g, G, cu2, rfl, by omega, bx2, hGn, hGm, by rw [← Array.length_toList, hfin.2]; simpa using hRs, by rw [← hfin.1]; congr 1; omega⟩⟩,
   grown_more hg0 (grown_more (a := W1) (r := some g) g1 (b := W2) ⟨g2.os, g2.tape, g2.output, g2.size, g2.block⟩ (.inl rfl)) (.inr fun k hk => by injection hk with hk; omega), .inr (by rw [← hg]; rfl)⟩
 have HRET := h! hret
 clear hret hfin bx2 g2 e2 e1 bx1 g1 hsz1 bB bB2 bV bN hcur hRt hRs hg0 hs1 hdl hl hG hg
 have hz3 : ¬ ((i : Int) = (n : Int)) := by omega
 have hw1 : IntKind.i64.wrap ((i : Int) + 1) = (i : Int) + 1 := by rw [IntKind.wrap_i64]; omega
 have htn : ((i : Int) + 1).toNat = i + 1 := by omega
 have hb2 : ¬ (G = i + 1) := by omega
 have hb4 : ¬ (G = i) := by omega
 have hb6 : ¬ (n = i) := by omega
 have hin : i ≤ n := by omega
 have hb1 : (0 : Int) ≤ (i : Int) + 1 := by omega
 have hb3 : (i : Int) ≤ (n : Int) + 1 := by omega
 have hb5 : (i : Int) < (n : Int) := by omega
 have hb7 : (i : Int) ≤ (n : Int) := by omega
 have mixed : Tryz.prog.follows Departure.mixedOrders = true := by kernel_rfl
 unfold maxLen at hGm
 go_enter Tryz.func137, Tryz.ntmps137
 go_wp2_with (first
  | (at_builtin; refine Lib.wpList_append_run _ rfl _ _ _ _ rfl _ _ rfl rfl _ _ (hrz _) ?_)
  | (at_builtin; refine wpList_copy_go _ rfl _ _ 37 37 rfl _ _ rfl rfl (hcp1 _ _) ?_))
 go_region_law_o (refine step_copy_go rfl _ _ 37 37 rfl _ _ (by simp [Act.eval, Act.put]) (by simp [Act.eval, Act.put]) (hcp2 _ _ _) ?_)
 go_wp2_with fail
 go_ret
 exact HRET.out
theorem insW_any (base n c i vb : Nat) (A : Option Addr) (xs vs : List Value) (w : World) (hi : i ≤ n) (hn : n ≤ 2000) (hbase : base ≤ w.heap.size) (ho : w.ownsRow base 78 7 (.slice A n c) n xs)
  (hv : Box w vb 78 vs.toArray) (hvl : vs.length = 7) (hvb : Value.ownBlock (.slice A n c) ≠ some vb) (h1 : ∀ u ∈ xs, u.oneCell' = true) (h1v : ∀ u ∈ vs, u.oneCell' = true) :
  Calls Tryz.prog 137 #[.slice A n c, .int .i64 i, .slice (some ⟨vb, 0, none⟩) 1 1] w (InsIs base 78 7 n (xs.take (i * 7) ++ vs ++ xs.drop (i * 7)) (Value.ownBlock (.slice A n c)) w) := by
 have hl := ho.1
 have hform := own_form ho
 obtain ⟨_, _, e, hnc, hcm⟩ := hform
 injection e with e1 e2 e3
 subst e3
 by_cases hin : i = n
 ·subst hin
  rw [List.take_of_length_le (by omega), List.drop_eq_nil_of_le (by omega), List.append_nil]
  exact insW_end base i c vb A xs vs w hn hnc hcm hbase ho hv hvl h1v
 ·have hlt : i < n := by omega
  rcases ho.2 with ⟨_, h0⟩ | ⟨g, cap, cur, hs, hb, hx, hnc', hcm', hsz, htk⟩
  ·omega
  ·injection hs with e1 e2 e3
   subst e1
   subst e3
   by_cases hroom : n + 1 ≤ c
   ·exact insW_shift base g n c i vb xs vs cur w hlt hn hroom hcm hb hx hsz htk hl hv hvl (by intro h; apply hvb; rw [h]; rfl) h1 h1v
   ·obtain rfl : n = c := by omega
    exact insW_grow base g n i vb xs vs cur w hlt hn hbase hx htk hl hv hvl h1 h1v
end KP
end Go.Proofs.YteebeiaokfenmaaGreat
