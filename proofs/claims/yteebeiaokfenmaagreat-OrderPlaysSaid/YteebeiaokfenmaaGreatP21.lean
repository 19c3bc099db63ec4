/- Contracts of functions, P21: each as its theorem says. -/
import Derived.Test.YteebeiaokfenmaaGreatP20
set_option linter.unusedVariables false
set_option linter.unusedSimpArgs false
set_option maxRecDepth 100000
set_option maxHeartbeats 16000000
namespace Go.Proofs.YteebeiaokfenmaaGreat
namespace KP
open Go.RowKit CP TP LP
open CM (Mg Cm)
open TM (Sp)
open KM (Wt Sk)
def CmR (w : World) (v : Value) (l : List Cm) : Prop := ∃ es : List El, es.map (fun e => e.x) = l ∧ Row w.heap.size w v es ∧ ∀ e ∈ es, RowIs w e.A e.c e.x.m.gs ∧ RowIs w e.B e.d e.x.ms
theorem CX.r {W0 w : World} {b : Nat} {v : Value} {l : List Cm} (h : CX W0 w b v l) (hb : Below W0.heap.size W0 w) : CmR w v l := by
 obtain ⟨es, h1, h2, h3⟩ := h
 refine ⟨es, h1, ?_, fun e he => ⟨(h3 e he).1.below hb, (h3 e he).2.below hb⟩⟩
 rcases Nat.eq_zero_or_pos es.length with h0 | h0
 ·obtain rfl := List.length_eq_zero_iff.1 h0
  rcases h2.2 with ⟨e, _⟩ | ⟨g, cap, cur, e, hb, hx, h5⟩
  ·exact .inl ⟨e, rfl⟩
  ·have hlt : g < w.heap.size := by
    rcases Nat.lt_or_ge g w.heap.size with k | k
    ·exact k
    ·rw [Array.getElem?_eq_none k] at hx; cases hx
   exact .inr ⟨g, 0, cap, e, hlt, fun p x hp => by cases hp⟩
 ·obtain ⟨g, cap, hv, _, hlt⟩ := h2.form h0
  refine .inr ⟨g, 0, cap, hv, hlt, fun p x hp j hj => ?_⟩
  have hc := h2.cells (g := g) (by rw [hv]; rfl)
  have he := ecells_at hp j hj
  have hs : ∃ u, (ecell x)[j]? = some u := ⟨_, List.getElem?_eq_getElem (by rw [ecell_len]; exact hj)⟩
  obtain ⟨u, hu⟩ := hs
  rw [hu] at he ⊢
  have := hc (p * 12 + j) u he
  have e2 : (⟨g, 0, none⟩ : Addr).add (p * 12 + j) = ⟨g, 0 + p * 12 + j, none⟩ := by unfold Addr.add; split <;> simp_all
  rw [e2] at this
  exact this
def ToIs (w : World) (v : Value) (T : List (Int × Mg)) (F : List Cm) : Prop :=
 ∃ (A : Option Addr) (n c : Nat) (b : Nat) (B : Option Addr) (m d : Nat), v = .agg #[.slice A n c, .map (some b), .slice B m d] ∧ KR KW w A n c (T.map toWt) ∧ MpIs w (.map (some b)) (T.map fun p => p.2.id) ∧ CmR w (.slice B m d) F
def ToX (W0 w : World) (v : Value) (T : List (Int × Mg)) (F : List Cm) : Prop :=
 ∃ (A : Option Addr) (n c : Nat) (b : Nat) (B : Option Addr) (m d : Nat) (q : Nat), v = .agg #[.slice A n c, .map (some b), .slice B m d] ∧ KX KW W0 w q 78 (.slice A n c) (T.map toWt) ∧ MpIs w (.map (some b)) (T.map fun p => p.2.id) ∧ CX W0 w q (.slice B m d) F
theorem ToX.is {W0 w : World} {v : Value} {T : List (Int × Mg)} {F : List Cm} (h : ToX W0 w v T F) (hb : Below W0.heap.size W0 w) : ToIs w v T F := by
 obtain ⟨A, n, c, b, B, m, d, q, e, h1, h2, h3⟩ := h
 exact ⟨A, n, c, b, B, m, d, e, h1.r hb, h2, h3.r hb⟩
theorem mp_set {w : World} {b : Nat} {l : List Int} {p i : Nat} {t : TypeId} {cs : Array Value} (h : MpIs w (.map (some b)) l) (hp : Box w p t cs) (u : Value) : MpIs (w.setCell ⟨p, i, none⟩ u) (.map (some b)) l := by
 obtain ⟨b', e, h1⟩ := h
 injection e with e
 injection e with e
 subst e
 refine ⟨b, rfl, h1.setCell (a := ⟨p, i, none⟩) (fun e => ?_) u⟩
 obtain ⟨es, clock, h2, _⟩ := h1
 simp only at e
 rw [e, show w.heap[p]? = _ from hp] at h2
 cases h2
theorem ptell_any (v : Value) (g : Int) (cs : List Cm) (W0 w : World) (h : PlrIs W0 v g cs) (hbw : Below W0.heap.size W0 w) (hg : 0 ≤ g ∧ g < 4) (hcs : ∀ c ∈ cs, CM.may c) (hlen : cs.length ≤ 200) :
  Calls Tryz.prog 31 #[v] w fun e w' => ∃ vt, e = .returned vt ∧ ToX W0 w' vt (OM.play g cs).2.2 (OM.fins g cs) ∧ Below w.heap.size w w' := by
 have HBW := h! hbw
 have HBS := h! hbw.size
 obtain ⟨pc, pg, sv, b0, rfl, v1, v2, v3⟩ := h
 obtain ⟨q0, hq0⟩ : ∃ q0, w.heap.size = q0 := ⟨_, rfl⟩
 obtain ⟨W1, hW1⟩ : ∃ W1, W1 = (w.alloc (.cells #[.slice none 0 0, .map none, .slice none 0 0] 75)).alloc (.cells #[.slice none 0 0, .map none, .slice none 0 0] 75) := ⟨_, rfl⟩
 have HB := h! (show Below w.heap.size w W1 by rw [hW1]; exact ((Below.refl _ _).alloc n! _).alloc (by simp) _)
 have X := h! (show Box W1 q0 75 #[.slice none 0 0, .map none, .slice none 0 0] by rw [hW1]; exact (Box.new_at _ hq0).alloc _)
 have P := h! (show Box W1 (q0 + 1) 75 #[.slice none 0 0, .map none, .slice none 0 0] by rw [hW1]; exact Box.new_at _ (by rw [← hq0]; simp))
 have HQ := h! hq0
 have hid := fun p (hp : p ∈ (OM.play g cs).2.2) => show i64In p.2.id from by
  have := ((OM.inv hg hcs).tm p hp).2.2.2.1.1
  unfold CM.idOk at this
  unfold i64In
  omega
 have HID := h! hid
 have hfew := (told_few g cs).1
 have HCA := h! (pplay_any papply15 58 #[.pointer (some ⟨q0 + 1, 0, none⟩)] g cs W0 W1 (RTe g cs W0 w.heap.size (q0 + 1)) (fun q => q = q0 + 1 ∨ (Value.slice none 0 0).ownBlock = some q ∨ (Value.slice none 0 0).ownBlock = some q) pc pg b0 sv v1 v2 v3 (bmore hbw HB.out n!)
  (seeTe g cs W0 W1 w.heap.size (q0 + 1) hg hcs hlen P.out.lt HB.out.size) ⟨⟨none, 0, 0, none, 0, 0, P.out, kX_nil KW _ _ _ _, cX_nil _ _ _, rfl⟩, Nat.zero_le _⟩ (fun q hq => by have := hbw.size; rcases hq with rfl | hq | hq; omega; cases hq; cases hq) hg hcs)
 clear hid v1 v2 v3 hbw
 go_enter Tryz.func31, Tryz.ntmps31
 go_upto_region 2 with (fail)
 rw [← hW1]
 clear hW1
 try simp only [hq0]
 clear hq0
 go_wp2_with fail
 refine (HCA.out).mono ?_
 rintro e w2 ⟨rfl, X', hR, hK, hX⟩
 clear HCA
 have HB2 := h! (show Below w.heap.size w w2 from HB.out.trans (hK.below HB.out.size (fun q hq => by have := HQ.out; rcases hq with rfl | hq | hq; omega; cases hq; cases hq)))
 have X2 := h! (hK.box X.out (fun q => by rcases q with k | k | k; omega; cases k; cases k))
 obtain ⟨⟨C, i, j, D, u, v, r1, r2, r3, rfl⟩, _⟩ := hR
 rw [List.take_length] at r2 r3
 have P2 := h! r1
 have K2 := h! r2
 have K3 := h! r3
 have hi : i ≤ 4096 := by have := r2.len; rw [List.length_map] at this; omega
 have HPL := h! (pplW_any C i j _ w2 (r2.r (bmore HBW.out HB2.out n!)) hi (fun x hx => by obtain ⟨p, hp, rfl⟩ := List.mem_map.1 hx; exact HID.out p hp))
 clear r1 r2 r3 hK hX
 obtain ⟨x0, x1, x2⟩ := box_sk P2.out
 go_upto_region 4 with (go_at_call 60; refine (HPL.out).mono ?_; rintro e w3 ⟨vm, rfl, hm0, hb3⟩; have HM := h! hm0; obtain ⟨bm, rfl, hm⟩ := hm0; have HB3 := h! hb3; have P3 := h! (P2.out.below hb3 P2.out.lt); clear hm hb3 x0 x1 x2; obtain ⟨x0, x1, x2, f0, f1, f2⟩ := P3.out.three)
 clear x0 x1 x2 f0 f1 f2 HPL
 have q3 := Kept.set (S := fun e => e = 75) (i := 1) P3.out rfl (.map (some bm))
 have P4 := h! (show Box (w3.setCell ⟨q0 + 1, 1, none⟩ (.map (some bm))) (q0 + 1) 75 #[.slice C i j, .map (some bm), .slice D u v] from by
  have := P3.out.stored 1 (.map (some bm))
  simpa using this)
 have X4 := h! ((X2.out.below HB3.out X2.out.lt).far (p := ⟨q0 + 1, 1, none⟩) (by simp) (.map (some bm)))
 have M4 := h! (mp_set (i := 1) HM.out P3.out (.map (some bm)))
 have K24 := h! ((K2.out.below HB3.out).kept q3 (by decide))
 have K34 := h! ((K3.out.below HB3.out).kept q3 (by decide))
 have HB4 := h! (show Below w.heap.size w (w3.setCell ⟨q0 + 1, 1, none⟩ (.map (some bm))) from (bmore HB2.out HB3.out n!).setCell (p := ⟨q0 + 1, 1, none⟩) (by have := HQ.out; simp; omega) _)
 clear q3
 generalize w3.setCell ⟨q0 + 1, 1, none⟩ (.map (some bm)) = w4 at P4 X4 M4 K24 K34 HB4 ⊢
 obtain ⟨x0, x1, x2⟩ := box_sk P4.out
 obtain ⟨y0, y1, y2, f0, f1, f2⟩ := X4.out.three
 have q5 := kept_put3 X4.out (.slice C i j) (.map (some bm)) (.slice D u v)
 have X5 := h! (X4.out.put3 (.slice C i j) (.map (some bm)) (.slice D u v))
 have M5 := h! (mp_set (i := 2) (mp_set (i := 1) (mp_set (i := 0) M4.out X4.out (.slice C i j)) (X4.out.stored 0 (.slice C i j)) (.map (some bm))) ((X4.out.stored 0 (.slice C i j)).stored 1 (.map (some bm))) (.slice D u v))
 have K25 := h! (K24.out.kept q5 (by decide))
 have K35 := h! (K34.out.kept q5 (by decide))
 have HB5 := h! (below_put3 HB4.out (by have := HQ.out; omega) (.slice C i j) (.map (some bm)) (.slice D u v) (g := q0))
 clear q5
 go_wp2_with fail
 obtain ⟨u0, u1, u2⟩ := box_sk X5.out
 exact bodyPost_ret (v := .agg #[.slice C i j, .map (some bm), .slice D u v]) (by simp [results, Tryz.results31, go_sem, u0, u1, u2]; try rfl) rfl ⟨_, rfl, ⟨C, i, j, bm, D, u, v, _, rfl, K25.out, by have := M5.out; rw [List.map_map] at this; exact this, K35.out⟩, HB5.out⟩
theorem field_to (x : Value) (b : Option Nat) (y : Value) (w : World) : (Instr.field 75 (.agg #[x, .map b, y]) 0).run Tryz.prog w = .ok x w := by kernel_rfl
def stps (T : List (Int × Mg)) : List Sp := T.map fun p => ⟨p.1, p.2.id⟩
def locS (g : Int) (l : List ByteArray) : List Sp := if asked g l = 0 then stps (OM.play g (LM.cmds l)).2.2 else []
def LcQ (S : List Sp) (r : Int) (w : World) (e : Ending) (w' : World) : Prop := ∃ v, e = .returned (.tuple #[v, .int .i64 r]) ∧ w'.ownsRow w.heap.size 46 2 v S.length (flat spc S) ∧ Below w.heap.size w w'
structure LcR (w : World) (T : List (Int × Mg)) (k : Nat) (u : Value) (wr : World) : Prop where
 bl : Below w.heap.size w wr
 ow : wr.ownsRow w.heap.size 46 2 u k (flat spc (stps (T.take k)))
theorem LcR.below {w wr w' : World} {T : List (Int × Mg)} {k : Nat} {u : Value} (h : LcR w T k u wr) (hb : Below wr.heap.size wr w') : LcR w T k u w' := ⟨bmore h.bl hb n!, own_below3 h.ow hb⟩
theorem plocal16_any (g : Int) (A : Option Addr) (n c : Nat) (l : List ByteArray) (w : World) (h : TxIs w A n c l) : Calls Tryz.prog 9 #[.int .i64 g, .slice A n c] w (LcQ (locS g l) (asked g l) w) := by
 obtain ⟨j0, hj, hy0, hy1, hy2⟩ := info_parts info_sp
 have HP := h! (playerOf_any g A n c l w h)
 unfold PoIs at HP
 have HA := h! (fun h0 => asked_zero (g := g) (l := l) h0)
 have HM := h! (fun h0 => log_may (l := l) h0)
 unfold locS
 obtain ⟨r, hr⟩ : ∃ r, r = asked g l := ⟨_, rfl⟩
 rw [← hr] at HP HA ⊢
 obtain ⟨cs, hcs⟩ : ∃ cs, cs = LM.cmds l := ⟨_, rfl⟩
 rw [← hcs] at HP HM ⊢
 obtain ⟨S, hS⟩ : ∃ S, S = (if r = 0 then stps (OM.play g cs).2.2 else []) := ⟨_, rfl⟩
 rw [← hS]
 have HSS := h! hS
 clear h hr hcs hS
 go_enter Tryz.func9, Tryz.ntmps9
 go_wp2_with fail
 refine (HP.out).mono ?_
 rintro e w2 ⟨hb, ⟨h0, rfl⟩ | ⟨h0, v, rfl, hv⟩⟩
 ·have hk : (r == 0) = false := by simpa using h0
  have HB2 := h! hb
  have HF := h! (show S = [] by rw [HSS.out, if_neg h0])
  clear hb HP HA HM h0
  go_wp2_with fail
  go_ret2
  exact ⟨_, rfl, by rw [HF.out]; exact World.ownsRow_nil _ _ _ _, HB2.out⟩
 ·subst h0
  obtain ⟨hg, hck⟩ := HA.out rfl
  obtain ⟨hmay, hlen⟩ := HM.out hck
  obtain ⟨T, hT⟩ : ∃ T, T = (OM.play g cs).2.2 := ⟨_, rfl⟩
  have HF := h! (show S = stps T by rw [HSS.out, if_pos rfl, hT])
  have HTL := h! (ptell_any v g cs w2 w2 hv (Below.refl _ _) hg hmay hlen)
  rw [← hT] at HTL
  have hfew : T.length ≤ 200 := by rw [hT]; exact Nat.le_trans (told_few g cs).1 hlen
  have HB2 := h! hb
  clear hb HP HA HM hck hmay hlen hT hv
  go_wp2_with fail
  refine (HTL.out).mono ?_
  rintro e w3 ⟨vt, rfl, hx, hb3⟩
  have hto := hx.is hb3
  obtain ⟨A', n', c', b', B', m', d', rfl, hkr, _, _⟩ := hto
  have hn' : n' = T.length := by have := hkr.len; rw [List.length_map] at this; exact this.symm
  have hn63 : n' ≤ 9223372036854775807 := hkr.small
  have HKR := h! hkr
  have HN := h! hn'
  have HB3 := h! (bmore HB2.out hb3 n!)
  have HT := h! (show LcR w3 T 0 (.slice none 0 0) w3 from ⟨Below.refl _ _, World.ownsRow_nil _ _ _ _⟩)
  have HBZ := h! (show n' ≤ 200 by omega)
  clear HTL hx hb3 hkr hn' HB2
  have hfl := field_to
  go_wp2_with fail
  clear hfl
  go_loopw [8, 24] (fun u i wr => ∃ k : Nat, k ≤ n' ∧ i = .int .i64 k ∧ Hid (LcR w3 T k u wr)) (fun _ i _ => n' - (intOf i).toNat)
  case atStart => exact ⟨0, by omega, rfl, HT⟩
  case round =>
   clear HT
   obtain ⟨k, hk, rfl, HT⟩ := hrel
   by_cases hlt : k < n'
   ·obtain ⟨p, hp⟩ : ∃ p, T[k]? = some p := ⟨_, List.getElem?_eq_getElem (by have := HN.out; omega)⟩
    obtain ⟨bl, o, B8, d8, rfl, _, _, ⟨x0, x1, x2, x3, x4, x5, x6⟩, _⟩ := wts_at (HKR.out.below HT.out.bl) (show (T.map toWt)[k]? = some (toWt p) by rw [List.getElem?_map, hp]; rfl)
    have HNX := h! (show stps (T.take (k + 1)) = stps (T.take k) ++ [⟨p.1, p.2.id⟩] by unfold stps; rw [List.take_add_one, hp, List.map_append]; rfl)
    clear hp
    obtain ⟨t, ⟨ai, ag, at_, ak, ab⟩⟩ := p
    unfold toWt at x0 x1 x2 x3 x4 x5 x6
    simp only at x0 x1 x2 x3 x4 x5 x6 HNX
    have hk0 : (0 : Int) ≤ (k : Int) := by omega
    have hkn : (k : Int) < (n' : Int) := by omega
    have HB := h! (show Below wr.heap.size wr (wr.alloc (.cells #[.int .i64 ai, .slice B8 ag.length d8, .int .i64 at_, .string ak, .string ab, .int .i64 t, .bool false] 78)) from (Below.refl _ _).alloc n! _)
    have Y := h! (Box.new wr 78 #[.int .i64 ai, .slice B8 ag.length d8, .int .i64 at_, .string ak, .string ab, .int .i64 t, .bool false])
    go_upto_region 8 with (fail)
    clear x0 x1 x2 x3 x4 x5 x6
    generalize wr.alloc (.cells #[.int .i64 ai, .slice B8 ag.length d8, .int .i64 at_, .string ak, .string ab, .int .i64 t, .bool false] 78) = w4 at HB Y ⊢
    generalize wr.heap.size = g4 at Y ⊢
    have HT4 := h! (HT.out.below HB.out)
    obtain ⟨y0, y1, y2, y3, y4, y5, y6⟩ := box_wt Y.out
    obtain ⟨A9, c9, rfl, hc9, hm9⟩ := own_form HT4.out.ow
    have hal : Below w4.heap.size w4 (w4.alloc (.cells #[.int .i64 t, .int .i64 ai] 46)) := b!
    have HT5 := h! (HT4.out.below hal)
    have HRG := h! (rdG_box (s := 2) (n := 1) (Box.new w4 46 #[.int .i64 t, .int .i64 ai]) (xs := spc ⟨t, ai⟩) rfl rfl)
    clear hal
    have hf := HBZ.out
    go_wp2_with (at_builtin; refine wpList_append_g _ rfl _ _ 22 rfl w3.heap.size 46 j0 _ 2 16 Tryz.underlying22 hj hy0 hy1 hy2 rfl (by omega) (.slice A9 k c9) k _ rfl HT5.out.ow (some ⟨w4.heap.size, 0, none⟩) 1 1 (spc ⟨t, ai⟩) rfl HRG.out (spc_one _) (by unfold maxLen; omega) (by omega) HT5.out.bl.size ?_; intro v2 w6 hown hgr hob; have HB6 := h! (below_row HT5.out.bl HT5.out.ow HT5.out.bl.size hgr); have HO6 := h! hown; clear hown hgr hob)
    have NX := h! (show LcR w3 T (k + 1) v2 w6 from ⟨HB6.out, by rw [HNX.out, flat_append, flat_one]; exact HO6.out⟩)
    go_wp2_with fail
    go_roundw
    case rel => exact ⟨k + 1, by omega, by go_num, NX⟩
    case measure => simp [intOf]; omega
   ·obtain rfl : n' = k := by omega
    have HE := h! (show wr.ownsRow w.heap.size 46 2 u8 T.length (flat spc (stps T)) from by have h1 := own_base HT.out.ow HB3.out.size; rw [List.take_of_length_le (by have := HN.out; omega), HN.out] at h1; exact h1)
    go_wp2_with fail
    go_ret2
    exact ⟨_, rfl, by rw [HF.out]; unfold stps; rw [List.length_map]; exact HE.out, bmore HB3.out HT.out.bl n!⟩
end KP
namespace KP
open Go.RowKit CP TP LP SP
open CM (Mg Cm)
open TM (Sp)
open KM (Wt Sk)
theorem logs_one {w : World} {B : Option Addr} {l : List ByteArray} {n c : Nat} (h : TxIs w B n c l) : LogsIs (w.alloc (.cells #[.slice B n c] 26)) (some ⟨w.heap.size, 0, none⟩) 1 1 [l] := by
 have hal : Below w.heap.size w (w.alloc (.cells #[.slice B n c] 26)) := b!
 have e1 := h.len
 have hr := rd_row w [.slice B n c] 26
 refine ⟨[.slice B n c], hr, ⟨rfl, fun i l' hi => ?_⟩, rfl, Nat.le_refl _, by unfold maxLen; omega⟩
 match i, hi with
 | 0, hi =>
  simp at hi
  subst hi
  exact ⟨B, c, by rw [e1]; rfl, by rw [e1]; exact h.1.below hal, by rw [e1]; exact h.2.1, h.2.2.1⟩
 | i + 1, hi => simp at hi
end KP
namespace KP
open Go.RowKit CP TP LP
open CM (Mg Cm)
open TM (Sp)
open KM (Wt Sk)
theorem KpX.of_grown {a b : World} {o : Option Nat} (h : a.grownBy b o) (hs : a.heap.size ≤ b.heap.size) : KpX (fun x => o = some x) a b :=
 ⟨h.os, h.tape, h.output, hs, fun g hg hn => h.block g hg (fun e => hn e.symm)⟩
theorem KpX.put3 (W : World) {g : Nat} (x y z : Value) (h : True := trivial) : KpX (fun q => q = g) W (((W.setCell ⟨g, 0, none⟩ x).setCell ⟨g, 1, none⟩ y).setCell ⟨g, 2, none⟩ z) :=
 ⟨rfl, rfl, rfl, by simp, fun j hj hn => ((Below.heap_setCell _ ⟨g, 2, none⟩ _ j hn).trans (Below.heap_setCell _ ⟨g, 1, none⟩ _ j hn)).trans (Below.heap_setCell _ ⟨g, 0, none⟩ _ j hn)⟩
structure MdR (w w2 : World) (g : Int) (cs : List Cm) (q k : Nat) (A5 : Option Addr) (n5 a5 : Nat) (B5 : Option Addr) (m5 b5 : Nat) (M : Option Addr) (mm cm : Nat) (wr : World) : Prop where
 bl : Below w.heap.size w wr
 kp : KpX (fun x => x = q + 1) w2 wr
 bx : Box wr (q + 1) 39 #[.int .i64 (stA g cs k).c, .slice A5 n5 a5, .slice B5 m5 b5]
 b0 : Box wr q 39 #[.int .i64 0, .slice none 0 0, .slice none 0 0]
 sk : SkO wr w.heap.size (vsk (stA g cs k).c (.slice A5 n5 a5) (.slice B5 m5 b5)) (stA g cs k)
 al : KO KM_ wr w.heap.size 33 (.slice M mm cm) (OM.play g (cs.take k)).2.1
 ob : ∀ x, (Value.slice M mm cm).ownBlock = some x → w2.heap.size ≤ x
theorem made16_any (g : Int) (A : Option Addr) (n c : Nat) (l : List ByteArray) (w : World) (h : TxIs w A n c l) (hg : 0 ≤ g ∧ g < 4) (hck : LM.chk l = 0) :
  Calls Tryz.prog 46 #[.int .i64 g, .slice A n c] w fun e w' => ∃ v vm, e = .returned (.tuple #[v, vm]) ∧ SkO w' w.heap.size v (OM.play g (LM.cmds l)).1 ∧ KO KM_ w' w.heap.size 33 vm (OM.play g (LM.cmds l)).2.1 ∧ Below w.heap.size w w' := by
 have KS := h! (fun W (hb : Below w.heap.size w W) => steps16_any g A n c l W (h.below hb) hg hck)
 obtain ⟨hmay, hlen⟩ := log_may hck
 obtain ⟨cs, hcs⟩ : ∃ cs, cs = LM.cmds l := ⟨_, rfl⟩
 rw [← hcs] at KS hmay hlen ⊢
 obtain ⟨N, hN⟩ : ∃ N, N = cs.length := ⟨_, rfl⟩
 rw [← hN] at hlen KS
 have HN := h! hN
 have HC := h! hmay
 have HG := h! hg
 obtain ⟨j0, hj, hy0, hy1, hy2⟩ := info_parts info_mg
 clear h hg hck hmay hcs hN
 obtain ⟨q, hq⟩ : ∃ q, w.heap.size = q := ⟨_, rfl⟩
 have HQ := h! hq
 obtain ⟨W1, hW1⟩ : ∃ W1, W1 = (w.alloc (.cells #[.int .i64 0, .slice none 0 0, .slice none 0 0] 39)).alloc (.cells #[.int .i64 0, .slice none 0 0, .slice none 0 0] 39) := ⟨_, rfl⟩
 have HB := h! (show Below w.heap.size w W1 by rw [hW1]; exact ((Below.refl _ _).alloc n! _).alloc (by simp) _)
 have X0 := h! (show Box W1 q 39 #[.int .i64 0, .slice none 0 0, .slice none 0 0] by rw [hW1]; exact (Box.new_at _ hq).alloc _)
 have X1 := h! (show Box W1 (q + 1) 39 #[.int .i64 0, .slice none 0 0, .slice none 0 0] by rw [hW1]; exact Box.new_at _ (by rw [← hq]; simp))
 go_enter Tryz.func46, Tryz.ntmps46
 go_upto_region 3 with (fail)
 try simp only [hq]
 rw [← hW1]
 clear hW1 hq
 go_wp2_with fail
 refine (KS.out _ HB.out).mono ?_
 rintro e w2 ⟨sv, rfl, hst, hb2⟩
 obtain ⟨As, cas, rfl, hc1, hc2⟩ := hst.form
 have HST := h! hst
 have HBB := h! (show q + 1 < W1.heap.size from X1.out.lt)
 have HT0 := h! (show MdR w w2 g cs q 0 none 0 0 none 0 0 none 0 0 w2 from
  ⟨bmore HB.out hb2 n!, KpX.refl _ _, X1.out.below hb2 X1.out.lt, X0.out.below hb2 X0.out.lt, skO_zero _ _, kO_nil KM_ _ _ _, fun x hx => by cases hx⟩)
 have hsl : N ≤ 9223372036854775807 := by omega
 clear hst hb2 KS X0 X1 HB hc1 hc2
 go_wp2_with fail
 go_loopw [7, 9] (fun u i wr => ∃ (k : Nat) (A5 : Option Addr) (n5 a5 : Nat) (B5 : Option Addr) (m5 b5 : Nat) (M : Option Addr) (mm cm : Nat), k ≤ N ∧ u = .slice M mm cm ∧ i = .int .i64 k ∧ Hid (MdR w w2 g cs q k A5 n5 a5 B5 m5 b5 M mm cm wr)) (fun _ i _ => N - (intOf i).toNat)
 case atStart => exact ⟨0, none, 0, 0, none, 0, 0, none, 0, 0, by omega, rfl, rfl, HT0⟩
 case round =>
  clear HT0
  obtain ⟨k, A5, n5, a5, B5, m5, b5, M, mm, cm, hk, rfl, rfl, HT⟩ := hrel
  by_cases hlt : k < N
  ·have hXb : ∀ x, x = q + 1 → x < W1.heap.size ∨ w2.heap.size ≤ x := fun x e => .inl (by have := HBB.out; omega)
   obtain ⟨p, el, rfl, hpb, hpl, hel, ⟨cur, hcur⟩, hcl⟩ := HST.out.at_ hlt
   have hpq : ¬ p = q + 1 := by have := HBB.out; omega
   have hcur2 := HT.out.kp.box hcur hpq
   have hce : ∀ j u, el[j]? = some u → wr.cell? ⟨p, k * 19 + j, none⟩ = some u := fun j u hu => ((hcur2.cell _).trans (hcur.cell _).symm).trans (hcl j u hu)
   obtain ⟨x, Ac, cc, Bc, dc, A4, n4, a4, B4, m4, b4, A6, n6, a6, B6, m6, b6, E, m, f, h1, rfl, _, _, _, h6, h7⟩ := hel.ex
   have HS6 := h! (HT.out.kp.sko h6 hXb)
   have HM7 := h! h7
   have HOX := h! (out_next (g := g) h1)
   have hmm := HT.out.al.slice.1
   have hmn := h7.slice.1
   have hfew : mm + m ≤ 200 := by
    have := out_few HG.out HC.out (k + 1)
    rw [HOX.out, List.length_append, ← hmm, ← hmn] at this
    exact this
   obtain ⟨S2, hS2⟩ : ∃ S2, S2 = stA g cs (k + 1) := ⟨_, rfl⟩
   rw [← hS2] at HS6
   have HS2 := h! hS2
   have y15 : wr.cell? ⟨p, k * 19 + 15, none⟩ = some (.int .i64 S2.c) := by rw [hS2]; exact hce 15 _ rfl
   have y16 : wr.cell? ⟨p, k * 19 + 15 + 1, none⟩ = some (.slice A6 n6 a6) := hce 16 _ rfl
   have y17 : wr.cell? ⟨p, k * 19 + 15 + 2, none⟩ = some (.slice B6 m6 b6) := hce 17 _ rfl
   have HX := h! HT.out.bx
   have HP1 := h! (HX.out.put3 (.int .i64 S2.c) (.slice A6 n6 a6) (.slice B6 m6 b6))
   have HKP := h! (kept_put3 HX.out (.int .i64 S2.c) (.slice A6 n6 a6) (.slice B6 m6 b6))
   have HBL := h! (below_put3 HT.out.bl (by have := HQ.out; omega) (.int .i64 S2.c) (.slice A6 n6 a6) (.slice B6 m6 b6) (g := q + 1))
   have HX0 := h! (HT.out.b0.putFar3 (show q ≠ q + 1 by omega) (.int .i64 S2.c) (.slice A6 n6 a6) (.slice B6 m6 b6))
   have HKX := h! (show KpX (fun x => x = q + 1) w2 (((wr.setCell ⟨q + 1, 0, none⟩ (.int .i64 S2.c)).setCell ⟨q + 1, 1, none⟩ (.slice A6 n6 a6)).setCell ⟨q + 1, 2, none⟩ (.slice B6 m6 b6)) from
    HT.out.kp.trans (X' := fun x => x = q + 1) (KpX.put3 _ _ _ _) (fun x e => .inl e))
   have HE18 := h! (fun (j : Nat) => (HKX.out.box hcur hpq).cell j |>.trans (hcur.cell j).symm)
   have HC18 := h! (hcl 18 _ rfl)
   obtain ⟨x0, x1, x2, f0, f1, f2⟩ := HX.out.three
   have hk0 : (0 : Int) ≤ (k : Int) := by omega
   have hkn : (k : Int) < (N : Int) := by omega
   clear hce hcl hcur hcur2 h1 h6 h7 hel hmm hmn hS2
   go_upto_region 8 with (fail)
   clear x0 x1 x2 f0 f1 f2 y15 y16 y17
   have HS9 := h! (sko_kept HS6.out HKP.out (by decide) (by decide) (by decide))
   have HAL := h! (HT.out.al.kept HKP.out (by decide) (by decide))
   have HSB := h! (show w.heap.size ≤ W1.heap.size by have := HQ.out; have := HBB.out; omega)
   have HOB := h! HT.out.ob
   generalize (((wr.setCell ⟨q + 1, 0, none⟩ (.int .i64 S2.c)).setCell ⟨q + 1, 1, none⟩ (.slice A6 n6 a6)).setCell ⟨q + 1, 2, none⟩ (.slice B6 m6 b6)) = wz at HP1 HKP HBL HX0 HKX HE18 HS9 HAL ⊢
   have y18 : wz.cell? ⟨p, k * 19 + 18, none⟩ = some (.slice E m f) := (HE18.out _).trans HC18.out
   have NX := h! (fun (A8 : Option Addr) (c8 : Nat) (w9 : World) (hko : KO KM_ w9 w.heap.size 33 (.slice A8 (mm + m) c8) ((OM.play g (cs.take k)).2.1 ++ (OM.one (stA g cs k) g x).2)) (hgr : wz.grownBy w9 (Value.slice M mm cm).ownBlock)
     (hob : (Value.slice A8 (mm + m) c8).ownBlock = (Value.slice M mm cm).ownBlock ∨ (Value.slice A8 (mm + m) c8).ownBlock = some wz.heap.size) => show MdR w w2 g cs q (k + 1) A6 n6 a6 B6 m6 b6 A8 (mm + m) c8 w9 by
    have k9 : Kept (fun e => e = 33) wz w9 := by
     obtain ⟨es, _, ho, _⟩ := HAL.out
     exact Kept.grown ho rfl hgr
    have hw2 : w.heap.size ≤ w2.heap.size := by have := HQ.out; have := HX.out.lt; have := HBB.out; have := HKX.out.size; omega
    refine ⟨HBL.out.grown hgr HBL.out.size (fun j hj => Nat.le_trans hw2 (HOB.out j hj)), HKX.out.trans (KpX.of_grown hgr k9.size) (fun x hx => .inr (HOB.out x hx)), ?_, k9.box _ _ _ (by decide) HX0.out, ?_, by rw [HOX.out]; exact hko, fun x hx => ?_⟩
    ·rw [← HS2.out]; exact k9.box _ _ _ (by decide) HP1.out
    ·rw [← HS2.out]; exact SkO.mono (sko_kept HS9.out k9 (by decide) (by decide) (by decide)) HSB.out
    ·rcases hob with h | h
     ·rw [h] at hx; exact HOB.out x hx
     ·rw [h] at hx; injection hx with hx; rw [← hx]; exact HKX.out.size)
   go_wp2_with (at_builtin; refine wpList_append_kox (K := KM_) rfl _ _ 40 rfl j0 _ 72 Tryz.underlying40 hj hy0 hy1 hy2 rfl rfl HAL.out rfl HM7.out HSB.out HKX.out hXb (fun x hx => .inr (HOB.out x hx)) (by unfold maxLen; omega) (by omega) HBL.out.size ?_; intro A8 c8 w9 hko hgr hob; have NX9 := h! (NX.out A8 c8 w9 hko hgr hob); clear hko hgr hob)
   go_roundw
   case rel => exact ⟨k + 1, A6, n6, a6, B6, m6, b6, A8, _, c8, by omega, rfl, by go_num, NX9⟩
   case measure => simp [intOf]; omega
  ·obtain rfl : N = k := by omega
   have X5 := h! HT.out.bx
   have X6 := h! HT.out.b0
   have HE := h! (show cs.take N = cs from List.take_of_length_le (by have := HN.out; omega))
   obtain ⟨S2, hS2⟩ : ∃ S2, S2 = stA g cs N := ⟨_, rfl⟩
   have HS2 := h! (show S2 = (OM.play g cs).1 by rw [hS2]; unfold stA; rw [HE.out])
   rw [← hS2] at X5
   have HSK := h! HT.out.sk
   rw [← hS2] at HSK
   have HAL := h! HT.out.al
   rw [HE.out] at HAL
   have HBL := h! HT.out.bl
   clear hS2 HT
   obtain ⟨y0, y1, y2⟩ := box_sk X5.out
   obtain ⟨x0, x1, x2, f0, f1, f2⟩ := X6.out.three
   have ZP := h! (fun W (hw : W = ((wr.setCell ⟨q, 0, none⟩ (.int .i64 S2.c)).setCell ⟨q, 1, none⟩ (.slice A5 n5 a5)).setCell ⟨q, 2, none⟩ (.slice B5 m5 b5)) => show Box W q 39 #[.int .i64 S2.c, .slice A5 n5 a5, .slice B5 m5 b5] ∧ Below w.heap.size w W ∧ SkO W w.heap.size (vsk S2.c (.slice A5 n5 a5) (.slice B5 m5 b5)) S2 ∧ KO KM_ W w.heap.size 33 (.slice M mm cm) (OM.play g cs).2.1 by
    have q1 := kept_put3 X6.out (.int .i64 S2.c) (.slice A5 n5 a5) (.slice B5 m5 b5)
    subst hw
    exact ⟨X6.out.put3 _ _ _, below_put3 HBL.out (by have := HQ.out; omega) _ _ _, sko_kept HSK.out q1 (by decide) (by decide) (by decide), HAL.out.kept q1 (by decide) (by decide)⟩)
   go_wp2_with fail
   trace_state
   obtain ⟨z1, z2, z3, z4⟩ := ZP.out _ rfl
   obtain ⟨u0, u1, u2⟩ := box_sk z1
   exact bodyPost_ret (v := .tuple #[.agg #[.int .i64 S2.c, .slice A5 n5 a5, .slice B5 m5 b5], .slice M mm cm]) (by simp [results, Tryz.results46, go_sem, u0, u1, u2]; try rfl) rfl ⟨_, _, rfl, by rw [← HS2.out]; exact z3, z4, z2⟩
theorem play16_any (g : Int) (A : Option Addr) (n c : Nat) (l : List ByteArray) (w : World) (h : TxIs w A n c l) :
  Calls Tryz.prog 19 #[.int .i64 g, .slice A n c] w (ApIs (playR g l) w) := by
 have KA := h! (fun W (hb : Below w.heap.size w W) => asked16_any g A n c l W (h.below hb))
 have KMD := h! (fun (h0 : asked g l = 0) W (hb : Below w.heap.size w W) => made16_any g A n c l W (h.below hb) (asked_zero h0).1 (asked_zero h0).2)
 obtain ⟨R, hR⟩ : ∃ R, R = playR g l := ⟨_, rfl⟩
 rw [← hR]
 unfold playR at hR
 obtain ⟨r, hr⟩ : ∃ r, r = asked g l := ⟨_, rfl⟩
 rw [← hr] at KA KMD hR
 obtain ⟨cs, hcs⟩ : ∃ cs, cs = LM.cmds l := ⟨_, rfl⟩
 rw [← hcs] at KMD hR
 have HR := h! hR
 clear h hR hr hcs
 obtain ⟨q, hq⟩ : ∃ q, w.heap.size = q := ⟨_, rfl⟩
 have HQ := h! hq
 have HB := h! (show Below w.heap.size w (w.alloc (.cells #[.int .i64 0, .slice none 0 0, .slice none 0 0] 39)) from (Below.refl _ _).alloc n! _)
 have X := h! (Box.new_at (w := w) (t := 39) (cs := #[.int .i64 0, .slice none 0 0, .slice none 0 0]) q hq)
 go_enter Tryz.func19, Tryz.ntmps19
 go_upto_region 1 with (fail)
 generalize w.alloc (.cells #[.int .i64 0, .slice none 0 0, .slice none 0 0] 39) = w1 at HB X ⊢
 try simp only [hq]
 clear hq
 go_wp2_with fail
 refine (KA.out _ HB.out).mono ?_
 rintro e w2 ⟨rfl, hb⟩
 have HB2 := h! (bmore HB.out hb n!)
 have X2 := h! (X.out.below hb X.out.lt)
 clear KA hb X HB
 by_cases h0 : r = 0
 ·subst h0
  go_wp2_with fail
  refine (KMD.out trivial _ HB2.out).mono ?_
  rintro e w3 ⟨v, vm, rfl, ⟨vw, vd, rfl, k1, k2⟩, k3, hb3⟩
  obtain ⟨A4, c4, rfl, _⟩ := k1.g
  obtain ⟨B4, d4, rfl, _, _⟩ := own_form k2
  obtain ⟨E4, f4, rfl, _⟩ := k3.g
  have HF := h! (show R = ((OM.play g cs).1, (OM.play g cs).2.1, 0) by rw [HR.out, if_pos trivial])
  obtain ⟨S2, hS2⟩ : ∃ S2, S2 = (OM.play g cs).1 := ⟨_, rfl⟩
  obtain ⟨O2, hO2⟩ : ∃ O2, O2 = (OM.play g cs).2.1 := ⟨_, rfl⟩
  rw [← hS2, ← hO2] at HF
  rw [← hS2] at k1 k2
  rw [← hO2] at k3
  try rw [← hS2]
  try rw [← hO2]
  clear hS2 hO2
  unfold vsk
  have HB3 := h! (bmore HB2.out hb3 n!)
  have X3 := h! (X2.out.below hb3 X2.out.lt)
  obtain ⟨p, hp⟩ : ∃ p, w3.heap.size = p := ⟨_, rfl⟩
  have hal : Below w3.heap.size w3 (w3.alloc (.cells #[.int .i64 S2.c, .slice A4 S2.ws.length c4, .slice B4 S2.ds.length d4] 39)) := b!
  have Y := h! (Box.new_at (w := w3) (t := 39) (cs := #[.int .i64 S2.c, .slice A4 S2.ws.length c4, .slice B4 S2.ds.length d4]) p hp)
  have X4 := h! (X3.out.below hal X3.out.lt)
  have HB4 := h! (bmore HB3.out hal n!)
  have HSK := h! (SkO.below (show SkO w3 w.heap.size (vsk S2.c (.slice A4 S2.ws.length c4) (.slice B4 S2.ds.length d4)) S2 from SkO.mono ⟨_, _, rfl, k1, k2⟩ HB2.out.size) hal)
  have HKO := h! ((KO.mono k3 HB2.out.size).below hal)
  clear k1 k2 k3 hb3 hal KMD
  go_upto_region 5 with (fail)
  try simp only [hp]
  clear hp
  generalize w3.alloc (.cells #[.int .i64 S2.c, .slice A4 S2.ws.length c4, .slice B4 S2.ds.length d4] 39) = w4 at Y X4 HB4 HSK HKO ⊢
  obtain ⟨y0, y1, y2⟩ := box_sk Y.out
  obtain ⟨x0, x1, x2, f0, f1, f2⟩ := X4.out.three
  have q1 := kept_put3 X4.out (.int .i64 S2.c) (.slice A4 S2.ws.length c4) (.slice B4 S2.ds.length d4)
  have z1 := X4.out.put3 (.int .i64 S2.c) (.slice A4 S2.ws.length c4) (.slice B4 S2.ds.length d4)
  have z2 := below_put3 HB4.out (by have := HQ.out; omega) (.int .i64 S2.c) (.slice A4 S2.ws.length c4) (.slice B4 S2.ds.length d4) (g := q)
  have z3 := h! (sko_kept HSK.out q1 (by decide) (by decide) (by decide))
  have z4 := h! (HKO.out.kept q1 (by decide) (by decide))
  obtain ⟨u0, u1, u2⟩ := box_sk z1
  replace z2 := h! z2
  clear q1 z1
  go_wp2_with fail
  exact bodyPost_ret (v := .tuple #[.agg #[.int .i64 S2.c, .slice A4 S2.ws.length c4, .slice B4 S2.ds.length d4], .slice E4 O2.length f4, .int .i64 0]) (by simp [results, Tryz.results19, go_sem, u0, u1, u2]; try rfl) rfl ⟨_, _, by rw [HF.out], by rw [HF.out]; exact z3.out, by rw [HF.out]; exact z4.out, z2.out⟩
 ·have hk : (r == 0) = false := by simpa using h0
  have HF := h! (show R = (KM.zero, [], r) by rw [HR.out, if_neg h0])
  clear KMD
  obtain ⟨x0, x1, x2, f0, f1, f2⟩ := X2.out.three
  have ZP := h! (X2.out.put3 (.int .i64 0) (.slice none 0 0) (.slice none 0 0))
  have ZB := h! (below_put3 HB2.out (by have := HQ.out; omega) (.int .i64 0) (.slice none 0 0) (.slice none 0 0) (g := q))
  go_wp2_with fail
  obtain ⟨u0, u1, u2⟩ := box_sk ZP.out
  exact bodyPost_ret (v := .tuple #[.agg #[.int .i64 0, .slice none 0 0, .slice none 0 0], .slice none 0 0, .int .i64 r]) (by simp [results, Tryz.results19, go_sem, u0, u1, u2]; try rfl) rfl ⟨_, _, by rw [HF.out], by rw [HF.out]; exact skO_zero _ _, by rw [HF.out]; exact kO_nil KM_ _ _ _, ZB.out⟩
end KP
end Go.Proofs.YteebeiaokfenmaaGreat
