/- Contracts of functions, L37: each as its theorem says. -/
import Derived.Test.YteebeiaokfenmaaGreatL36
set_option linter.unusedVariables false
set_option linter.unusedSimpArgs false
set_option maxRecDepth 100000
set_option maxHeartbeats 16000000
namespace Go.Proofs.YteebeiaokfenmaaGreat
namespace KP
open Go.RowKit CP TP LP
open Go.Maps (Keyed IsMap Tidy int_keyed keyOf_int_mk)
open CM (Mg Cm)
open TM (Sp)
open KM (Wt Sk)
def FdQ (T : List (Int × Mg)) (id : Int) (w0 w : World) (e : Ending) (w' : World) : Prop := ∃ (b : Bool) (A : Option Addr) (c : Nat) (y : Wt), e = .returned (.tuple #[vwt A c y, .bool b]) ∧ Below w.heap.size w w' ∧ RowIs w0 A c y.m.gs ∧
 ((b = true ∧ ∃ p, OM.fd T id = some p ∧ y = toWt p) ∨ (b = false ∧ OM.fd T id = none ∧ y = ⟨CM.mz, 0, false⟩))
theorem fd_ids {T : List (Int × Mg)} {id : Int} : (id ∈ T.map fun p => p.2.id) ↔ ∃ p, OM.fd T id = some p := by
 constructor
 ·intro h
  obtain ⟨p, hp, rfl⟩ := List.mem_map.1 h
  rcases hf : OM.fd T p.2.id with _ | q
  ·exact absurd rfl (OM.fd_none hf p hp)
  ·exact ⟨q, rfl⟩
 ·rintro ⟨p, hp⟩
  obtain ⟨h1, h2⟩ := OM.fd_some hp
  exact List.mem_map.2 ⟨p, h1, h2⟩
theorem pfind_any (v : Value) (T : List (Int × Mg)) (F : List Cm) (id : Int) (w0 w : World) (h : ToIs w0 v T F) (hbw : Below w0.heap.size w0 w) (hn : (T.map fun p => p.2.id).Nodup) (hid : i64In id) : Calls Tryz.prog 63 #[v, .int .i64 id] w (FdQ T id w0 w) := by
 have HBW := h! hbw
 obtain ⟨A, n, c, b, B, m, d, rfl, h1, h2, _⟩ := h
 have H1 := h! h1
 have HN := h! hn
 obtain ⟨b', e, hm⟩ := h2
 injection e with e
 injection e with e
 subst e
 have HM := h! (fun W (hb : Below w.heap.size w W) => ownsMap_below hm (bmore hbw hb n!))
 obtain ⟨ids, hids⟩ : ∃ ids, ids = T.map fun p => p.2.id := ⟨_, rfl⟩
 rw [← hids] at HM HN
 have HHAS := h! (show Maps.has (plD ids) (.int .i64 id) = true ↔ ∃ p, OM.fd T id = some p by rw [plD_has, hids, decide_eq_true_iff]; exact fd_ids)
 have hlen : T.length = n := by have := h1.len; rwa [List.length_map] at this
 have HL := h! hlen
 have HIDS := h! hids
 clear h1 hn hm hids hlen hbw
 obtain ⟨q0, hq0⟩ : ∃ q0, w.heap.size = q0 := ⟨_, rfl⟩
 obtain ⟨W1, hW1⟩ : ∃ W1, W1 = (w.alloc (.cells #[.slice A n c, .map (some b), .slice B m d] 75)).alloc (.cells #[.int .i64 0, .slice none 0 0, .int .i64 0, .string ⟨#[]⟩, .string ⟨#[]⟩, .int .i64 0, .bool false] 78) := ⟨_, rfl⟩
 have HB := h! (show Below w.heap.size w W1 by rw [hW1]; exact ((Below.refl _ _).alloc n! _).alloc (by simp) _)
 have X := h! (show Box W1 q0 75 #[.slice A n c, .map (some b), .slice B m d] by rw [hW1]; exact (Box.new_at _ hq0).alloc _)
 have Y := h! (show Box W1 (q0 + 1) 78 #[.int .i64 0, .slice none 0 0, .int .i64 0, .string ⟨#[]⟩, .string ⟨#[]⟩, .int .i64 0, .bool false] by rw [hW1]; exact Box.new_at _ (by rw [← hq0]; simp))
 have HQ := h! hq0
 go_enter Tryz.func63, Tryz.ntmps63
 go_upto_region 1 with (fail)
 rw [← hW1]
 clear hW1
 try simp only [hq0]
 clear hq0
 obtain ⟨x0, x1, x2⟩ := box_sk X.out
 rcases hf : OM.fd T id with _ | p
 ·have HF := h! hf
  have hh : Maps.has (plD ids) (.int .i64 id) = false := by
   rw [← Bool.not_eq_true, HHAS.out]
   rintro ⟨p, hp⟩
   rw [hf] at hp
   cases hp
  clear hf
  obtain ⟨⟨y0, y1, y2, y3, y4, y5, y6⟩, f0, f1, f2, f3, f4, f5, f6⟩ := box_wtf Y.out
  have HZ := h! (pt7_box Y.out (.int .i64 0) (.slice none 0 0) (.int .i64 0) (.string ⟨#[]⟩) (.string ⟨#[]⟩) (.int .i64 0) (.bool false))
  have HZB := h! (pt7_below HB.out (g := q0 + 1) (by have := HQ.out; omega) (.int .i64 0) (.slice none 0 0) (.int .i64 0) (.string ⟨#[]⟩) (.string ⟨#[]⟩) (.int .i64 0) (.bool false))
  unfold pt7 at HZ HZB
  go_wp2_with (at_lookup; refine wpList_lookup_own_ok_int _ rfl _ _ 72 rfl 3 3 .i64 lawI Tryz.underlying72 Tryz.underlying3 (zeroI _) b _ _ rfl (HM.out _ HB.out) _ _ rfl (keyOf_int_mk Tryz.underlying3 (wfI hid)) ?_; intro cc hat hwc; rw [hh])
  obtain ⟨u0, u1, u2, u3, u4, u5, u6⟩ := box_wt HZ.out
  exact bodyPost_ret (v := .tuple #[.agg #[.int .i64 0, .slice none 0 0, .int .i64 0, .string ⟨#[]⟩, .string ⟨#[]⟩, .int .i64 0, .bool false], .bool false]) (by simp [results, Tryz.results63, go_sem, u0, u1, u2, u3, u4, u5, u6]; try rfl) rfl ⟨false, none, 0, ⟨CM.mz, 0, false⟩, rfl, HZB.out, RowIs.none _, .inr ⟨rfl, HF.out, rfl⟩⟩
 ·have HF := h! hf
  have hh : Maps.has (plD ids) (.int .i64 id) = true := HHAS.out.2 ⟨p, hf⟩
  obtain ⟨p1, p2⟩ := OM.fd_some hf
  obtain ⟨k, hk⟩ := List.getElem?_of_mem p1
  have hkn : k < n := by have := (List.getElem?_eq_some_iff.1 hk).1; have := HL.out; omega
  have HAT := h! (plD_at HN.out (k := k) (x := id) (by rw [HIDS.out, List.getElem?_map, hk]; show some p.2.id = _; rw [p2]))
  obtain ⟨bl, o, B8, d8, rfl, _, hbl, hat0, hrow⟩ := wts_at H1.out (show (T.map toWt)[k]? = some (toWt p) by rw [List.getElem?_map, hk]; rfl)
  have HRW0 := h! hrow
  obtain ⟨z0, z1, z2, z3, z4, z5, z6⟩ := hat0.below hbl (bmore HBW.out HB.out n!)
  have hn63 : n ≤ 9223372036854775807 := H1.out.small
  clear hf p1 p2 hk hrow hat0
  obtain ⟨t, ⟨ai, ag, at_, ak, ab⟩⟩ := p
  unfold toWt at z0 z1 z2 z3 z4 z5 z6
  simp only at z0 z1 z2 z3 z4 z5 z6
  have HRW := h! (show RowIs w0 B8 d8 ag from HRW0.out)
  have hk0 : (0 : Int) ≤ (k : Int) := by omega
  have hkn2 : (k : Int) < (n : Int) := by omega
  obtain ⟨⟨y0, y1, y2, y3, y4, y5, y6⟩, f0, f1, f2, f3, f4, f5, f6⟩ := box_wtf Y.out
  have HZ := h! (pt7_box Y.out (.int .i64 ai) (.slice B8 ag.length d8) (.int .i64 at_) (.string ak) (.string ab) (.int .i64 t) (.bool false))
  have HZB := h! (pt7_below HB.out (g := q0 + 1) (by have := HQ.out; omega) (.int .i64 ai) (.slice B8 ag.length d8) (.int .i64 at_) (.string ak) (.string ab) (.int .i64 t) (.bool false))
  unfold pt7 at HZ HZB
  go_wp2_with (at_lookup; refine wpList_lookup_own_ok_int _ rfl _ _ 72 rfl 3 3 .i64 lawI Tryz.underlying72 Tryz.underlying3 (zeroI _) b _ _ rfl (HM.out _ HB.out) _ _ rfl (keyOf_int_mk Tryz.underlying3 (wfI hid)) ?_; intro cc hat hwc; rw [hh]; rw [HAT.out] at hat; injection hat with hat; injection hat with _ hat; subst hat)
  obtain ⟨u0, u1, u2, u3, u4, u5, u6⟩ := box_wt HZ.out
  exact bodyPost_ret (v := .tuple #[.agg #[.int .i64 ai, .slice B8 ag.length d8, .int .i64 at_, .string ak, .string ab, .int .i64 t, .bool false], .bool true]) (by simp [results, Tryz.results63, go_sem, u0, u1, u2, u3, u4, u5, u6]; try rfl) rfl ⟨true, B8, d8, toWt (t, ⟨ai, ag, at_, ak, ab⟩), rfl, HZB.out, HRW.out, .inl ⟨rfl, _, HF.out, rfl⟩⟩
end KP
namespace KP
open Go.RowKit CP TP LP
open CM (Mg Cm)
open TM (Sp)
open KM (Wt Sk)
theorem cmsO_kept {S : TypeId → Prop} {w w' : World} {b : Nat} {v : Value} {cs : List Cm} (h : CmsO w b v cs) (k : Kept S w w') (hi : ¬ S 3) (hc : ¬ S 91) : CmsO w' b v cs := by
 obtain ⟨l, h1, h2, h3⟩ := h
 refine ⟨l, h1, k.own h2 hc, fun e he => ?_⟩
 obtain ⟨g1, g2, g3, g4, g5, g6⟩ := h3 e he
 have r1 := rowGe_kept k hi (⟨g1, fun ad e hn => (g3 ad e hn).1, g5⟩ : RowGe w b e.A e.c e.x.m.gs)
 have r2 := rowGe_kept k hi (⟨g2, fun ad e hn => (g4 ad e hn).1, g6⟩ : RowGe w b e.B e.d e.x.ms)
 exact ⟨r1.1, r2.1, g3, g4, r1.3, r2.3⟩
theorem PlrIs.kept {S : TypeId → Prop} {w w' : World} {v : Value} {g : Int} {cs : List Cm} (h : PlrIs w v g cs) (k : Kept S w w') (hi : ¬ S 3) (hc : ¬ S 91) (hs : ¬ S 73) : PlrIs w' v g cs := by
 obtain ⟨pc, pg, sv, b, e, h1, h2, h3⟩ := h
 exact ⟨pc, pg, sv, b, e, k.box _ _ _ hs h1, k.box _ _ _ hi h2, cmsO_kept h3 k hi hc⟩
def PsIs (w : World) (A : Option Addr) (L : List (List Cm)) : Prop := ∀ (g : Nat) l, L[g]? = some l → ∃ bl o v, A = some ⟨bl, o, none⟩ ∧ bl < w.heap.size ∧ w.cell? ⟨bl, o + g, none⟩ = some v ∧ PlrIs w v g l
theorem PsIs.below {w w' : World} {A : Option Addr} {L : List (List Cm)} (h : PsIs w A L) (hb : Below w.heap.size w w') : PsIs w' A L := fun g l hl => by
 obtain ⟨bl, o, v, e, h1, h2, h3⟩ := h g l hl
 exact ⟨bl, o, v, e, Nat.lt_of_lt_of_le h1 hb.size, (hb.cell (p := ⟨bl, o + g, none⟩) h1).trans h2, h3.below hb⟩
def AlIs (w : World) (A : Option Addr) (L : List (List Cm)) : Prop := ∀ g : Nat, g < L.length → ∃ (bl o : Nat) (A' : Option Addr) (n c b : Nat) (B : Option Addr) (m d : Nat), A = some ⟨bl, o, none⟩ ∧ bl < w.heap.size ∧ w.cell? ⟨bl, o + g * 3, none⟩ = some (.slice A' n c) ∧ w.cell? ⟨bl, o + g * 3 + 1, none⟩ = some (.map (some b)) ∧ w.cell? ⟨bl, o + g * 3 + 2, none⟩ = some (.slice B m d) ∧
 ToIs w (.agg #[.slice A' n c, .map (some b), .slice B m d]) (OM.tg L g) (OM.fins g (OM.lg L g))
theorem AlIs.below {w w' : World} {A : Option Addr} {L : List (List Cm)} (h : AlIs w A L) (hb : Below w.heap.size w w') : AlIs w' A L := fun g hl => by
 obtain ⟨bl, o, A', n, c, b, B, m, d, e, h1, h2, h3, h4, h5⟩ := h g hl
 exact ⟨bl, o, A', n, c, b, B, m, d, e, Nat.lt_of_lt_of_le h1 hb.size, (hb.cell (p := ⟨bl, o + g * 3, none⟩) h1).trans h2, (hb.cell (p := ⟨bl, o + g * 3 + 1, none⟩) h1).trans h3, (hb.cell (p := ⟨bl, o + g * 3 + 2, none⟩) h1).trans h4, h5.below hb⟩
def firstE : List (List ByteArray) → Int
 | [] => 0
 | l :: r => if LM.chk l = 0 then firstE r else LM.chk l
def allE (ls : List (List ByteArray)) : Int := if 4 < ls.length then 4 else firstE ls
def cmL (ls : List (List ByteArray)) : List (List Cm) := ls.map LM.cmds
theorem firstE_zero : ∀ {ls : List (List ByteArray)}, firstE ls = 0 → ∀ l ∈ ls, LM.chk l = 0
 | [], _, l, hl => by cases hl
 | x :: r, h, l, hl => by
  unfold firstE at h
  by_cases hx : LM.chk x = 0
  ·rw [if_pos hx] at h
   rcases List.mem_cons.1 hl with rfl | hl
   ·exact hx
   ·exact firstE_zero h l hl
  ·rw [if_neg hx] at h; exact absurd h hx
theorem allE_zero {ls : List (List ByteArray)} (h : allE ls = 0) : OM.Logs (cmL ls) ∧ ls.length ≤ 4 ∧ ∀ l ∈ ls, LM.chk l = 0 := by
 unfold allE at h
 by_cases hl : 4 < ls.length
 ·rw [if_pos hl] at h; exact absurd h (by decide)
 ·rw [if_neg hl] at h
  have h2 := firstE_zero h
  refine ⟨⟨by unfold cmL; rw [List.length_map]; omega, fun l hl c hc => ?_⟩, by omega, h2⟩
  obtain ⟨x, hx, rfl⟩ := List.mem_map.1 hl
  exact (log_may (h2 x hx)).1 c hc
theorem firstE_step {ls : List (List ByteArray)} {k : Nat} {l : List ByteArray} (h : ls[k]? = some l) : firstE (ls.drop k) = if LM.chk l = 0 then firstE (ls.drop (k + 1)) else LM.chk l := by
 have hk := (List.getElem?_eq_some_iff.1 h)
 rw [List.drop_eq_getElem_cons hk.1, hk.2]
 rfl
theorem firstE_end (ls : List (List ByteArray)) : firstE (ls.drop ls.length) = 0 := by rw [List.drop_length]; rfl
end KP
namespace KP
open Go.RowKit CP TP LP SP
open CM (Mg Cm)
open TM (Sp)
open KM (Wt Sk)
theorem info_pl : (Tryz.prog.info? 69).map (fun i => (i.zero, i.size, i.bytes)) = some (some .nilFunc, 1, 8) := by kernel_rfl
def PyQ (r : Int) (n : Nat) (L : List (List Cm)) (w : World) (e : Ending) (w' : World) : Prop :=
 Below w.heap.size w w' ∧ ((r ≠ 0 ∧ e = .returned (.tuple #[.slice none 0 0, .int .i64 r])) ∨ (r = 0 ∧ ∃ A c, e = .returned (.tuple #[.slice A n c, .int .i64 0]) ∧ PsIs w' A L ∧ n ≤ c ∧ c ≤ maxLen))
theorem pyQ_bad {r : Int} {n : Nat} {L : List (List Cm)} {w w' : World} (h : r ≠ 0) (hb : Below w.heap.size w w') : PyQ r n L w (.returned (.tuple #[.slice none 0 0, .int .i64 r])) w' := ⟨hb, .inl ⟨h, rfl⟩⟩
structure PsR (ls : List (List ByteArray)) (w : World) (r : Int) (k : Nat) (u : Value) (wr : World) : Prop where
 bl : Below w.heap.size w wr
 ow : ∃ vs : List Value, wr.ownsRow w.heap.size 69 1 u k vs ∧ vs.length = k ∧ ∀ (g : Nat) v, vs[g]? = some v → ∃ l, ls[g]? = some l ∧ PlrIs wr v g (LM.cmds l)
 fs : firstE (ls.drop k) = r
theorem PsR.below {ls : List (List ByteArray)} {w wr w' : World} {r : Int} {k : Nat} {u : Value} (h : PsR ls w r k u wr) (hb : Below wr.heap.size wr w') : PsR ls w r k u w' := by
 obtain ⟨vs, h1, h2, h3⟩ := h.ow
 exact ⟨bmore h.bl hb n!, ⟨vs, own_below3 h1 hb, h2, fun g v hv => by obtain ⟨l, e, h4⟩ := h3 g v hv; exact ⟨l, e, h4.below hb⟩⟩, h.fs⟩
theorem PsR.end_ {ls : List (List ByteArray)} {w wr : World} {r : Int} {u : Value} (h : PsR ls w r ls.length u wr) : ∃ A c, u = .slice A ls.length c ∧ PsIs wr A (cmL ls) ∧ ls.length ≤ c ∧ c ≤ maxLen := by
 obtain ⟨vs, h1, h2, h3⟩ := h.ow
 obtain ⟨A, c, rfl, h4, h5⟩ := own_form h1
 refine ⟨A, c, rfl, fun g l hl => ?_, h4, h5⟩
 unfold cmL at hl
 rw [List.getElem?_map] at hl
 rcases hx : ls[g]? with _ | x
 ·rw [hx] at hl; cases hl
 rw [hx] at hl
 injection hl with hl
 subst hl
 have hg := (List.getElem?_eq_some_iff.1 hx).1
 obtain ⟨q, cap, hv, _, hlt⟩ := h1.form (by omega)
 injection hv with hv _ _
 subst hv
 have hc := h1.cells (g := q) rfl
 have hvg : vs[g]? = some vs[g] := List.getElem?_eq_getElem (by omega)
 obtain ⟨l, e, h6⟩ := h3 g _ hvg
 rw [hx] at e
 injection e with e
 subst e
 have := hc g _ hvg
 have e2 : (⟨q, 0, none⟩ : Addr).add g = ⟨q, 0 + g, none⟩ := by unfold Addr.add; split <;> simp_all
 rw [e2] at this
 exact ⟨q, 0, _, rfl, hlt, this, h6⟩
theorem playersOf_any (A : Option Addr) (n c : Nat) (ls : List (List ByteArray)) (w : World) (h : LogsIs w A n c ls) (hs : ∀ l ∈ ls, ∀ t ∈ l, t.size ≤ maxLen) : Calls Tryz.prog 34 #[.slice A n c] w (PyQ (allE ls) ls.length (cmL ls) w) := by
 have hln : ls.length = n := by obtain ⟨_, _, _, h1, _⟩ := h; exact h1
 have hn63 : n ≤ 9223372036854775807 := by
  obtain ⟨_, _, _, _, h1, h2⟩ := h
  unfold maxLen at h2
  omega
 by_cases h4 : 4 < n
 ·have hr : allE ls = 4 := by unfold allE; rw [if_pos (by omega)]
  have HF := h! (pyQ_bad (n := ls.length) (L := cmL ls) (w := w) (w' := w) (show allE ls ≠ 0 by rw [hr]; decide) (Below.refl _ _))
  rw [hr] at HF ⊢
  clear h hr hln
  go_enter Tryz.func34, Tryz.ntmps34
  go_wp2_with fail
  go_ret2
  exact HF.out
 obtain ⟨j0, hj, hy0, hy1, hy2⟩ := info_parts info_pl
 have hr : allE ls = firstE ls := by unfold allE; rw [if_neg (by omega)]
 rw [hr]
 obtain ⟨r, hrr⟩ : ∃ r, r = firstE ls := ⟨_, rfl⟩
 rw [← hrr]
 have HT := h! (show PsR ls w r 0 (.slice none 0 0) w from ⟨Below.refl _ _, ⟨[], World.ownsRow_nil _ _ _ _, rfl, fun g v hv => by simp at hv⟩, by rw [List.drop_zero, hrr]⟩)
 have H := h! h
 have HS := h! hs
 have HLN := h! hln
 clear h hs hr hrr hln
 go_enter Tryz.func34, Tryz.ntmps34
 go_wp2_with fail
 go_loopw [4, 14] (fun u i wr => ∃ k : Nat, k ≤ n ∧ i = .int .i64 k ∧ Hid (PsR ls w r k u wr)) (fun _ i _ => n - (intOf i).toNat)
 case atStart => exact ⟨0, by omega, rfl, HT⟩
 case round =>
  clear HT
  obtain ⟨k, hk, rfl, HT⟩ := hrel
  by_cases hlt : k < n
  ·obtain ⟨l, hl⟩ : ∃ l, ls[k]? = some l := ⟨_, List.getElem?_eq_getElem (by have := HLN.out; omega)⟩
   have HL := h! hl
   obtain ⟨ad, B, d, rfl, _, q1, q2, q3, q4⟩ := logs_get (H.out.below HT.out.bl) hl
   have HP := h! (playerOf_any k B l.length d l wr ⟨q2, q3, q4, HS.out l (List.mem_of_getElem? hl)⟩)
   unfold PoIs at HP
   have HFS := h! (show (if LM.chk l = 0 then firstE (ls.drop (k + 1)) else LM.chk l) = r by rw [← firstE_step hl]; exact HT.out.fs)
   have hask : asked k l = LM.chk l := by unfold asked; rw [if_pos (by omega)]
   rw [hask] at HP
   obtain ⟨y, hy⟩ : ∃ y, y = LM.chk l := ⟨_, rfl⟩
   rw [← hy] at HP HFS
   obtain ⟨cs, hcs⟩ : ∃ cs, cs = LM.cmds l := ⟨_, rfl⟩
   rw [← hcs] at HP
   have HCS := h! hcs
   clear hl hask hy hcs q2 q3 q4
   have hk0 : (0 : Int) ≤ (k : Int) := by omega
   have hkn : (k : Int) < (n : Int) := by omega
   go_wp2_with fail
   refine (HP.out).mono ?_
   clear HP q1
   rintro e w2 ⟨hb, ⟨h0, rfl⟩ | ⟨h0, v, rfl, hv⟩⟩
   ·have hk1 : (y == 0) = false := by simpa using h0
    have HR := h! (show y = r by have := HFS.out; rw [if_neg h0] at this; exact this)
    have HB2 := h! (bmore HT.out.bl hb n!)
    clear hb
    go_wp2_with fail
    go_ret2
    rw [← HR.out]
    exact pyQ_bad h0 HB2.out
   ·subst h0
    have HR := h! (show firstE (ls.drop (k + 1)) = r by have := HFS.out; rw [if_pos rfl] at this; exact this)
    have HT2 := h! (HT.out.below hb)
    have HV := h! hv
    obtain ⟨pc, pg, sv, b0, rfl, _⟩ := hv
    clear hb
    obtain ⟨vs, o1, o2, o3⟩ := HT2.out.ow
    obtain ⟨A9, c9, rfl, hc9, hm9⟩ := own_form o1
    have hal : Below w2.heap.size w2 (w2.alloc (.cells #[.func (.func 56) #[] #[.pointer (some ⟨pc, 0, none⟩), .pointer (some ⟨pg, 0, none⟩)]] 69)) := b!
    have HO5 := h! (own_below3 o1 hal)
    have HO2 := h! o2
    have HO3 := h! o3
    have HBA := h! (bmore HT2.out.bl hal n!)
    have HAL := h! hal
    have HRG := h! (rdG_box (s := 1) (n := 1) (Box.new w2 69 #[.func (.func 56) #[] #[.pointer (some ⟨pc, 0, none⟩), .pointer (some ⟨pg, 0, none⟩)]]) (xs := [.func (.func 56) #[] #[.pointer (some ⟨pc, 0, none⟩), .pointer (some ⟨pg, 0, none⟩)]]) rfl rfl)
    clear o1 o2 o3 hal
    go_wp2_with (at_builtin; refine wpList_append_g _ rfl _ _ 80 rfl w.heap.size 69 j0 _ 1 8 Tryz.underlying80 hj hy0 hy1 hy2 rfl (by omega) (.slice A9 k c9) k vs rfl HO5.out (some ⟨w2.heap.size, 0, none⟩) 1 1 [.func (.func 56) #[] #[.pointer (some ⟨pc, 0, none⟩), .pointer (some ⟨pg, 0, none⟩)]] rfl HRG.out (fun u hu => by rw [List.mem_singleton] at hu; subst hu; rfl) (by unfold maxLen; omega) (by omega) HBA.out.size ?_; intro v2 w6 hown hgr hob; have HB6 := h! (below_row HBA.out HO5.out HBA.out.size hgr); have HK6 := h! (Kept.grown (S := fun e => e = 69) HO5.out rfl hgr); have HO6 := h! hown; clear hown hgr hob)
    have NX := h! (show PsR ls w r (k + 1) v2 w6 from by
     refine ⟨HB6.out, ⟨_, HO6.out, by simp [HO2.out], fun g v hv => ?_⟩, HR.out⟩
     by_cases hg : g < vs.length
     ·rw [List.getElem?_append_left hg] at hv
      obtain ⟨l', e, hp⟩ := HO3.out g v hv
      exact ⟨l', e, (hp.below HAL.out).kept HK6.out (by decide) (by decide) (by decide)⟩
     ·have hgl := (List.getElem?_eq_some_iff.1 hv).1
      rw [List.length_append, List.length_singleton] at hgl
      have hg2 : g = k := by have := HO2.out; omega
      subst hg2
      rw [List.getElem?_append_right (by omega)] at hv
      have : g - vs.length = 0 := by have := HO2.out; omega
      rw [this] at hv
      simp at hv
      subst hv
      exact ⟨l, HL.out, by rw [← HCS.out]; exact (HV.out.below HAL.out).kept HK6.out (by decide) (by decide) (by decide)⟩)
    go_wp2_with fail
    go_roundw
    case rel => exact ⟨k + 1, by omega, by go_num, NX⟩
    case measure => simp [intOf]; omega
  ·obtain rfl : n = k := by omega
   have h1 := HT.out
   have h0 : r = 0 := by have := h1.fs; rw [← HLN.out, firstE_end] at this; exact this.symm
   rw [← HLN.out] at h1
   obtain ⟨A9, c9, rfl, hp, hc9, hm9⟩ := h1.end_
   have HF := h! (show PyQ r ls.length (cmL ls) w (.returned (.tuple #[.slice A9 ls.length c9, .int .i64 0])) wr from ⟨HT.out.bl, .inr ⟨h0, A9, c9, rfl, hp, hc9, hm9⟩⟩)
   clear h1 h0 hp hc9 hm9
   go_wp2_with fail
   go_ret2
   exact HF.out
end KP
namespace KP
open Go.RowKit CP TP LP
open CM (Mg Cm)
open TM (Sp)
open KM (Wt Sk)
theorem info_to : (Tryz.prog.info? 75).map (fun i => (i.zero, i.size, i.bytes)) = some (some (.agg #[.slice none 0 0, .map none, .slice none 0 0]), 3, 56) := by kernel_rfl
structure TaR (L : List (List Cm)) (w : World) (q k : Nat) (wr : World) : Prop where
 bl : Below w.heap.size w wr
 bq : w.heap.size ≤ q
 bx : ∃ cur, Box wr q 75 cur ∧ L.length * 3 ≤ cur.size ∧ ∀ g : Nat, g < k → ∃ (A' : Option Addr) (n c b : Nat) (B : Option Addr) (m d : Nat), cur[g * 3]? = some (.slice A' n c) ∧ cur[g * 3 + 1]? = some (.map (some b)) ∧ cur[g * 3 + 2]? = some (.slice B m d) ∧
  ToX w wr (.agg #[.slice A' n c, .map (some b), .slice B m d]) (OM.tg L g) (OM.fins g (OM.lg L g))
theorem ToX.put {W0 w : World} {v : Value} {T : List (Int × Mg)} {F : List Cm} (h : ToX W0 w v T F) {q i : Nat} {cs : Array Value} (hq : Box w q 75 cs) (u : Value) : ToX W0 (w.setCell ⟨q, i, none⟩ u) v T F := by
 obtain ⟨A, n, c, b, B, m, d, b0, e, h1, h2, h3⟩ := h
 have k := Kept.set (S := fun e => e = 75) (i := i) hq rfl u
 exact ⟨A, n, c, b, B, m, d, b0, e, h1.kept k (by decide), mp_set h2 hq u, h3.kept k (by decide)⟩
theorem TaR.next {L : List (List Cm)} {w wr W : World} {q k : Nat} {A' : Option Addr} {n c b : Nat} {B : Option Addr} {m d : Nat} (h : TaR L w q k wr) (hk : k < L.length) (hb : Below wr.heap.size wr W) (hx : ToX w W (.agg #[.slice A' n c, .map (some b), .slice B m d]) (OM.tg L k) (OM.fins k (OM.lg L k))) :
  TaR L w q (k + 1) (((W.setCell ⟨q, k * 3, none⟩ (.slice A' n c)).setCell ⟨q, k * 3 + 1, none⟩ (.map (some b))).setCell ⟨q, k * 3 + 2, none⟩ (.slice B m d)) := by
 obtain ⟨cur, b1, b2, b3⟩ := h.bx
 have c0 := b1.below hb b1.lt
 have c1 := c0.stored (k * 3) (.slice A' n c)
 have c2 := c1.stored (k * 3 + 1) (.map (some b))
 have c3 := c2.stored (k * 3 + 2) (.slice B m d)
 refine ⟨((((bmore h.bl hb n!).setCell (p := ⟨q, k * 3, none⟩) h.bq _).setCell (p := ⟨q, k * 3 + 1, none⟩) h.bq _).setCell (p := ⟨q, k * 3 + 2, none⟩) h.bq _), h.bq, _, c3, by simpa using b2, fun g hg => ?_⟩
 by_cases hgk : g < k
 ·obtain ⟨A2, n2, c2', b2', B2, m2, d2, e0, e1, e2, e3⟩ := b3 g hgk
  refine ⟨A2, n2, c2', b2', B2, m2, d2, ?_, ?_, ?_, (((e3.below hb).put c0 _).put c1 _).put c2 _⟩
  ·rw [Array.getElem?_setIfInBounds_ne (by omega), Array.getElem?_setIfInBounds_ne (by omega), Array.getElem?_setIfInBounds_ne (by omega)]; exact e0
  ·rw [Array.getElem?_setIfInBounds_ne (by omega), Array.getElem?_setIfInBounds_ne (by omega), Array.getElem?_setIfInBounds_ne (by omega)]; exact e1
  ·rw [Array.getElem?_setIfInBounds_ne (by omega), Array.getElem?_setIfInBounds_ne (by omega), Array.getElem?_setIfInBounds_ne (by omega)]; exact e2
 ·obtain rfl : g = k := by omega
  refine ⟨A', n, c, b, B, m, d, ?_, ?_, ?_, ((hx.put c0 _).put c1 _).put c2 _⟩
  ·rw [Array.getElem?_setIfInBounds_ne (by omega), Array.getElem?_setIfInBounds_ne (by omega), Array.getElem?_setIfInBounds_self_of_lt (by omega)]
  ·rw [Array.getElem?_setIfInBounds_ne (by omega), Array.getElem?_setIfInBounds_self_of_lt (by simp; omega)]
  ·rw [Array.getElem?_setIfInBounds_self_of_lt (by simp; omega)]
theorem TaR.end_ {L : List (List Cm)} {w wr : World} {q : Nat} (h : TaR L w q L.length wr) : AlIs wr (some ⟨q, 0, none⟩) L := fun g hg => by
 obtain ⟨cur, b1, b2, b3⟩ := h.bx
 obtain ⟨A', n, c, b, B, m, d, e0, e1, e2, e3⟩ := b3 g hg
 exact ⟨q, 0, A', n, c, b, B, m, d, rfl, b1.lt, by rw [Nat.zero_add]; exact (b1.cell _).trans e0, by rw [Nat.zero_add]; exact (b1.cell _).trans e1, by rw [Nat.zero_add]; exact (b1.cell _).trans e2, e3.is h.bl⟩
theorem TaR.cells {L : List (List Cm)} {w wr : World} {q k : Nat} (h : TaR L w q k wr) (hk : k < L.length) : (∃ x, wr.cell? ⟨q, k * 3, none⟩ = some x) ∧ (∃ y, wr.cell? ⟨q, k * 3 + 1, none⟩ = some y) ∧ (∃ z, wr.cell? ⟨q, k * 3 + 2, none⟩ = some z) ∧ wr.frozen? ⟨q, k * 3, none⟩ = false ∧ wr.frozen? ⟨q, k * 3 + 1, none⟩ = false ∧ wr.frozen? ⟨q, k * 3 + 2, none⟩ = false := by
 obtain ⟨cur, b1, b2, _⟩ := h.bx
 exact ⟨⟨_, (b1.cell _).trans (Array.getElem?_eq_getElem (by omega))⟩, ⟨_, (b1.cell _).trans (Array.getElem?_eq_getElem (by omega))⟩, ⟨_, (b1.cell _).trans (Array.getElem?_eq_getElem (by omega))⟩, b1.frozen _, b1.frozen _, b1.frozen _⟩
theorem TaR.below {L : List (List Cm)} {w wr W : World} {q k : Nat} (h : TaR L w q k wr) (hb : Below wr.heap.size wr W) : TaR L w q k W := by
 obtain ⟨cur, b1, b2, b3⟩ := h.bx
 exact ⟨bmore h.bl hb n!, h.bq, cur, b1.below hb b1.lt, b2, fun g hg => by obtain ⟨A', n, c, b, B, m, d, e0, e1, e2, e3⟩ := b3 g hg; exact ⟨A', n, c, b, B, m, d, e0, e1, e2, e3.below hb⟩⟩
theorem tellAll_any (A : Option Addr) (c : Nat) (L : List (List Cm)) (w : World) (h : PsIs w A L) (hL : OM.Logs L) (h200 : ∀ l ∈ L, l.length ≤ 200) : Calls Tryz.prog 37 #[.slice A L.length c] w fun e w' => ∃ A', e = .returned (.slice A' L.length L.length) ∧ AlIs w' A' L ∧ Below w.heap.size w w' := by
 obtain ⟨n, hn⟩ : ∃ n, n = L.length := ⟨_, rfl⟩
 have hn4 : n ≤ 4 := by have := hL.1; omega
 obtain ⟨j0, hj, hy0, hy1, hy2⟩ := info_parts info_to
 rw [← hn]
 have H := h! h
 have HL := h! hL
 have HN := h! hn
 have H2 := h! h200
 clear h hL hn h200
 have hmk : ∀ w : World, (Instr.makeSlice 86 (.int .i64 (n : Int)) (.int .i64 (n : Int))).run Tryz.prog w = .ok (.slice (some ⟨w.heap.size, 0, none⟩) n n) (w.alloc (.cells (madeCells #[.slice none 0 0, .map none, .slice none 0 0] (n * 3)) 75)) := fun w => by
  have hr := run_make (P := Tryz.prog) w 86 75 j0 _ Tryz.underlying86 hj hy0 .i64 .i64 n n (by omega) (Int.le_refl _) (by rw [hy2]; omega) (by omega)
  simp only [Int.toNat_natCast, hy1] at hr
  exact hr
 obtain ⟨q, hq⟩ : ∃ q, w.heap.size = q := ⟨_, rfl⟩
 obtain ⟨W1, hW1⟩ : ∃ W1, W1 = w.alloc (.cells (madeCells #[.slice none 0 0, .map none, .slice none 0 0] (n * 3)) 75) := ⟨_, rfl⟩
 have HT := h! (show TaR L w q 0 W1 from by
  refine ⟨by rw [hW1]; exact (Below.refl _ _).alloc n! _, by omega, _, by rw [hW1]; exact Box.new_at _ hq, by rw [size_madeCells, HN.out]; exact Nat.le_refl _, fun g hg => absurd hg (by omega)⟩)
 clear hy0 hy1 hy2
 go_enter Tryz.func37, Tryz.ntmps37
 go_upto_region 2 with (fail)
 rw [← hW1]
 clear hW1 hmk hj
 try simp only [hq]
 clear hq
 go_wp2_with fail
 go_loopw [11] (fun i wr => ∃ k : Nat, k ≤ n ∧ i = .int .i64 k ∧ Hid (TaR L w q k wr)) (fun i _ => n - (intOf i).toNat)
 case atStart => exact ⟨0, by omega, rfl, HT⟩
 case round =>
  clear HT
  obtain ⟨k, hk, rfl, HT⟩ := hrel
  by_cases hlt : k < n
  ·have hkL : k < L.length := by have := HN.out; omega
   obtain ⟨l, hl⟩ : ∃ l, L[k]? = some l := ⟨_, List.getElem?_eq_getElem hkL⟩
   obtain ⟨bl, o, v, rfl, hbl, hcell, hp⟩ := H.out k _ hl
   have x0 := (HT.out.bl.cell (p := ⟨bl, o + k, none⟩) hbl).trans hcell
   have hmem := List.mem_of_getElem? hl
   have HP := h! (ptell_any v k l w wr hp HT.out.bl (by omega) (HL.out.2 _ hmem) (H2.out _ hmem))
   have HLG := h! (OM.lg_at hl)
   have HKL := h! hkL
   clear hl hcell hp hmem hkL
   have hk0 : (0 : Int) ≤ (k : Int) := by omega
   have hkn : (k : Int) < (n : Int) := by omega
   go_wp2_with (go_at_call 31; refine (HP.out).mono ?_; rintro e w2 ⟨vt, rfl, hx, hb⟩; have HX := h! hx; have HB2 := h! hb; obtain ⟨A', n', c', b', B', m', d', q', rfl, _⟩ := hx; obtain ⟨⟨z0, hz0⟩, ⟨z1, hz1⟩, ⟨z2, hz2⟩, f0, f1, f2⟩ := (HT.out.below hb).cells HKL.out; have NX := h! (HT.out.next HKL.out HB2.out (by unfold OM.tg; rw [HLG.out]; exact HX.out)); clear hb HP x0)
   go_roundw
   case rel => exact ⟨k + 1, by omega, by go_num, NX⟩
   case measure => simp [intOf]; omega
  ·obtain rfl : n = k := by omega
   have HE := h! (show AlIs wr (some ⟨q, 0, none⟩) L from by have h1 := HT.out; rw [HN.out] at h1; exact h1.end_)
   go_wp2_with fail
   go_ret
   exact ⟨_, rfl, HE.out, HT.out.bl⟩
end KP
end Go.Proofs.YteebeiaokfenmaaGreat
