/-
  Package order: playersOf. Conditions: logs that read as rows of texts.
  Package order: tellAll. Conditions: players of logs that may be.
  The example that the statements of layer 16 begin with: its messages, commands, logs. Conditions: as each theorem says.
-/
import Derived.Test.YteebeiaokfenmaaGreatK01
import Derived.Test.YteebeiaokfenmaaGreatK37
import Derived.Test.YteebeiaokfenmaaGreatK33
import Derived.Test.YteebeiaokfenmaaGreatK05
import Derived.Test.YteebeiaokfenmaaGreatK08
namespace Go.Proofs.YteebeiaokfenmaaGreat.KP
open Go.RowKit CP TP LP SP
open CM (Mg Cm)
open TM (Sp)
open KM (Wt Sk)
set_option linter.unusedVariables false
set_option linter.unusedSimpArgs false
set_option maxRecDepth 100000
theorem info_pl : (Tryz.prog.info? 69).map (fun i => (i.zero, i.size, i.bytes)) = some (some .nilFunc, 1, 8) := by kernel_rfl
def PyQ (r : Int) (n : Nat) (L : List (List Cm)) (w : World) (e : Ending) (w' : World) : Prop :=
 Below w.heap.size w w' ∧ ((r ≠ 0 ∧ e = .returned (.tuple #[.slice none 0 0, .int .i64 r])) ∨ (r = 0 ∧ ∃ A c, e = .returned (.tuple #[.slice A n c, .int .i64 0]) ∧ PsIs w' A L ∧ n ≤ c ∧ c ≤ maxLen))
theorem pyQ_bad {r : Int} {n : Nat} {L : List (List Cm)} {w w' : World} (h : r ≠ 0) (hb : Below w.heap.size w w') : PyQ r n L w (.returned (.tuple #[.slice none 0 0, .int .i64 r])) w' := ⟨hb, .inl ⟨h, rfl⟩⟩
structure PsR (ls : List (List ByteArray)) (w : World) (r : Int) (k : Nat) (u : Value) (wr : World) : Prop where
 bl : Below w.heap.size w wr
 ow : ∃ vs : List Value, wr.ownsRow w.heap.size 69 1 u k vs ∧ vs.length = k ∧ ∀ (g : Nat) v, vs[g]? = some v → ∃ l, ls[g]? = some l ∧ PlrIs wr v g (LM.cmds l)
 fs : firstE (ls.drop k) = r
theorem PsR.below {ls : List (List ByteArray)} {w wr w' : World} {r : Int} {k : Nat} {u : Value} (h : PsR ls w r k u wr) (hb : Below wr.heap.size wr w') : PsR ls w r k u w' := by
 obtain ⟨vs, h1, h2, h3⟩ := h.ow
 exact ⟨bmore h.bl hb n!, ⟨vs, own_below3 h1 hb, h2, fun g v hv => by obtain ⟨l, e, h4⟩ := h3 g v hv; exact ⟨l, e, h4.below hb⟩⟩, h.fs⟩
theorem PsR.end_ {ls : List (List ByteArray)} {w wr : World} {r : Int} {u : Value} (h : PsR ls w r ls.length u wr) : ∃ A c, u = .slice A ls.length c ∧ PsIs wr A (cmL ls) ∧ ls.length ≤ c ∧ c ≤ maxLen := by
 obtain ⟨vs, h1, h2, h3⟩ := h.ow
 obtain ⟨A, c, rfl, h4, h5⟩ := own_form h1
 refine ⟨A, c, rfl, fun g l hl => ?_, h4, h5⟩
 unfold cmL at hl
 rw [List.getElem?_map] at hl
 rcases hx : ls[g]? with _ | x
 ·rw [hx] at hl; cases hl
 rw [hx] at hl
 injection hl with hl
 subst hl
 have hg := (List.getElem?_eq_some_iff.1 hx).1
 obtain ⟨q, cap, hv, _, hlt⟩ := h1.form (by omega)
 injection hv with hv _ _
 subst hv
 have hc := h1.cells (g := q) rfl
 have hvg : vs[g]? = some vs[g] := List.getElem?_eq_getElem (by omega)
 obtain ⟨l, e, h6⟩ := h3 g _ hvg
 rw [hx] at e
 injection e with e
 subst e
 have := hc g _ hvg
 have e2 : (⟨q, 0, none⟩ : Addr).add g = ⟨q, 0 + g, none⟩ := by unfold Addr.add; split <;> simp_all
 rw [e2] at this
 exact ⟨q, 0, _, rfl, hlt, this, h6⟩
set_option maxHeartbeats 2000000 in
theorem playersOf_any (A : Option Addr) (n c : Nat) (ls : List (List ByteArray)) (w : World) (h : LogsIs w A n c ls) (hs : ∀ l ∈ ls, ∀ t ∈ l, t.size ≤ maxLen) : Calls Tryz.prog 34 #[.slice A n c] w (PyQ (allE ls) ls.length (cmL ls) w) := by
 have hln : ls.length = n := by obtain ⟨_, _, _, h1, _⟩ := h; exact h1
 have hn63 : n ≤ 9223372036854775807 := by
  obtain ⟨_, _, _, _, h1, h2⟩ := h
  unfold maxLen at h2
  omega
 by_cases h4 : 4 < n
 ·have hr : allE ls = 4 := by unfold allE; rw [if_pos (by omega)]
  have HF := h! (pyQ_bad (n := ls.length) (L := cmL ls) (w := w) (w' := w) (show allE ls ≠ 0 by rw [hr]; decide) (Below.refl _ _))
  rw [hr] at HF ⊢
  clear h hr hln
  go_enter Tryz.func34, Tryz.ntmps34
  go_wp2_with fail
  go_ret2
  exact HF.out
 obtain ⟨j0, hj, hy0, hy1, hy2⟩ := info_parts info_pl
 have hr : allE ls = firstE ls := by unfold allE; rw [if_neg (by omega)]
 rw [hr]
 obtain ⟨r, hrr⟩ : ∃ r, r = firstE ls := ⟨_, rfl⟩
 rw [← hrr]
 have HT := h! (show PsR ls w r 0 (.slice none 0 0) w from ⟨Below.refl _ _, ⟨[], World.ownsRow_nil _ _ _ _, rfl, fun g v hv => by simp at hv⟩, by rw [List.drop_zero, hrr]⟩)
 have H := h! h
 have HS := h! hs
 have HLN := h! hln
 clear h hs hr hrr hln
 go_enter Tryz.func34, Tryz.ntmps34
 go_wp2_with fail
 go_loopw [4, 14] (fun u i wr => ∃ k : Nat, k ≤ n ∧ i = .int .i64 k ∧ Hid (PsR ls w r k u wr)) (fun _ i _ => n - (intOf i).toNat)
 case atStart => exact ⟨0, by omega, rfl, HT⟩
 case round =>
  clear HT
  obtain ⟨k, hk, rfl, HT⟩ := hrel
  by_cases hlt : k < n
  ·obtain ⟨l, hl⟩ : ∃ l, ls[k]? = some l := ⟨_, List.getElem?_eq_getElem (by have := HLN.out; omega)⟩
   have HL := h! hl
   obtain ⟨ad, B, d, rfl, _, q1, q2, q3, q4⟩ := logs_get (H.out.below HT.out.bl) hl
   have HP := h! (playerOf_any k B l.length d l wr ⟨q2, q3, q4, HS.out l (List.mem_of_getElem? hl)⟩)
   unfold PoIs at HP
   have HFS := h! (show (if LM.chk l = 0 then firstE (ls.drop (k + 1)) else LM.chk l) = r by rw [← firstE_step hl]; exact HT.out.fs)
   have hask : asked k l = LM.chk l := by unfold asked; rw [if_pos (by omega)]
   rw [hask] at HP
   obtain ⟨y, hy⟩ : ∃ y, y = LM.chk l := ⟨_, rfl⟩
   rw [← hy] at HP HFS
   obtain ⟨cs, hcs⟩ : ∃ cs, cs = LM.cmds l := ⟨_, rfl⟩
   rw [← hcs] at HP
   have HCS := h! hcs
   clear hl hask hy hcs q2 q3 q4
   have hk0 : (0 : Int) ≤ (k : Int) := by omega
   have hkn : (k : Int) < (n : Int) := by omega
   go_wp2_with fail
   refine (HP.out).mono ?_
   clear HP q1
   rintro e w2 ⟨hb, ⟨h0, rfl⟩ | ⟨h0, v, rfl, hv⟩⟩
   ·have hk1 : (y == 0) = false := by simpa using h0
    have HR := h! (show y = r by have := HFS.out; rw [if_neg h0] at this; exact this)
    have HB2 := h! (bmore HT.out.bl hb n!)
    clear hb
    go_wp2_with fail
    go_ret2
    rw [← HR.out]
    exact pyQ_bad h0 HB2.out
   ·subst h0
    have HR := h! (show firstE (ls.drop (k + 1)) = r by have := HFS.out; rw [if_pos rfl] at this; exact this)
    have HT2 := h! (HT.out.below hb)
    have HV := h! hv
    obtain ⟨pc, pg, sv, b0, rfl, _⟩ := hv
    clear hb
    obtain ⟨vs, o1, o2, o3⟩ := HT2.out.ow
    obtain ⟨A9, c9, rfl, hc9, hm9⟩ := own_form o1
    have hal : Below w2.heap.size w2 (w2.alloc (.cells #[.func (.func 56) #[] #[.pointer (some ⟨pc, 0, none⟩), .pointer (some ⟨pg, 0, none⟩)]] 69)) := b!
    have HO5 := h! (own_below3 o1 hal)
    have HO2 := h! o2
    have HO3 := h! o3
    have HBA := h! (bmore HT2.out.bl hal n!)
    have HAL := h! hal
    have HRG := h! (rdG_box (s := 1) (n := 1) (Box.new w2 69 #[.func (.func 56) #[] #[.pointer (some ⟨pc, 0, none⟩), .pointer (some ⟨pg, 0, none⟩)]]) (xs := [.func (.func 56) #[] #[.pointer (some ⟨pc, 0, none⟩), .pointer (some ⟨pg, 0, none⟩)]]) rfl rfl)
    clear o1 o2 o3 hal
    go_wp2_with (at_builtin; refine wpList_append_g _ rfl _ _ 80 rfl w.heap.size 69 j0 _ 1 8 Tryz.underlying80 hj hy0 hy1 hy2 rfl (by omega) (.slice A9 k c9) k vs rfl HO5.out (some ⟨w2.heap.size, 0, none⟩) 1 1 [.func (.func 56) #[] #[.pointer (some ⟨pc, 0, none⟩), .pointer (some ⟨pg, 0, none⟩)]] rfl HRG.out (fun u hu => by rw [List.mem_singleton] at hu; subst hu; rfl) (by unfold maxLen; omega) (by omega) HBA.out.size ?_; intro v2 w6 hown hgr hob; have HB6 := h! (below_row HBA.out HO5.out HBA.out.size hgr); have HK6 := h! (Kept.grown (S := fun e => e = 69) HO5.out rfl hgr); have HO6 := h! hown; clear hown hgr hob)
    have NX := h! (show PsR ls w r (k + 1) v2 w6 from by
     refine ⟨HB6.out, ⟨_, HO6.out, by simp [HO2.out], fun g v hv => ?_⟩, HR.out⟩
     by_cases hg : g < vs.length
     ·rw [List.getElem?_append_left hg] at hv
      obtain ⟨l', e, hp⟩ := HO3.out g v hv
      exact ⟨l', e, (hp.below HAL.out).kept HK6.out (by decide) (by decide) (by decide)⟩
     ·have hgl := (List.getElem?_eq_some_iff.1 hv).1
      rw [List.length_append, List.length_singleton] at hgl
      have hg2 : g = k := by have := HO2.out; omega
      subst hg2
      rw [List.getElem?_append_right (by omega)] at hv
      have : g - vs.length = 0 := by have := HO2.out; omega
      rw [this] at hv
      simp at hv
      subst hv
      exact ⟨l, HL.out, by rw [← HCS.out]; exact (HV.out.below HAL.out).kept HK6.out (by decide) (by decide) (by decide)⟩)
    go_wp2_with fail
    go_roundw
    case rel => exact ⟨k + 1, by omega, by go_num, NX⟩
    case measure => simp [intOf]; omega
  ·obtain rfl : n = k := by omega
   have h1 := HT.out
   have h0 : r = 0 := by have := h1.fs; rw [← HLN.out, firstE_end] at this; exact this.symm
   rw [← HLN.out] at h1
   obtain ⟨A9, c9, rfl, hp, hc9, hm9⟩ := h1.end_
   have HF := h! (show PyQ r ls.length (cmL ls) w (.returned (.tuple #[.slice A9 ls.length c9, .int .i64 0])) wr from ⟨HT.out.bl, .inr ⟨h0, A9, c9, rfl, hp, hc9, hm9⟩⟩)
   clear h1 h0 hp hc9 hm9
   go_wp2_with fail
   go_ret2
   exact HF.out
end Go.Proofs.YteebeiaokfenmaaGreat.KP

namespace Go.Proofs.YteebeiaokfenmaaGreat.KP
open Go.RowKit CP TP LP
open CM (Mg Cm)
open TM (Sp)
open KM (Wt Sk)
set_option linter.unusedVariables false
set_option linter.unusedSimpArgs false
set_option maxRecDepth 100000
theorem info_to : (Tryz.prog.info? 75).map (fun i => (i.zero, i.size, i.bytes)) = some (some (.agg #[.slice none 0 0, .map none, .slice none 0 0]), 3, 56) := by kernel_rfl
structure TaR (L : List (List Cm)) (w : World) (q k : Nat) (wr : World) : Prop where
 bl : Below w.heap.size w wr
 bq : w.heap.size ≤ q
 bx : ∃ cur, Box wr q 75 cur ∧ L.length * 3 ≤ cur.size ∧ ∀ g : Nat, g < k → ∃ (A' : Option Addr) (n c b : Nat) (B : Option Addr) (m d : Nat), cur[g * 3]? = some (.slice A' n c) ∧ cur[g * 3 + 1]? = some (.map (some b)) ∧ cur[g * 3 + 2]? = some (.slice B m d) ∧
  ToX w wr (.agg #[.slice A' n c, .map (some b), .slice B m d]) (OM.tg L g) (OM.fins g (OM.lg L g))
theorem ToX.put {W0 w : World} {v : Value} {T : List (Int × Mg)} {F : List Cm} (h : ToX W0 w v T F) {q i : Nat} {cs : Array Value} (hq : Box w q 75 cs) (u : Value) : ToX W0 (w.setCell ⟨q, i, none⟩ u) v T F := by
 obtain ⟨A, n, c, b, B, m, d, b0, e, h1, h2, h3⟩ := h
 have k := Kept.set (S := fun e => e = 75) (i := i) hq rfl u
 exact ⟨A, n, c, b, B, m, d, b0, e, h1.kept k (by decide), mp_set h2 hq u, h3.kept k (by decide)⟩
theorem TaR.next {L : List (List Cm)} {w wr W : World} {q k : Nat} {A' : Option Addr} {n c b : Nat} {B : Option Addr} {m d : Nat} (h : TaR L w q k wr) (hk : k < L.length) (hb : Below wr.heap.size wr W) (hx : ToX w W (.agg #[.slice A' n c, .map (some b), .slice B m d]) (OM.tg L k) (OM.fins k (OM.lg L k))) :
  TaR L w q (k + 1) (((W.setCell ⟨q, k * 3, none⟩ (.slice A' n c)).setCell ⟨q, k * 3 + 1, none⟩ (.map (some b))).setCell ⟨q, k * 3 + 2, none⟩ (.slice B m d)) := by
 obtain ⟨cur, b1, b2, b3⟩ := h.bx
 have c0 := b1.below hb b1.lt
 have c1 := c0.stored (k * 3) (.slice A' n c)
 have c2 := c1.stored (k * 3 + 1) (.map (some b))
 have c3 := c2.stored (k * 3 + 2) (.slice B m d)
 refine ⟨((((bmore h.bl hb n!).setCell (p := ⟨q, k * 3, none⟩) h.bq _).setCell (p := ⟨q, k * 3 + 1, none⟩) h.bq _).setCell (p := ⟨q, k * 3 + 2, none⟩) h.bq _), h.bq, _, c3, by simpa using b2, fun g hg => ?_⟩
 by_cases hgk : g < k
 ·obtain ⟨A2, n2, c2', b2', B2, m2, d2, e0, e1, e2, e3⟩ := b3 g hgk
  refine ⟨A2, n2, c2', b2', B2, m2, d2, ?_, ?_, ?_, (((e3.below hb).put c0 _).put c1 _).put c2 _⟩
  ·rw [Array.getElem?_setIfInBounds_ne (by omega), Array.getElem?_setIfInBounds_ne (by omega), Array.getElem?_setIfInBounds_ne (by omega)]; exact e0
  ·rw [Array.getElem?_setIfInBounds_ne (by omega), Array.getElem?_setIfInBounds_ne (by omega), Array.getElem?_setIfInBounds_ne (by omega)]; exact e1
  ·rw [Array.getElem?_setIfInBounds_ne (by omega), Array.getElem?_setIfInBounds_ne (by omega), Array.getElem?_setIfInBounds_ne (by omega)]; exact e2
 ·obtain rfl : g = k := by omega
  refine ⟨A', n, c, b, B, m, d, ?_, ?_, ?_, ((hx.put c0 _).put c1 _).put c2 _⟩
  ·rw [Array.getElem?_setIfInBounds_ne (by omega), Array.getElem?_setIfInBounds_ne (by omega), Array.getElem?_setIfInBounds_self_of_lt (by omega)]
  ·rw [Array.getElem?_setIfInBounds_ne (by omega), Array.getElem?_setIfInBounds_self_of_lt (by simp; omega)]
  ·rw [Array.getElem?_setIfInBounds_self_of_lt (by simp; omega)]
theorem TaR.end_ {L : List (List Cm)} {w wr : World} {q : Nat} (h : TaR L w q L.length wr) : AlIs wr (some ⟨q, 0, none⟩) L := fun g hg => by
 obtain ⟨cur, b1, b2, b3⟩ := h.bx
 obtain ⟨A', n, c, b, B, m, d, e0, e1, e2, e3⟩ := b3 g hg
 exact ⟨q, 0, A', n, c, b, B, m, d, rfl, b1.lt, by rw [Nat.zero_add]; exact (b1.cell _).trans e0, by rw [Nat.zero_add]; exact (b1.cell _).trans e1, by rw [Nat.zero_add]; exact (b1.cell _).trans e2, e3.is h.bl⟩
theorem TaR.cells {L : List (List Cm)} {w wr : World} {q k : Nat} (h : TaR L w q k wr) (hk : k < L.length) : (∃ x, wr.cell? ⟨q, k * 3, none⟩ = some x) ∧ (∃ y, wr.cell? ⟨q, k * 3 + 1, none⟩ = some y) ∧ (∃ z, wr.cell? ⟨q, k * 3 + 2, none⟩ = some z) ∧ wr.frozen? ⟨q, k * 3, none⟩ = false ∧ wr.frozen? ⟨q, k * 3 + 1, none⟩ = false ∧ wr.frozen? ⟨q, k * 3 + 2, none⟩ = false := by
 obtain ⟨cur, b1, b2, _⟩ := h.bx
 exact ⟨⟨_, (b1.cell _).trans (Array.getElem?_eq_getElem (by omega))⟩, ⟨_, (b1.cell _).trans (Array.getElem?_eq_getElem (by omega))⟩, ⟨_, (b1.cell _).trans (Array.getElem?_eq_getElem (by omega))⟩, b1.frozen _, b1.frozen _, b1.frozen _⟩
theorem TaR.below {L : List (List Cm)} {w wr W : World} {q k : Nat} (h : TaR L w q k wr) (hb : Below wr.heap.size wr W) : TaR L w q k W := by
 obtain ⟨cur, b1, b2, b3⟩ := h.bx
 exact ⟨bmore h.bl hb n!, h.bq, cur, b1.below hb b1.lt, b2, fun g hg => by obtain ⟨A', n, c, b, B, m, d, e0, e1, e2, e3⟩ := b3 g hg; exact ⟨A', n, c, b, B, m, d, e0, e1, e2, e3.below hb⟩⟩
set_option maxHeartbeats 2000000 in
theorem tellAll_any (A : Option Addr) (c : Nat) (L : List (List Cm)) (w : World) (h : PsIs w A L) (hL : OM.Logs L) (h200 : ∀ l ∈ L, l.length ≤ 200) : Calls Tryz.prog 37 #[.slice A L.length c] w fun e w' => ∃ A', e = .returned (.slice A' L.length L.length) ∧ AlIs w' A' L ∧ Below w.heap.size w w' := by
 obtain ⟨n, hn⟩ : ∃ n, n = L.length := ⟨_, rfl⟩
 have hn4 : n ≤ 4 := by have := hL.1; omega
 obtain ⟨j0, hj, hy0, hy1, hy2⟩ := info_parts info_to
 rw [← hn]
 have H := h! h
 have HL := h! hL
 have HN := h! hn
 have H2 := h! h200
 clear h hL hn h200
 have hmk : ∀ w : World, (Instr.makeSlice 86 (.int .i64 (n : Int)) (.int .i64 (n : Int))).run Tryz.prog w = .ok (.slice (some ⟨w.heap.size, 0, none⟩) n n) (w.alloc (.cells (madeCells #[.slice none 0 0, .map none, .slice none 0 0] (n * 3)) 75)) := fun w => by
  have hr := run_make (P := Tryz.prog) w 86 75 j0 _ Tryz.underlying86 hj hy0 .i64 .i64 n n (by omega) (Int.le_refl _) (by rw [hy2]; omega) (by omega)
  simp only [Int.toNat_natCast, hy1] at hr
  exact hr
 obtain ⟨q, hq⟩ : ∃ q, w.heap.size = q := ⟨_, rfl⟩
 obtain ⟨W1, hW1⟩ : ∃ W1, W1 = w.alloc (.cells (madeCells #[.slice none 0 0, .map none, .slice none 0 0] (n * 3)) 75) := ⟨_, rfl⟩
 have HT := h! (show TaR L w q 0 W1 from by
  refine ⟨by rw [hW1]; exact (Below.refl _ _).alloc n! _, by omega, _, by rw [hW1]; exact Box.new_at _ hq, by rw [size_madeCells, HN.out]; exact Nat.le_refl _, fun g hg => absurd hg (by omega)⟩)
 clear hy0 hy1 hy2
 go_enter Tryz.func37, Tryz.ntmps37
 go_upto_region 2 with (fail)
 rw [← hW1]
 clear hW1 hmk hj
 try simp only [hq]
 clear hq
 go_wp2_with fail
 go_loopw [11] (fun i wr => ∃ k : Nat, k ≤ n ∧ i = .int .i64 k ∧ Hid (TaR L w q k wr)) (fun i _ => n - (intOf i).toNat)
 case atStart => exact ⟨0, by omega, rfl, HT⟩
 case round =>
  clear HT
  obtain ⟨k, hk, rfl, HT⟩ := hrel
  by_cases hlt : k < n
  ·have hkL : k < L.length := by have := HN.out; omega
   obtain ⟨l, hl⟩ : ∃ l, L[k]? = some l := ⟨_, List.getElem?_eq_getElem hkL⟩
   obtain ⟨bl, o, v, rfl, hbl, hcell, hp⟩ := H.out k _ hl
   have x0 := (HT.out.bl.cell (p := ⟨bl, o + k, none⟩) hbl).trans hcell
   have hmem := List.mem_of_getElem? hl
   have HP := h! (ptell_any v k l w wr hp HT.out.bl (by omega) (HL.out.2 _ hmem) (H2.out _ hmem))
   have HLG := h! (OM.lg_at hl)
   have HKL := h! hkL
   clear hl hcell hp hmem hkL
   have hk0 : (0 : Int) ≤ (k : Int) := by omega
   have hkn : (k : Int) < (n : Int) := by omega
   go_wp2_with (go_at_call 31; refine (HP.out).mono ?_; rintro e w2 ⟨vt, rfl, hx, hb⟩; have HX := h! hx; have HB2 := h! hb; obtain ⟨A', n', c', b', B', m', d', q', rfl, _⟩ := hx; obtain ⟨⟨z0, hz0⟩, ⟨z1, hz1⟩, ⟨z2, hz2⟩, f0, f1, f2⟩ := (HT.out.below hb).cells HKL.out; have NX := h! (HT.out.next HKL.out HB2.out (by unfold OM.tg; rw [HLG.out]; exact HX.out)); clear hb HP x0)
   go_roundw
   case rel => exact ⟨k + 1, by omega, by go_num, NX⟩
   case measure => simp [intOf]; omega
  ·obtain rfl : n = k := by omega
   have HE := h! (show AlIs wr (some ⟨q, 0, none⟩) L from by have h1 := HT.out; rw [HN.out] at h1; exact h1.end_)
   go_wp2_with fail
   go_ret
   exact ⟨_, rfl, HE.out, HT.out.bl⟩
end Go.Proofs.YteebeiaokfenmaaGreat.KP

namespace Go.Proofs.YteebeiaokfenmaaGreat.KP
open Go.RowKit CP TP LP SP
open CM (Mg Cm)
open TM (Sp)
open KM (Wt Sk)
set_option linter.unusedVariables false
set_option linter.unusedSimpArgs false
set_option maxRecDepth 100000
def txt (c : Cm) : ByteArray := ⟨(CM.wr c).toArray⟩
theorem cm_txt {c : Cm} (h : CM.may c) : LM.cm (txt c) = c ∧ LM.er (txt c) = 0 := LM.cm_wr h rfl
def TxtIs (c : Cm) (w : World) (e : Ending) (w' : World) : Prop := e = .returned (.string (txt c)) ∧ Below w.heap.size w w'
theorem row_lit (w : World) (xs : Array Value) (l : List Int) (n : Nat) (hx : xs = (ic l).toArray) (hn : l.length = n) (hm : n ≤ 4096) : RowIs (w.alloc (.cells xs 3)) (some ⟨w.heap.size, 0, none⟩) n l := by
 subst hx
 subst hn
 have := rd_row w (ic l) 3
 rw [ic_length] at this
 exact ⟨this, Nat.le_refl _, by unfold maxLen; omega⟩
theorem tx_lit (w : World) (xs : Array Value) (l : List ByteArray) (n : Nat) (hx : xs = (tcx l).toArray) (hn : l.length = n) (hm : n ≤ 4096) (hs : ∀ s ∈ l, s.size ≤ maxLen) : TxIs (w.alloc (.cells xs 9)) (some ⟨w.heap.size, 0, none⟩) n n l := by
 subst hx
 subst hn
 have := rd_row w (tcx l) 9
 rw [tcx_len] at this
 exact ⟨this, Nat.le_refl _, by unfold maxLen; omega, hs⟩
theorem txt_size {c : Cm} (h : (CM.wr c).length ≤ 4096) : (txt c).size ≤ maxLen := by
 have e : (txt c).size = (CM.wr c).length := rfl
 rw [e]; unfold maxLen; omega
def mE : Mg := ⟨5, [0, 1], 0, ⟨#[]⟩, ⟨#[]⟩⟩
def nE : Mg := ⟨9, [1], 0, ⟨#[]⟩, ⟨#[]⟩⟩
def asgE (m : Mg) : Cm := ⟨1, m, 0, 0, [], 0, 0, 0⟩
def finE (id t : Int) : Cm := ⟨2, CM.mz, id, t, [], 0, 0, 0⟩
theorem may_asg {m : Mg} (h : CM.mgOk m) : CM.may (asgE m) := .inr (.inl ⟨rfl, h, rfl, rfl, rfl, rfl, rfl, rfl⟩)
theorem may_fin {id t : Int} (h : CM.idOk id) (ht : 1 ≤ t ∧ t ≤ 1073741824) : CM.may (finE id t) := .inr (.inr (.inl ⟨rfl, rfl, h, ht, rfl, rfl, rfl, rfl⟩))
theorem ok_m : CM.mgOk mE := by decide +kernel
theorem ok_n : CM.mgOk nE := by decide +kernel
set_option maxHeartbeats 1000000 in
theorem m16_any (w : World) : Calls Tryz.prog 12 #[] w fun e w' => ∃ v, e = .returned v ∧ MgIs w' v mE ∧ Below w.heap.size w w' := by
 have H1 := h! (show Below w.heap.size w ((w.alloc (.cells #[.int .i64 5, .slice (some ⟨w.heap.size + 1, 0, none⟩) 2 2, .int .i64 0, .string ⟨#[]⟩, .string ⟨#[]⟩] 33)).alloc (.cells #[.int .i64 0, .int .i64 1] 3)) from ((Below.refl _ _).alloc n! _).alloc (by simp) _)
 have H2 := h! (show Box ((w.alloc (.cells #[.int .i64 5, .slice (some ⟨w.heap.size + 1, 0, none⟩) 2 2, .int .i64 0, .string ⟨#[]⟩, .string ⟨#[]⟩] 33)).alloc (.cells #[.int .i64 0, .int .i64 1] 3)) w.heap.size 33 #[.int .i64 5, .slice (some ⟨w.heap.size + 1, 0, none⟩) 2 2, .int .i64 0, .string ⟨#[]⟩, .string ⟨#[]⟩] from (Box.new _ _ _).alloc _)
 have H3 := h! (show RowIs ((w.alloc (.cells #[.int .i64 5, .slice (some ⟨w.heap.size + 1, 0, none⟩) 2 2, .int .i64 0, .string ⟨#[]⟩, .string ⟨#[]⟩] 33)).alloc (.cells #[.int .i64 0, .int .i64 1] 3)) (some ⟨w.heap.size + 1, 0, none⟩) 2 [0, 1] by
  have := row_lit (w.alloc (.cells #[.int .i64 5, .slice (some ⟨w.heap.size + 1, 0, none⟩) 2 2, .int .i64 0, .string ⟨#[]⟩, .string ⟨#[]⟩] 33)) #[.int .i64 0, .int .i64 1] [0, 1] 2 rfl rfl (by omega)
  rw [World.size_alloc] at this
  exact this)
 go_enter Tryz.func12, Tryz.ntmps12
 go_wp2_with fail
 obtain ⟨e0, e1, e2, e3, e4⟩ := box_mg H2.out
 exact bodyPost_ret (v := .agg #[.int .i64 5, .slice (some ⟨w.heap.size + 1, 0, none⟩) 2 2, .int .i64 0, .string ⟨#[]⟩, .string ⟨#[]⟩]) (by simp [results, Tryz.results12, go_sem, e0, e1, e2, e3, e4]) rfl
  ⟨_, rfl, ⟨_, 2, rfl, H3.out⟩, H1.out⟩
set_option maxHeartbeats 1000000 in
theorem n16_any (w : World) : Calls Tryz.prog 33 #[] w fun e w' => ∃ v, e = .returned v ∧ MgIs w' v nE ∧ Below w.heap.size w w' := by
 have H1 := h! (show Below w.heap.size w ((w.alloc (.cells #[.int .i64 9, .slice (some ⟨w.heap.size + 1, 0, none⟩) 1 1, .int .i64 0, .string ⟨#[]⟩, .string ⟨#[]⟩] 33)).alloc (.cells #[.int .i64 1] 3)) from ((Below.refl _ _).alloc n! _).alloc (by simp) _)
 have H2 := h! (show Box ((w.alloc (.cells #[.int .i64 9, .slice (some ⟨w.heap.size + 1, 0, none⟩) 1 1, .int .i64 0, .string ⟨#[]⟩, .string ⟨#[]⟩] 33)).alloc (.cells #[.int .i64 1] 3)) w.heap.size 33 #[.int .i64 9, .slice (some ⟨w.heap.size + 1, 0, none⟩) 1 1, .int .i64 0, .string ⟨#[]⟩, .string ⟨#[]⟩] from (Box.new _ _ _).alloc _)
 have H3 := h! (show RowIs ((w.alloc (.cells #[.int .i64 9, .slice (some ⟨w.heap.size + 1, 0, none⟩) 1 1, .int .i64 0, .string ⟨#[]⟩, .string ⟨#[]⟩] 33)).alloc (.cells #[.int .i64 1] 3)) (some ⟨w.heap.size + 1, 0, none⟩) 1 [1] by
  have := row_lit (w.alloc (.cells #[.int .i64 9, .slice (some ⟨w.heap.size + 1, 0, none⟩) 1 1, .int .i64 0, .string ⟨#[]⟩, .string ⟨#[]⟩] 33)) #[.int .i64 1] [1] 1 rfl rfl (by omega)
  rw [World.size_alloc] at this
  exact this)
 go_enter Tryz.func33, Tryz.ntmps33
 go_wp2_with fail
 obtain ⟨e0, e1, e2, e3, e4⟩ := box_mg H2.out
 exact bodyPost_ret (v := .agg #[.int .i64 9, .slice (some ⟨w.heap.size + 1, 0, none⟩) 1 1, .int .i64 0, .string ⟨#[]⟩, .string ⟨#[]⟩]) (by simp [results, Tryz.results33, go_sem, e0, e1, e2, e3, e4]) rfl
  ⟨_, rfl, ⟨_, 1, rfl, H3.out⟩, H1.out⟩
set_option maxHeartbeats 1000000 in
theorem assign16_any (v : Value) (m : Mg) (w : World) (h : MgIs w v m) (hm : CM.mgOk m) : Calls Tryz.prog 32 #[v] w (TxtIs (asgE m) w) := by
 obtain ⟨A, c, rfl, hr⟩ := h
 have HR := h! (fun W (hb : Below w.heap.size w W) => hr.below hb)
 obtain ⟨t, ht⟩ : ∃ t, t = txt (asgE m) := ⟨_, rfl⟩
 obtain ⟨cc, hcc⟩ : ∃ cc, cc = asgE m := ⟨_, rfl⟩
 have hmay := may_asg hm
 have hfit := (cm_fit hmay).1
 rw [← hcc] at ht hmay hfit
 have HM := h! hmay
 have HF := h! hfit
 unfold TxtIs
 rw [← hcc, ← ht]
 have HT := h! ht
 have HCC := h! hcc
 clear hr hm hmay hfit ht hcc
 obtain ⟨ai, ag, at_, ak, ab⟩ := m
 unfold mcells
 simp only at HR ⊢
 have KW := h! (fun W (hb : Below w.heap.size w W) => show Calls Tryz.prog 42 #[.agg #[.int .u8 1, .int .i64 ai, .slice A ag.length c, .int .i64 at_, .string ak, .string ab, .int .i64 0, .int .i64 0, .slice none 0 0, .int .i64 0, .int .i64 0, .int .i64 0]] W (fun e w' => e = .returned (.tuple #[.string t, .int .i64 0]) ∧ Below W.heap.size W w') from by
  have := pwrite_any cc (.agg #[.int .u8 1, .int .i64 ai, .slice A ag.length c, .int .i64 at_, .string ak, .string ab, .int .i64 0, .int .i64 0, .slice none 0 0, .int .i64 0, .int .i64 0, .int .i64 0]) W
   ⟨A, c, none, 0, by rw [HCC.out]; rfl, by rw [HCC.out]; exact HR.out W hb, by rw [HCC.out]; exact RowIs.none _⟩ HF.out
  unfold WrIs at this
  rw [if_pos HM.out, if_pos HM.out] at this
  rw [HT.out]
  exact this)
 have HB := h! (show Below w.heap.size w (w.alloc (.cells #[.int .i64 ai, .slice A ag.length c, .int .i64 at_, .string ak, .string ab] 33)) from (Below.refl _ _).alloc n! _)
 have X := h! (Box.new w 33 #[.int .i64 ai, .slice A ag.length c, .int .i64 at_, .string ak, .string ab])
 go_enter Tryz.func32, Tryz.ntmps32
 go_upto_region 1 with (fail)
 generalize w.alloc (.cells #[.int .i64 ai, .slice A ag.length c, .int .i64 at_, .string ak, .string ab] 33) = w1 at HB X ⊢
 generalize w.heap.size = g1 at X ⊢
 obtain ⟨e0, e1, e2, e3, e4⟩ := box_mg X.out
 go_wp2_with fail
 refine (KW.out _ HB.out).mono ?_
 rintro e w2 ⟨rfl, hb⟩
 have HB2 := h! (bmore HB.out hb n!)
 clear hb KW e0 e1 e2 e3 e4
 go_wp2_with fail
 go_ret
 exact ⟨rfl, HB2.out⟩
set_option maxHeartbeats 1000000 in
theorem final16_any (id t : Int) (w : World) (h : CM.idOk id) (ht : 1 ≤ t ∧ t ≤ 1073741824) : Calls Tryz.prog 15 #[.int .i64 id, .int .i64 t] w (TxtIs (finE id t) w) := by
 have KW := h! (show Calls Tryz.prog 42 #[.agg #[.int .u8 2, .int .i64 0, .slice none 0 0, .int .i64 0, .string ⟨#[]⟩, .string ⟨#[]⟩, .int .i64 id, .int .i64 t, .slice none 0 0, .int .i64 0, .int .i64 0, .int .i64 0]] w (fun e w' => e = .returned (.tuple #[.string (txt (finE id t)), .int .i64 0]) ∧ Below w.heap.size w w') from by
  have := pwrite_any (finE id t) (.agg #[.int .u8 2, .int .i64 0, .slice none 0 0, .int .i64 0, .string ⟨#[]⟩, .string ⟨#[]⟩, .int .i64 id, .int .i64 t, .slice none 0 0, .int .i64 0, .int .i64 0, .int .i64 0]) w
   ⟨none, 0, none, 0, rfl, RowIs.none _, RowIs.none _⟩ (cm_fit (may_fin h ht)).1
  unfold WrIs at this
  rw [if_pos (may_fin h ht), if_pos (may_fin h ht)] at this
  exact this)
 unfold TxtIs
 generalize txt (finE id t) = s at KW ⊢
 clear h ht
 go_enter Tryz.func15, Tryz.ntmps15
 go_wp2_with fail
 refine (KW.out).mono ?_
 rintro e w1 ⟨rfl, hb⟩
 have HB := h! hb
 clear hb KW
 go_wp2_with fail
 go_ret
 exact ⟨rfl, HB.out⟩
def lE0 : List ByteArray := [txt (asgE mE), txt (finE 5 2)]
def lE1 : List ByteArray := [txt (asgE nE), txt (asgE mE), txt (finE 9 1), txt (finE 5 2)]
theorem may_52 : CM.may (finE 5 2) := may_fin (by decide) (by decide)
theorem may_91 : CM.may (finE 9 1) := may_fin (by decide) (by decide)
theorem sz_m : (txt (asgE mE)).size ≤ maxLen := txt_size (by decide +kernel)
theorem sz_n : (txt (asgE nE)).size ≤ maxLen := txt_size (by decide +kernel)
theorem sz_52 : (txt (finE 5 2)).size ≤ maxLen := txt_size (by decide +kernel)
theorem sz_91 : (txt (finE 9 1)).size ≤ maxLen := txt_size (by decide +kernel)
theorem sz0 : ∀ s ∈ lE0, s.size ≤ maxLen := fun s hs => by
 unfold lE0 at hs
 simp only [List.mem_cons, List.not_mem_nil, or_false] at hs
 rcases hs with rfl | rfl
 ·exact sz_m
 ·exact sz_52
theorem sz1 : ∀ s ∈ lE1, s.size ≤ maxLen := fun s hs => by
 unfold lE1 at hs
 simp only [List.mem_cons, List.not_mem_nil, or_false] at hs
 rcases hs with rfl | rfl | rfl | rfl
 ·exact sz_n
 ·exact sz_m
 ·exact sz_91
 ·exact sz_52
theorem cmds0 : LM.cmds lE0 = [asgE mE, finE 5 2] := by
 show [LM.cm (txt (asgE mE)), LM.cm (txt (finE 5 2))] = _
 rw [(cm_txt (may_asg ok_m)).1, (cm_txt may_52).1]
theorem cmds1 : LM.cmds lE1 = [asgE nE, asgE mE, finE 9 1, finE 5 2] := by
 show [LM.cm (txt (asgE nE)), LM.cm (txt (asgE mE)), LM.cm (txt (finE 9 1)), LM.cm (txt (finE 5 2))] = _
 rw [(cm_txt (may_asg ok_n)).1, (cm_txt (may_asg ok_m)).1, (cm_txt may_91).1, (cm_txt may_52).1]
theorem chk0 : LM.chk lE0 = 0 := LM.chk_zero.2 ⟨by decide, fun s hs => by
 unfold lE0 at hs
 simp only [List.mem_cons, List.not_mem_nil, or_false] at hs
 rcases hs with rfl | rfl
 ·exact (cm_txt (may_asg ok_m)).2
 ·exact (cm_txt may_52).2⟩
theorem chk1 : LM.chk lE1 = 0 := LM.chk_zero.2 ⟨by decide, fun s hs => by
 unfold lE1 at hs
 simp only [List.mem_cons, List.not_mem_nil, or_false] at hs
 rcases hs with rfl | rfl | rfl | rfl
 ·exact (cm_txt (may_asg ok_n)).2
 ·exact (cm_txt (may_asg ok_m)).2
 ·exact (cm_txt may_91).2
 ·exact (cm_txt may_52).2⟩
end Go.Proofs.YteebeiaokfenmaaGreat.KP
