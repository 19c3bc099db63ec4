/-
  Several groups' players, and what their logs gave times, in memory. No walk.
  Package order: Local. Conditions: a log that reads as texts.
-/
import Derived.Test.YteebeiaokfenmaaGreatK48
import Derived.Test.YteebeiaokfenmaaGreatK43
import Derived.Test.YteebeiaokfenmaaGreatK01
namespace Go.Proofs.YteebeiaokfenmaaGreat.KP
open Go.RowKit CP TP LP
open CM (Mg Cm)
open TM (Sp)
open KM (Wt Sk)
set_option linter.unusedVariables false
set_option linter.unusedSimpArgs false
theorem cmsO_kept {S : TypeId → Prop} {w w' : World} {b : Nat} {v : Value} {cs : List Cm} (h : CmsO w b v cs) (k : Kept S w w') (hi : ¬ S 3) (hc : ¬ S 91) : CmsO w' b v cs := by
  obtain ⟨l, h1, h2, h3⟩ := h
  refine ⟨l, h1, k.own h2 hc, fun e he => ?_⟩
  obtain ⟨g1, g2, g3, g4, g5, g6⟩ := h3 e he
  have r1 := rowGe_kept k hi (⟨g1, fun ad e hn => (g3 ad e hn).1, g5⟩ : RowGe w b e.A e.c e.x.m.gs)
  have r2 := rowGe_kept k hi (⟨g2, fun ad e hn => (g4 ad e hn).1, g6⟩ : RowGe w b e.B e.d e.x.ms)
  exact ⟨r1.1, r2.1, g3, g4, r1.3, r2.3⟩
theorem PlrIs.kept {S : TypeId → Prop} {w w' : World} {v : Value} {g : Int} {cs : List Cm} (h : PlrIs w v g cs) (k : Kept S w w') (hi : ¬ S 3) (hc : ¬ S 91) (hs : ¬ S 73) : PlrIs w' v g cs := by
  obtain ⟨pc, pg, sv, b, e, h1, h2, h3⟩ := h
  exact ⟨pc, pg, sv, b, e, k.box _ _ _ hs h1, k.box _ _ _ hi h2, cmsO_kept h3 k hi hc⟩
/-- the players of several groups -/
def PsIs (w : World) (A : Option Addr) (L : List (List Cm)) : Prop := ∀ (g : Nat) l, L[g]? = some l → ∃ bl o v, A = some ⟨bl, o, none⟩ ∧ bl < w.heap.size ∧ w.cell? ⟨bl, o + g, none⟩ = some v ∧ PlrIs w v g l
theorem PsIs.below {w w' : World} {A : Option Addr} {L : List (List Cm)} (h : PsIs w A L) (hb : Below w.heap.size w w') : PsIs w' A L := fun g l hl => by
  obtain ⟨bl, o, v, e, h1, h2, h3⟩ := h g l hl
  exact ⟨bl, o, v, e, Nat.lt_of_lt_of_le h1 hb.size, (hb.cell (p := ⟨bl, o + g, none⟩) h1).trans h2, h3.below hb⟩
/-- what several groups' logs gave times -/
def AlIs (w : World) (A : Option Addr) (L : List (List Cm)) : Prop := ∀ g : Nat, g < L.length → ∃ (bl o : Nat) (A' : Option Addr) (n c b : Nat) (B : Option Addr) (m d : Nat), A = some ⟨bl, o, none⟩ ∧ bl < w.heap.size ∧ w.cell? ⟨bl, o + g * 3, none⟩ = some (.slice A' n c) ∧ w.cell? ⟨bl, o + g * 3 + 1, none⟩ = some (.map (some b)) ∧ w.cell? ⟨bl, o + g * 3 + 2, none⟩ = some (.slice B m d) ∧
  ToIs w (.agg #[.slice A' n c, .map (some b), .slice B m d]) (OM.tg L g) (OM.fins g (OM.lg L g))
theorem AlIs.below {w w' : World} {A : Option Addr} {L : List (List Cm)} (h : AlIs w A L) (hb : Below w.heap.size w w') : AlIs w' A L := fun g hl => by
  obtain ⟨bl, o, A', n, c, b, B, m, d, e, h1, h2, h3, h4, h5⟩ := h g hl
  exact ⟨bl, o, A', n, c, b, B, m, d, e, Nat.lt_of_lt_of_le h1 hb.size, (hb.cell (p := ⟨bl, o + g * 3, none⟩) h1).trans h2, (hb.cell (p := ⟨bl, o + g * 3 + 1, none⟩) h1).trans h3, (hb.cell (p := ⟨bl, o + g * 3 + 2, none⟩) h1).trans h4, h5.below hb⟩
/-- what is wrong with logs -/
def firstE : List (List ByteArray) → Int
  | [] => 0
  | l :: r => if LM.chk l = 0 then firstE r else LM.chk l
def allE (ls : List (List ByteArray)) : Int := if 4 < ls.length then 4 else firstE ls
def cmL (ls : List (List ByteArray)) : List (List Cm) := ls.map LM.cmds
theorem firstE_zero : ∀ {ls : List (List ByteArray)}, firstE ls = 0 → ∀ l ∈ ls, LM.chk l = 0
  | [], _, l, hl => by cases hl
  | x :: r, h, l, hl => by
    unfold firstE at h
    by_cases hx : LM.chk x = 0
    · rw [if_pos hx] at h
      rcases List.mem_cons.1 hl with rfl | hl
      · exact hx
      · exact firstE_zero h l hl
    · rw [if_neg hx] at h; exact absurd h hx
theorem allE_zero {ls : List (List ByteArray)} (h : allE ls = 0) : OM.Logs (cmL ls) ∧ ls.length ≤ 4 ∧ ∀ l ∈ ls, LM.chk l = 0 := by
  unfold allE at h
  by_cases hl : 4 < ls.length
  · rw [if_pos hl] at h; exact absurd h (by decide)
  · rw [if_neg hl] at h
    have h2 := firstE_zero h
    refine ⟨⟨by unfold cmL; rw [List.length_map]; omega, fun l hl c hc => ?_⟩, by omega, h2⟩
    obtain ⟨x, hx, rfl⟩ := List.mem_map.1 hl
    exact (log_may (h2 x hx)).1 c hc
theorem firstE_step {ls : List (List ByteArray)} {k : Nat} {l : List ByteArray} (h : ls[k]? = some l) : firstE (ls.drop k) = if LM.chk l = 0 then firstE (ls.drop (k + 1)) else LM.chk l := by
  have hk := (List.getElem?_eq_some_iff.1 h)
  rw [List.drop_eq_getElem_cons hk.1, hk.2]
  rfl
theorem firstE_end (ls : List (List ByteArray)) : firstE (ls.drop ls.length) = 0 := by rw [List.drop_length]; rfl
end Go.Proofs.YteebeiaokfenmaaGreat.KP

namespace Go.Proofs.YteebeiaokfenmaaGreat.KP
open Go.RowKit CP TP LP
open CM (Mg Cm)
open TM (Sp)
open KM (Wt Sk)
set_option linter.unusedVariables false
set_option linter.unusedSimpArgs false
set_option maxRecDepth 100000
theorem field_to (x : Value) (b : Option Nat) (y : Value) (w : World) : (Instr.field 75 (.agg #[x, .map b, y]) 0).run Tryz.prog w = .ok x w := by kernel_rfl
def stps (T : List (Int × Mg)) : List Sp := T.map fun p => ⟨p.1, p.2.id⟩
/-- what Local answers -/
def locS (g : Int) (l : List ByteArray) : List Sp := if asked g l = 0 then stps (OM.play g (LM.cmds l)).2.2 else []
def LcQ (S : List Sp) (r : Int) (w : World) (e : Ending) (w' : World) : Prop := ∃ v, e = .returned (.tuple #[v, .int .i64 r]) ∧ w'.ownsRow w.heap.size 46 2 v S.length (flat spc S) ∧ Below w.heap.size w w'
/-- the stamps so far -/
structure LcR (w : World) (T : List (Int × Mg)) (k : Nat) (u : Value) (wr : World) : Prop where
  bl : Below w.heap.size w wr
  ow : wr.ownsRow w.heap.size 46 2 u k (flat spc (stps (T.take k)))
theorem LcR.below {w wr w' : World} {T : List (Int × Mg)} {k : Nat} {u : Value} (h : LcR w T k u wr) (hb : Below wr.heap.size wr w') : LcR w T k u w' := ⟨bmore h.bl hb (Nat.le_refl _), own_below3 h.ow hb⟩
set_option maxHeartbeats 2000000 in
theorem plocal16_any (g : Int) (A : Option Addr) (n c : Nat) (l : List ByteArray) (w : World) (h : TxIs w A n c l) : Calls Tryz.prog 9 #[.int .i64 g, .slice A n c] w (LcQ (locS g l) (asked g l) w) := by
  obtain ⟨j0, hj, hy0, hy1, hy2⟩ := info_parts info_sp
  have HP := Lib.hid (playerOf_any g A n c l w h)
  unfold PoIs at HP
  have HA := Lib.hid (fun h0 => asked_zero (g := g) (l := l) h0)
  have HM := Lib.hid (fun h0 => log_may (l := l) h0)
  unfold locS
  obtain ⟨r, hr⟩ : ∃ r, r = asked g l := ⟨_, rfl⟩
  rw [← hr] at HP HA ⊢
  obtain ⟨cs, hcs⟩ : ∃ cs, cs = LM.cmds l := ⟨_, rfl⟩
  rw [← hcs] at HP HM ⊢
  obtain ⟨S, hS⟩ : ∃ S, S = (if r = 0 then stps (OM.play g cs).2.2 else []) := ⟨_, rfl⟩
  rw [← hS]
  have HSS := Lib.hid hS
  clear h hr hcs hS
  go_enter Tryz.func9, Tryz.ntmps9
  go_wp2_with fail
  refine (HP.out).mono ?_
  rintro e w2 ⟨hb, ⟨h0, rfl⟩ | ⟨h0, v, rfl, hv⟩⟩
  · have hk : (r == 0) = false := by simpa using h0
    have HB2 := Lib.hid hb
    have HF := Lib.hid (show S = [] by rw [HSS.out, if_neg h0])
    clear hb HP HA HM h0
    go_wp2_with fail
    go_ret2
    exact ⟨_, rfl, by rw [HF.out]; exact World.ownsRow_nil _ _ _ _, HB2.out⟩
  · subst h0
    obtain ⟨hg, hck⟩ := HA.out rfl
    obtain ⟨hmay, hlen⟩ := HM.out hck
    obtain ⟨T, hT⟩ : ∃ T, T = (OM.play g cs).2.2 := ⟨_, rfl⟩
    have HF := Lib.hid (show S = stps T by rw [HSS.out, if_pos rfl, hT])
    have HTL := Lib.hid (ptell_any v g cs w2 w2 hv (Below.refl _ _) hg hmay hlen)
    rw [← hT] at HTL
    have hfew : T.length ≤ 200 := by rw [hT]; exact Nat.le_trans (told_few g cs).1 hlen
    have HB2 := Lib.hid hb
    clear hb HP HA HM hck hmay hlen hT hv
    go_wp2_with fail
    refine (HTL.out).mono ?_
    rintro e w3 ⟨vt, rfl, hx, hb3⟩
    have hto := hx.is hb3
    obtain ⟨A', n', c', b', B', m', d', rfl, hkr, _, _⟩ := hto
    have hn' : n' = T.length := by have := hkr.len; rw [List.length_map] at this; exact this.symm
    have hn63 : n' ≤ 9223372036854775807 := hkr.small
    have HKR := Lib.hid hkr
    have HN := Lib.hid hn'
    have HB3 := Lib.hid (bmore HB2.out hb3 (Nat.le_refl _))
    have HT := Lib.hid (show LcR w3 T 0 (.slice none 0 0) w3 from ⟨Below.refl _ _, World.ownsRow_nil _ _ _ _⟩)
    have HBZ := Lib.hid (show n' ≤ 200 by omega)
    clear HTL hx hb3 hkr hn' HB2
    have hfl := field_to
    go_wp2_with fail
    clear hfl
    go_loopw [8, 24] (fun u i wr => ∃ k : Nat, k ≤ n' ∧ i = .int .i64 k ∧ Hid (LcR w3 T k u wr)) (fun _ i _ => n' - (intOf i).toNat)
    case atStart => exact ⟨0, by omega, rfl, HT⟩
    case round =>
      clear HT
      obtain ⟨k, hk, rfl, HT⟩ := hrel
      by_cases hlt : k < n'
      · obtain ⟨p, hp⟩ : ∃ p, T[k]? = some p := ⟨_, List.getElem?_eq_getElem (by have := HN.out; omega)⟩
        obtain ⟨bl, o, B8, d8, rfl, _, _, ⟨x0, x1, x2, x3, x4, x5, x6⟩, _⟩ := wts_at (HKR.out.below HT.out.bl) (show (T.map toWt)[k]? = some (toWt p) by rw [List.getElem?_map, hp]; rfl)
        have HNX := Lib.hid (show stps (T.take (k + 1)) = stps (T.take k) ++ [⟨p.1, p.2.id⟩] by unfold stps; rw [List.take_add_one, hp, List.map_append]; rfl)
        clear hp
        obtain ⟨t, ⟨ai, ag, at_, ak, ab⟩⟩ := p
        unfold toWt at x0 x1 x2 x3 x4 x5 x6
        simp only at x0 x1 x2 x3 x4 x5 x6 HNX
        have hk0 : (0 : Int) ≤ (k : Int) := by omega
        have hkn : (k : Int) < (n' : Int) := by omega
        have HB := Lib.hid (show Below wr.heap.size wr (wr.alloc (.cells #[.int .i64 ai, .slice B8 ag.length d8, .int .i64 at_, .string ak, .string ab, .int .i64 t, .bool false] 78)) from (Below.refl _ _).alloc (Nat.le_refl _) _)
        have Y := Lib.hid (Box.new wr 78 #[.int .i64 ai, .slice B8 ag.length d8, .int .i64 at_, .string ak, .string ab, .int .i64 t, .bool false])
        go_upto_region 8 with (fail)
        clear x0 x1 x2 x3 x4 x5 x6
        generalize wr.alloc (.cells #[.int .i64 ai, .slice B8 ag.length d8, .int .i64 at_, .string ak, .string ab, .int .i64 t, .bool false] 78) = w4 at HB Y ⊢
        generalize wr.heap.size = g4 at Y ⊢
        have HT4 := Lib.hid (HT.out.below HB.out)
        obtain ⟨y0, y1, y2, y3, y4, y5, y6⟩ := box_wt Y.out
        obtain ⟨A9, c9, rfl, hc9, hm9⟩ := own_form HT4.out.ow
        have hal : Below w4.heap.size w4 (w4.alloc (.cells #[.int .i64 t, .int .i64 ai] 46)) := (Below.refl _ _).alloc (Nat.le_refl _) _
        have HT5 := Lib.hid (HT4.out.below hal)
        have HRG := Lib.hid (rdG_box (s := 2) (n := 1) (Box.new w4 46 #[.int .i64 t, .int .i64 ai]) (xs := spc ⟨t, ai⟩) rfl rfl)
        clear hal
        have hf := HBZ.out
        go_wp2_with (at_builtin; refine wpList_append_g _ rfl _ _ 22 rfl w3.heap.size 46 j0 _ 2 16 Tryz.underlying22 hj hy0 hy1 hy2 rfl (by omega) (.slice A9 k c9) k _ rfl HT5.out.ow (some ⟨w4.heap.size, 0, none⟩) 1 1 (spc ⟨t, ai⟩) rfl HRG.out (spc_one _) (by unfold maxLen; omega) (by omega) HT5.out.bl.size ?_; intro v2 w6 hown hgr hob; have HB6 := Lib.hid (below_row HT5.out.bl HT5.out.ow HT5.out.bl.size hgr); have HO6 := Lib.hid hown; clear hown hgr hob)
        have NX := Lib.hid (show LcR w3 T (k + 1) v2 w6 from ⟨HB6.out, by rw [HNX.out, flat_append, flat_one]; exact HO6.out⟩)
        go_wp2_with fail
        go_roundw
        case rel => exact ⟨k + 1, by omega, by go_num, NX⟩
        case measure => simp [intOf]; omega
      · obtain rfl : n' = k := by omega
        have HE := Lib.hid (show wr.ownsRow w.heap.size 46 2 u8 T.length (flat spc (stps T)) from by have h1 := own_base HT.out.ow HB3.out.size; rw [List.take_of_length_le (by have := HN.out; omega), HN.out] at h1; exact h1)
        go_wp2_with fail
        go_ret2
        exact ⟨_, rfl, by rw [HF.out]; unfold stps; rw [List.length_map]; exact HE.out, bmore HB3.out HT.out.bl (Nat.le_refl _)⟩
end Go.Proofs.YteebeiaokfenmaaGreat.KP
