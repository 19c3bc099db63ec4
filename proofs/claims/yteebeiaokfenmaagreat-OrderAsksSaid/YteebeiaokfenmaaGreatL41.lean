/- Contracts of functions, L41: each as its theorem says. -/
import Derived.Test.YteebeiaokfenmaaGreatL40
set_option linter.unusedVariables false
set_option linter.unusedSimpArgs false
set_option maxRecDepth 100000
set_option maxHeartbeats 16000000
namespace Go.Proofs.YteebeiaokfenmaaGreat
namespace OM
open KM
theorem play_nil (g : Int) : play g [] = (KM.zero, [], []) := rfl
end OM
namespace KP
open Go.RowKit CP TP LP
open CM (Mg Cm)
open TM (Sp)
open KM (Wt Sk)
def KGv : Kd (Int × Mg) where
 s := 6
 pos := by decide
 cel := fun A d x => [.int .i64 x.1, .int .i64 x.2.id, .slice A x.2.gs.length d, .int .i64 x.2.tp, .string x.2.key, .string x.2.body]
 gs := fun x => x.2.gs
 len := fun _ _ _ => rfl
 one := fun A c x u hu => by
  simp only [List.mem_cons, List.not_mem_nil, or_false] at hu
  rcases hu with rfl | rfl | rfl | rfl | rfl | rfl <;> rfl
theorem info_given : (Tryz.prog.info? 104).map (fun i => (i.zero, i.size, i.bytes)) = some (some (.agg #[.int .i64 0, .int .i64 0, .slice none 0 0, .int .i64 0, .string ⟨#[]⟩, .string ⟨#[]⟩]), 6, 80) := by kernel_rfl
theorem sko_ws {W : World} {b : Nat} {c : Int} {A : Option Addr} {n a : Nat} {v : Value} {s : Sk} (h : SkO W b (vsk c (.slice A n a) v) s) : n = s.ws.length := by
 obtain ⟨vw, vd, e, h1, _⟩ := h
 unfold vsk at e
 injection e with e
 injection e with e
 injection e with _ e
 injection e with e _
 subst e
 exact h1.slice.1
theorem tms_next {g : Int} {cs : List Cm} {k : Nat} {c : Cm} (h : cs[k]? = some c) : (OM.play g (cs.take (k + 1))).2.2 = (OM.play g (cs.take k)).2.2 ++ OM.tm1 (stA g cs k) (stA g cs (k + 1)) c := by
 rw [stA_next h]
 unfold stA
 rw [List.take_add_one, h]
 show (OM.play g (cs.take k ++ [c])).2.2 = _
 rw [OM.play_snoc]
 rfl
structure TmR (w w2 : World) (g : Int) (cs : List Cm) (k : Nat) (M : Option Addr) (mm cm : Nat) (wr : World) : Prop where
 b2 : Below w2.heap.size w2 wr
 al : KO KGv wr w.heap.size 104 (.slice M mm cm) (OM.play g (cs.take k)).2.2
 ob : ∀ x, (Value.slice M mm cm).ownBlock = some x → w2.heap.size ≤ x
 le : (OM.play g (cs.take k)).2.2.length ≤ k
theorem times16_any (g : Int) (A : Option Addr) (n c : Nat) (l : List ByteArray) (w : World) (h : TxIs w A n c l) (hg : 0 ≤ g ∧ g < 4) (hck : LM.chk l = 0) :
  Calls Tryz.prog 47 #[.int .i64 g, .slice A n c] w fun e w' => ∃ v, e = .returned v ∧ KO KGv w' w.heap.size 104 v (OM.play g (LM.cmds l)).2.2 ∧ Below w.heap.size w w' := by
 have KS := h! (fun W (hb : Below w.heap.size w W) => steps16_any g A n c l W (h.below hb) hg hck)
 obtain ⟨hmay, hlen⟩ := log_may hck
 obtain ⟨cs, hcs⟩ : ∃ cs, cs = LM.cmds l := ⟨_, rfl⟩
 rw [← hcs] at KS hmay hlen ⊢
 obtain ⟨N, hN⟩ : ∃ N, N = cs.length := ⟨_, rfl⟩
 rw [← hN] at hlen KS
 have HN := h! hN
 have HC := h! hmay
 have HG := h! hg
 obtain ⟨j0, hj, hy0, hy1, hy2⟩ := info_parts info_given
 clear h hg hck hmay hcs hN
 obtain ⟨q, hq⟩ : ∃ q, w.heap.size = q := ⟨_, rfl⟩
 have HQ := h! hq
 go_enter Tryz.func47, Tryz.ntmps47
 go_wp2_with fail
 refine (KS.out _ (Below.refl _ _)).mono ?_
 rintro e w2 ⟨sv, rfl, hst, hb2⟩
 obtain ⟨As, cas, rfl, hc1, hc2⟩ := hst.form
 have HST := h! hst
 have hsl : N ≤ 9223372036854775807 := by omega
 have HT0 := h! (show TmR w w2 g cs 0 none 0 0 w2 from ⟨Below.refl _ _, kO_nil KGv _ _ _, (fun x hx => by cases hx), by simp [OM.play_nil]⟩)
 have HB2 := h! hb2
 clear hst hb2 KS hc1 hc2 hq
 go_wp2_with fail
 go_loopw [5, 7] (fun u i wr => ∃ (k : Nat) (M : Option Addr) (mm cm : Nat), k ≤ N ∧ u = .slice M mm cm ∧ i = .int .i64 k ∧ Hid (TmR w w2 g cs k M mm cm wr)) (fun _ i _ => N - (intOf i).toNat)
 case atStart => exact ⟨0, none, 0, 0, by omega, rfl, rfl, HT0⟩
 case round =>
  clear HT0
  obtain ⟨k, M, mm, cm, hk, rfl, rfl, HT⟩ := hrel
  by_cases hlt : k < N
  ·obtain ⟨p, el, rfl, hpb, hpl, hel, ⟨cur, hcur⟩, hcl⟩ := HST.out.at_ hlt
   obtain ⟨x, Ac, cc, Bc, dc, A4, n4, a4, B4, m4, b4, A6, n6, a6, B6, m6, b6, E, m, f, h1, rfl, hg1, _, h5, h6, h7⟩ := hel.ex
   have HG1 := h! hg1
   have HTX := h! (tms_next (g := g) h1)
   have hn4 := sko_ws h5
   have hn6 := sko_ws h6
   obtain ⟨S2, hS2⟩ : ∃ S2, S2 = stA g cs (k + 1) := ⟨_, rfl⟩
   obtain ⟨S1, hS1⟩ : ∃ S1, S1 = stA g cs k := ⟨_, rfl⟩
   rw [← hS2, ← hS1] at HTX
   rw [← hS2] at hn6 hcl
   rw [← hS1] at hn4 hcl
   obtain ⟨xkk, ⟨xi, xg, xt, xk, xb⟩, xid, xtm, xms, xtp, xwh, xn⟩ := x
   have HC0 := h! (fun (W : World) (hb : Below w2.heap.size w2 W) j u hu => (hb.cell (p := ⟨p, k * 19 + j, none⟩) hpl).trans (hcl j u hu))
   have HCE := h! (fun (W : World) (hb : Below wr.heap.size wr W) j u hu => (bmore HT.out.b2 hb n!).cell (p := ⟨p, k * 19 + j, none⟩) hpl |>.trans (hcl j u hu))
   have HS6 := h! (fun (W : World) (hb : Below wr.heap.size wr W) => show W.cell? ⟨p, k * 19 + 15 + 1, none⟩ = some (.slice A6 n6 a6) ∧ W.cell? ⟨p, k * 19 + 12 + 1, none⟩ = some (.slice A4 n4 a4) from ⟨HCE.out W hb 16 _ rfl, HCE.out W hb 13 _ rfl⟩)
   have HS7 := h! (fun (W : World) (hb : Below wr.heap.size wr W) => show W.cell? ⟨p, k * 19 + 15, none⟩ = some (.int .i64 S2.c) ∧ W.cell? ⟨p, k * 19 + 1, none⟩ = some (.int .i64 xi) ∧ W.cell? ⟨p, k * 19 + 1 + 1, none⟩ = some (.slice Ac xg.length cc) ∧ W.cell? ⟨p, k * 19 + 1 + 2, none⟩ = some (.int .i64 xt) ∧ W.cell? ⟨p, k * 19 + 1 + 3, none⟩ = some (.string xk) ∧ W.cell? ⟨p, k * 19 + 1 + 4, none⟩ = some (.string xb) from ⟨HCE.out W hb 15 _ rfl, HCE.out W hb 1 _ rfl, HCE.out W hb 2 _ rfl, HCE.out W hb 3 _ rfl, HCE.out W hb 4 _ rfl, HCE.out W hb 5 _ rfl⟩)
   have hk0 : (0 : Int) ≤ (k : Int) := by omega
   have hkn : (k : Int) < (N : Int) := by omega
   clear hcl hcur h1 h5 h6 h7 hel hS1 hS2 hg1
   go_upto_region 6 with (fail)
   have bb1 : Below wr.heap.size wr wr.drew := (Below.refl _ _).drew
   obtain ⟨ud, hud⟩ : ∃ ud, ud = wr.drew := ⟨_, rfl⟩
   refine wp_region_held_drew (S := fun w' => w'.cell? ⟨p, k * 19 + 15 + 1, none⟩ = some (.slice A6 n6 a6) ∧ w'.cell? ⟨p, k * 19 + 12 + 1, none⟩ = some (.slice A4 n4 a4)) (by kernel_rfl) (HS6.out _ bb1) (fun hHeld => ?_)
   rw [← hud] at bb1 hHeld ⊢
   clear hud
   refine qT 0 ?_; try simp only [Act.put, qq]
   refine qT 1 ?_; try simp only [Act.put, qq]
   refine qT 2 ?_; try simp only [Act.put, qq]
   refine qT 3 ?_; try simp only [Act.put, qq]
   refine qT 4 ?_; try simp only [Act.put, qq]
   refine qT 5 ?_; try simp only [Act.put, qq]
   refine qT 6 ?_; try simp only [Act.put, qq]
   refine qT 7 ?_; try simp only [Act.put, qq]
   refine qT 8 ?_; try simp only [Act.put, qq]
   refine qT 9 ?_; try simp only [Act.put, qq]
   refine qT 10 ?_; try simp only [Act.put, qq]
   refine qT 11 ?_; try simp only [Act.put, qq]
   refine qT 12 ?_; try simp only [Act.put, qq]
   refine qT 13 ?_; try simp only [Act.put, qq]
   refine qT 14 ?_; try simp only [Act.put, qq]
   refine wpAnyH_done (by kernel_rfl) ?_ _
   clear hHeld
   have HTU := h! (show TmR w w2 g cs k M mm cm ud from ⟨bmore HT.out.b2 bb1 n!, HT.out.al.below bb1, HT.out.ob, HT.out.le⟩)
   replace HS7 := h! (fun (W : World) (hb : Below ud.heap.size ud W) => HS7.out W (bmore bb1 hb n!))
   clear HS6 HCE bb1 HT
   by_cases hgt : n4 < n6
   ·have hgt' : (n4 : Int) < (n6 : Int) := by omega
    have HT1 := h! (show OM.tm1 S1 S2 ⟨xkk, ⟨xi, xg, xt, xk, xb⟩, xid, xtm, xms, xtp, xwh, xn⟩ = [(S2.c, ⟨xi, xg, xt, xk, xb⟩)] by unfold OM.tm1; rw [if_pos (by omega)])
    go_upto_region 7 with (fail)
    have bb1 : Below ud.heap.size ud ud.drew := (Below.refl _ _).drew
    obtain ⟨ue, hue⟩ : ∃ ue, ue = ud.drew := ⟨_, rfl⟩
    refine wp_region_held_drew (S := fun w' => w'.cell? ⟨p, k * 19 + 15, none⟩ = some (.int .i64 S2.c) ∧ w'.cell? ⟨p, k * 19 + 1, none⟩ = some (.int .i64 xi) ∧ w'.cell? ⟨p, k * 19 + 1 + 1, none⟩ = some (.slice Ac xg.length cc) ∧ w'.cell? ⟨p, k * 19 + 1 + 2, none⟩ = some (.int .i64 xt) ∧ w'.cell? ⟨p, k * 19 + 1 + 3, none⟩ = some (.string xk) ∧ w'.cell? ⟨p, k * 19 + 1 + 4, none⟩ = some (.string xb)) (by kernel_rfl) (HS7.out _ bb1) (fun hHeld => ?_)
    rw [← hue] at bb1 hHeld ⊢
    clear hue
    refine qT 0 ?_; try simp only [Act.put, qq]
    refine qT 1 ?_; try simp only [Act.put, qq]
    refine qT 2 ?_; try simp only [Act.put, qq]
    refine qT 3 ?_; try simp only [Act.put, qq]
    refine qT 4 ?_; try simp only [Act.put, qq]
    refine qT 5 ?_; try simp only [Act.put, qq]
    refine qT 6 ?_; try simp only [Act.put, qq]
    refine qT 7 ?_; try simp only [Act.put, qq]
    refine qT 8 ?_; try simp only [Act.put, qq]
    refine qT 9 ?_; try simp only [Act.put, qq]
    refine qT 10 ?_; try simp only [Act.put, qq]
    refine qT 11 ?_; try simp only [Act.put, qq]
    refine qT 12 ?_; try simp only [Act.put, qq]
    refine qT 13 ?_; try simp only [Act.put, qq]
    refine qR 14 fun K hK => ?_
    go_simp
    have X7 := h! (Box.new ue 104 #[.int .i64 S2.c, .int .i64 xi, .slice Ac xg.length cc, .int .i64 xt, .string xk, .string xb])
    have bb7 : Below ud.heap.size ud (ue.alloc (.cells #[.int .i64 S2.c, .int .i64 xi, .slice Ac xg.length cc, .int .i64 xt, .string xk, .string xb] 104)) := bmore bb1 ((Below.refl _ _).alloc n! _) n!
    refine hK.out _ _ (HS7.out _ bb7) (fun hHeld => ?_)
    clear hK
    try simp only [Act.put, qq]
    generalize ue.alloc (.cells #[.int .i64 S2.c, .int .i64 xi, .slice Ac xg.length cc, .int .i64 xt, .string xk, .string xb] 104) = w7 at X7 bb7 hHeld ⊢
    obtain ⟨p7, hp7⟩ : ∃ p7, ue.heap.size = p7 := ⟨_, rfl⟩
    rw [hp7] at X7
    simp only [hp7]
    clear hp7
    have HR2 := h! (rdG_box (s := 6) (n := 1) X7.out rfl rfl)
    have HB7 := h! (bmore HTU.out.b2 bb7 n!)
    have hbz : w.heap.size ≤ w7.heap.size := Nat.le_trans HB2.out.size HB7.out.size
    obtain ⟨es, hes, ho, hrs⟩ := HTU.out.al.below bb7
    have hmm : mm = es.length := by have := HTU.out.al.slice.1; rw [← hes, List.length_map] at this; exact this
    have hle : mm ≤ k := by have := HTU.out.le; rw [← HTU.out.al.slice.1] at this; exact this
    rw [← hmm] at ho
    refine qR 15 fun K hK => ?_
    refine step_append_h rfl (.tmp 32) (.tmp 46) 101 rfl w.heap.size 104 j0 _ 6 80 Tryz.underlying101 hj hy0 hy1 hy2 rfl (by omega) (.slice M mm cm) mm _ (by simp [Act.eval, Act.put]) ho (some ⟨p7, 0, none⟩) 1 1 _ (by simp [Act.eval, Act.put]) HR2.out (List.all_eq_true.1 (by rfl)) (by unfold maxLen; omega) (by omega) hbz ?_
    intro v9 w9 o9 g9 hob9
    obtain ⟨A9, c9, rfl, _, _⟩ := own_form o9
    have hb9 : Below w2.heap.size w2 w9 := HB7.out.grown g9 HB7.out.size (fun j hj => HTU.out.ob j hj)
    have NX := h! (show TmR w w2 g cs (k + 1) A9 (mm + 1) c9 w9 from ⟨hb9, by
      rw [HTX.out, HT1.out]
      refine kO_nexts (K := KGv) es [⟨Ac, cc, (S2.c, ⟨xi, xg, xt, xk, xb⟩)⟩] hes hrs (fun e he => ?_) g9 (by rw [← hmm]; exact o9) hob9
      obtain rfl := List.mem_singleton.1 he
      exact ⟨HG1.out.below HB7.out, fun ad e1 hn q => by have h1 := row_lt HG1.out.1 e1 hn; have h2 := HTU.out.ob _ q; omega⟩,
     fun y hy => by
      rcases hob9 with h | h
      ·rw [h] at hy; exact HTU.out.ob y hy
      ·rw [h] at hy; injection hy with hy; rw [← hy]; exact HB7.out.size, by
      rw [HTX.out, HT1.out, List.length_append]
      have := HTU.out.le
      simpa using this⟩)
    refine hK.out _ _ ⟨HC0.out _ hb9 15 _ rfl, HC0.out _ hb9 1 _ rfl, HC0.out _ hb9 2 _ rfl, HC0.out _ hb9 3 _ rfl, HC0.out _ hb9 4 _ rfl, HC0.out _ hb9 5 _ rfl⟩ (fun hHeld => ?_)
    clear hK
    try simp only [Act.put, qq]
    clear o9 g9 hob9 hb9 ho hes hrs hmm
    refine qT 16 ?_; try simp only [Act.put, qq]
    refine wpAnyH_done (by kernel_rfl) ?_ _
    clear hHeld
    go_wp2_with fail
    go_roundw
    case rel => exact ⟨k + 1, A9, _, c9, by omega, rfl, by go_num, NX⟩
    case measure => simp [intOf]; omega
   ·have hgt' : ¬ (n4 : Int) < (n6 : Int) := by omega
    have HT1 := h! (show OM.tm1 S1 S2 ⟨xkk, ⟨xi, xg, xt, xk, xb⟩, xid, xtm, xms, xtp, xwh, xn⟩ = [] by unfold OM.tm1; rw [if_neg (by omega)])
    have NX := h! (show TmR w w2 g cs (k + 1) M mm cm ud from ⟨HTU.out.b2, by rw [HTX.out, HT1.out, List.append_nil]; exact HTU.out.al, HTU.out.ob, by rw [HTX.out, HT1.out, List.append_nil]; exact Nat.le_succ_of_le HTU.out.le⟩)
    go_wp2_with fail
    go_roundw
    case rel => exact ⟨k + 1, M, mm, cm, by omega, rfl, by go_num, NX⟩
    case measure => simp [intOf]; omega
  ·obtain rfl : N = k := by omega
   have HE := h! (show cs.take N = cs from List.take_of_length_le (by have := HN.out; omega))
   go_wp2_with fail
   go_ret
   exact ⟨_, rfl, by rw [← HE.out]; exact HT.out.al, HB2.out.trans (HT.out.b2.mono HB2.out.size)⟩
end KP
namespace KP
open Go.RowKit CP TP LP SP
open CM (Mg Cm)
open TM (Sp)
open KM (Wt Sk)
theorem tOf_more {T : List (Int × Mg)} {j : Nat} {p : Int × Mg} (m : Mg) (h : T[j]? = some p) : OM.tOf (T.take (j + 1)) m = if p.2 = m then p.1 else OM.tOf (T.take j) m := by
 rw [List.take_add_one, h]
 exact OM.tOf_snoc _ _ _
theorem times_few16 {g : Int} {cs : List Cm} : (OM.play g cs).2.2.length ≤ cs.length := by
 have key : ∀ k, (OM.play g (cs.take k)).2.2.length ≤ k := by
  intro k
  induction k with
  | zero => simp [OM.play_nil]
  | succ k ih =>
   rcases h : cs[k]? with _ | c
   ·have hl := List.getElem?_eq_none_iff.1 h
    rw [List.take_of_length_le (by omega)] at ih ⊢
    omega
   ·rw [tms_next h, List.length_append]
    have h2 : (OM.tm1 (stA g cs k) (stA g cs (k + 1)) c).length ≤ 1 := by unfold OM.tm1; split <;> simp
    omega
 have := key cs.length
 rwa [List.take_length] at this
def LaQ (R : Int × Bool) (w : World) (e : Ending) (w' : World) : Prop := e = .returned (.tuple #[.int .i64 R.1, .bool R.2]) ∧ Below w.heap.size w w'
theorem laQ {R : Int × Bool} {a : Int} {b : Bool} {w w' : World} (h : R = (a, b)) (hb : Below w.heap.size w w') : LaQ R w (.returned (.tuple #[.int .i64 a, .bool b])) w' := by rw [h]; exact ⟨rfl, hb⟩
theorem last16_any (A : Option Addr) (n c : Nat) (ls : List (List ByteArray)) (vm : Value) (m : Mg) (w : World) (h : LogsIs w A n c ls) (hs : ∀ l ∈ ls, ∀ t ∈ l, t.size ≤ maxLen) (h0 : allE ls = 0) (hm : MgIs w vm m) (hg : ∀ g ∈ m.gs, 0 ≤ g) :
  Calls Tryz.prog 51 #[.slice A n c, vm] w (LaQ (OM.lastF (cmL ls) m) w) := by
 have hln : ls.length = n := by obtain ⟨_, _, _, h1, _⟩ := h; exact h1
 have hn63 : n ≤ 9223372036854775807 := by
  obtain ⟨_, _, _, _, h1, h2⟩ := h
  unfold maxLen at h2
  omega
 obtain ⟨hL, h4, hck⟩ := allE_zero h0
 have HCK := h! hck
 have HLg := h! hL
 have HLN := h! hln
 have HTG := h! (fun (g : Nat) l (hl : ls[g]? = some l) => show OM.tg (cmL ls) (g : Int) = (OM.play (g : Int) (LM.cmds l)).2.2 by
  unfold OM.tg
  rw [OM.lg_at (l := LM.cmds l) (by unfold cmL; rw [List.getElem?_map, hl]; rfl)])
 have HFW := h! (cmL_few h0)
 have HCL := h! (cmL_len ls)
 obtain ⟨L, hLe⟩ : ∃ L, L = cmL ls := ⟨_, rfl⟩
 rw [← hLe] at HLg HTG HFW HCL ⊢
 have hn4 : n ≤ 4 := by omega
 have H := h! (fun W (hb : Below w.heap.size w W) => h.below hb)
 have HS := h! hs
 obtain ⟨mm, hmm⟩ : ∃ mm, mm = m := ⟨_, rfl⟩
 obtain ⟨R, hR⟩ : ∃ R, R = OM.lastF L m := ⟨_, rfl⟩
 rw [← hR]
 have HR0 := h! (show OM.lastG L mm (m.gs.drop 0) 0 = R by rw [hmm, hR]; rfl)
 obtain ⟨A1, c1, rfl, hrow⟩ := hm
 have HG := h! hg
 have HROW := h! hrow
 have hg63 : m.gs.length ≤ 9223372036854775807 := by have := hrow.2; unfold maxLen at this; omega
 have HMS := h! (fun W (hb : Below w.heap.size w W) => show MgIs W (.agg (mcells A1 c1 m)) mm from by rw [hmm]; exact ⟨A1, c1, rfl, hrow.below hb⟩)
 clear h hs h0 hln hL h4 hck hLe hg hrow hmm hR
 obtain ⟨ai, ag, at_, ak, ab⟩ := m
 unfold mcells at HMS ⊢
 simp only at HMS HR0 HG HROW hg63 ⊢
 obtain ⟨p3, hp3⟩ : ∃ p3, w.heap.size = p3 := ⟨_, rfl⟩
 have HB := h! (show Below w.heap.size w (w.alloc (.cells #[.int .i64 ai, .slice A1 ag.length c1, .int .i64 at_, .string ak, .string ab] 33)) from (Below.refl _ _).alloc n! _)
 have X := h! (Box.new_at (w := w) (t := 33) (cs := #[.int .i64 ai, .slice A1 ag.length c1, .int .i64 at_, .string ak, .string ab]) p3 hp3)
 go_enter Tryz.func51, Tryz.ntmps51
 go_upto_region 1 with (fail)
 generalize w.alloc (.cells #[.int .i64 ai, .slice A1 ag.length c1, .int .i64 at_, .string ak, .string ab] 33) = w1 at HB X ⊢
 try simp only [hp3]
 clear hp3
 have HR1 := h! (Below.refl w1.heap.size w1)
 go_wp2_with fail
 go_loopw [6, 7] (fun t i wr => ∃ (k : Nat) (most : Int), k ≤ ag.length ∧ t = .int .i64 most ∧ i = .int .i64 k ∧ Hid (Below w1.heap.size w1 wr) ∧ Hid (OM.lastG L mm (ag.drop k) most = R)) (fun _ i _ => ag.length - (intOf i).toNat)
 case atStart => exact ⟨0, 0, by omega, rfl, rfl, HR1, HR0⟩
 case round =>
  clear HR0 HR1
  obtain ⟨k, most, hk, rfl, rfl, HBR, HR⟩ := hrel
  have HBW := h! (bmore HB.out HBR.out n!)
  have X1 := h! (X.out.below HBR.out X.out.lt)
  have x1 := X1.out.cell 1
  simp at x1
  by_cases hlt : k < ag.length
  ·obtain ⟨g, hgk⟩ : ∃ g, ag[k]? = some g := ⟨_, List.getElem?_eq_getElem hlt⟩
   have hd : ag.drop k = g :: ag.drop (k + 1) := by
    have := List.getElem?_eq_some_iff.1 hgk
    rw [List.drop_eq_getElem_cons this.1, this.2]
   have HD := h! (show (if (L.length : Int) ≤ g then (0, false) else if OM.tOf (OM.tg L g) mm = 0 then (0, false) else OM.lastG L mm (ag.drop (k + 1)) (max most (OM.tOf (OM.tg L g) mm))) = R by have := HR.out; rw [hd, OM.lastG] at this; exact this)
   have hg0 : 0 ≤ g := HG.out g (List.mem_of_getElem? hgk)
   obtain ⟨ad, u, rfl, _, hu, hcell⟩ := ((HROW.out.below HBW.out).1.at_ (k := k) hlt)
   have hu2 : u = .int .i64 g := by
    have : (ic ag)[k]? = some (.int .i64 g) := by unfold ic; rw [List.getElem?_map, hgk]; rfl
    rw [this] at hu
    injection hu with hu
    exact hu.symm
   subst hu2
   clear hgk hd hu
   have hk0 : (0 : Int) ≤ (k : Int) := by omega
   have hkn : (k : Int) < (ag.length : Int) := by omega
   by_cases hgl : (n : Int) ≤ g
   ·have HF := h! (show R = (0, false) by have := HD.out; rw [if_pos (by rw [HCL.out, HLN.out]; exact hgl)] at this; exact this.symm)
    go_wp2_with fail
    go_ret2
    exact laQ HF.out HBW.out
   ·obtain ⟨gn, rfl⟩ : ∃ gn : Nat, g = (gn : Int) := ⟨g.toNat, by omega⟩
    have hgn : gn < n := by omega
    obtain ⟨l, hl⟩ : ∃ l, ls[gn]? = some l := ⟨_, List.getElem?_eq_getElem (by have := HLN.out; omega)⟩
    obtain ⟨al, B, d, rfl, _, q1, q2, q3, q4⟩ := logs_get (H.out _ HBW.out) hl
    obtain ⟨T, hT⟩ : ∃ T, T = OM.tg L gn := ⟨_, rfl⟩
    have hmem := List.mem_of_getElem? hl
    have KT := h! (show Calls Tryz.prog 47 #[.int .i64 gn, .slice B l.length d] wr (fun e w' => ∃ v, e = .returned v ∧ KO KGv w' wr.heap.size 104 v T ∧ Below wr.heap.size wr w') from by
     have := times16_any gn B l.length d l wr ⟨q2, q3, q4, HS.out l hmem⟩ (by omega) (HCK.out l hmem)
     rwa [← HTG.out gn l hl, ← hT] at this)
    have HNL := h! (show ¬ (L.length : Int) ≤ (gn : Int) by rw [HCL.out, HLN.out]; exact hgl)
    have HD2 := h! (show (if OM.tOf T mm = 0 then (0, false) else OM.lastG L mm (ag.drop (k + 1)) (max most (OM.tOf T mm))) = R by have := HD.out; rw [if_neg HNL.out, ← hT] at this; exact this)
    have hT200 : T.length ≤ 200 := by
     rw [hT]
     unfold OM.tg
     rw [OM.lg_at (l := L[gn]'(by have := HCL.out; have := HLN.out; omega)) (List.getElem?_eq_getElem _)]
     exact Nat.le_trans (by have h1 := times_few16 (g := (gn : Int)) (cs := L[gn]'(by have := HCL.out; have := HLN.out; omega)); exact h1) (HFW.out _ (List.getElem_mem _))
    have hg0' : (0 : Int) ≤ (gn : Int) := by omega
    have hgk1 : (gn : Int) < (n : Int) := by omega
    clear hl hT hmem q2 q3 q4 HD hgl
    go_wp2_with fail
    clear q1 hcell x1
    refine (KT.out).mono ?_
    rintro e w2 ⟨v, rfl, hko, hb⟩
    obtain ⟨A', c', rfl, hkg⟩ := hko.g
    obtain ⟨nt, hnt⟩ : ∃ nt, nt = T.length := ⟨_, rfl⟩
    rw [← hnt] at hkg hT200
    try rw [← hnt]
    have HKG := h! hkg
    have HNT := h! hnt
    have HB2 := h! (bmore HBR.out hb n!)
    have hnt63 : nt ≤ 9223372036854775807 := by omega
    have HT0 := h! (show (0 : Int) = OM.tOf (T.take 0) mm from rfl)
    have HRR := h! (Below.refl w2.heap.size w2)
    clear hko hb hkg hnt KT
    go_wp2_with fail
    go_loopw [9, 11] (fun s i wq => ∃ (j : Nat) (th : Int), j ≤ nt ∧ s = .int .i64 th ∧ i = .int .i64 j ∧ Hid (Below w2.heap.size w2 wq) ∧ Hid (th = OM.tOf (T.take j) mm)) (fun _ i _ => nt - (intOf i).toNat)
    case atStart => exact ⟨0, 0, by omega, rfl, rfl, HRR, HT0⟩
    case round =>
     clear HRR HT0
     obtain ⟨j, th, hj, rfl, rfl, HBQ, HTH⟩ := hrel
     have HBX := h! (bmore HB2.out HBQ.out n!)
     by_cases hlt2 : j < nt
     ·obtain ⟨p, hp⟩ : ∃ p, T[j]? = some p := ⟨_, List.getElem?_eq_getElem (by have := HNT.out; omega)⟩
      obtain ⟨bl, o, B8, d8, rfl, _, hbl, hcc, hrw⟩ := HKG.out.at_ hp
      have HTM := h! (tOf_more mm hp)
      have HRW := h! hrw.1
      have X2 := h! (X.out.below HBX.out X.out.lt)
      obtain ⟨pt, pm⟩ := p
      have hmg : MgIs w2 (.agg (mcells B8 d8 pm)) pm := ⟨B8, d8, rfl, hrw.1⟩
      have KS := h! (fun W (hb : Below wr.heap.size wr W) => sameMessage_any pm mm _ _ W (hmg.below (bmore HBQ.out hb n!)) (HMS.out W (bmore HB.out (bmore HBX.out hb n!) n!)))
      obtain ⟨q, hq⟩ : ∃ q, q = decide (pm = mm) := ⟨_, rfl⟩
      rw [← hq] at KS
      have HQ := h! hq
      clear hp hrw hmg hq
      obtain ⟨bi, bg, bt, bk, bb⟩ := pm
      unfold mcells at KS
      simp only at KS
      have HCC := h! (fun (W : World) (hb : Below wr.heap.size wr W) i u (hu : (KGv.cel B8 d8 (pt, (⟨bi, bg, bt, bk, bb⟩ : Mg)))[i]? = some u) => show W.cell? ⟨bl, o + j * 6 + i, none⟩ = some u from ((bmore HBQ.out hb n!).cell (p := ⟨bl, o + j * 6 + i, none⟩) hbl).trans (hcc i u hu))
      have HSS := h! (fun (W : World) (hb : Below wr.heap.size wr W) => show W.cell? ⟨bl, o + j * 6 + 1, none⟩ = some (.int .i64 bi) ∧ W.cell? ⟨bl, o + j * 6 + 1 + 1, none⟩ = some (.slice B8 bg.length d8) ∧ W.cell? ⟨bl, o + j * 6 + 1 + 2, none⟩ = some (.int .i64 bt) ∧ W.cell? ⟨bl, o + j * 6 + 1 + 3, none⟩ = some (.string bk) ∧ W.cell? ⟨bl, o + j * 6 + 1 + 4, none⟩ = some (.string bb) ∧
       W.cell? ⟨p3, 0, none⟩ = some (.int .i64 ai) ∧ W.cell? ⟨p3, 1, none⟩ = some (.slice (some ad) ag.length c1) ∧ W.cell? ⟨p3, 2, none⟩ = some (.int .i64 at_) ∧ W.cell? ⟨p3, 3, none⟩ = some (.string ak) ∧ W.cell? ⟨p3, 4, none⟩ = some (.string ab) from by
       have hx := X2.out.below hb X2.out.lt
       exact ⟨HCC.out W hb 1 _ rfl, HCC.out W hb 2 _ rfl, HCC.out W hb 3 _ rfl, HCC.out W hb 4 _ rfl, HCC.out W hb 5 _ rfl, hx.cell 0, hx.cell 1, hx.cell 2, hx.cell 3, hx.cell 4⟩)
      have HPT := h! (fun (W : World) (hb : Below wr.heap.size wr W) => show W.cell? ⟨bl, o + j * 6, none⟩ = some (.int .i64 pt) from HCC.out W hb 0 _ rfl)
      have hj0 : (0 : Int) ≤ (j : Int) := by omega
      have hjn : (j : Int) < (nt : Int) := by omega
      have bb1 : Below wr.heap.size wr wr.drew := (Below.refl _ _).drew
      obtain ⟨s0, s1, s2, s3, s4, s5, s6, s7, s8, s9⟩ := HSS.out _ (Below.refl _ _)
      clear hcc hbl
      go_upto_region 13 with (fail)
      obtain ⟨ud, hud⟩ : ∃ ud, ud = wr.drew := ⟨_, rfl⟩
      refine wp_region_held_drew (S := (fun W => W.cell? ⟨bl, o + j * 6 + 1, none⟩ = some (.int .i64 bi) ∧ W.cell? ⟨bl, o + j * 6 + 1 + 1, none⟩ = some (.slice B8 bg.length d8) ∧ W.cell? ⟨bl, o + j * 6 + 1 + 2, none⟩ = some (.int .i64 bt) ∧ W.cell? ⟨bl, o + j * 6 + 1 + 3, none⟩ = some (.string bk) ∧ W.cell? ⟨bl, o + j * 6 + 1 + 4, none⟩ = some (.string bb) ∧
       W.cell? ⟨p3, 0, none⟩ = some (.int .i64 ai) ∧ W.cell? ⟨p3, 1, none⟩ = some (.slice (some ad) ag.length c1) ∧ W.cell? ⟨p3, 2, none⟩ = some (.int .i64 at_) ∧ W.cell? ⟨p3, 3, none⟩ = some (.string ak) ∧ W.cell? ⟨p3, 4, none⟩ = some (.string ab))) (by kernel_rfl) (HSS.out _ bb1) (fun hHeld => ?_)
      rw [← hud] at bb1 hHeld ⊢
      clear hud s0 s1 s2 s3 s4 s5 s6 s7 s8 s9
      refine qT 0 ?_; try simp only [Act.put, qq]
      refine qT 1 ?_; try simp only [Act.put, qq]
      refine qT 2 ?_; try simp only [Act.put, qq]
      refine qT 3 ?_; try simp only [Act.put, qq]
      refine qT 4 ?_; try simp only [Act.put, qq]
      refine qT 5 ?_; try simp only [Act.put, qq]
      refine qR 6 fun K hK => ?_
      go_simp
      refine (KS.out _ bb1).mono ?_
      rintro e w5 ⟨rfl, hb⟩
      have hb2 := bmore bb1 hb n!
      refine hK.out _ _ (HSS.out _ hb2) (fun hHeld => ?_)
      clear hK
      try simp only [Act.put, qq]
      refine wpAnyH_done (by kernel_rfl) ?_ _
      clear hHeld
      ·have HN := h! (bmore HBQ.out hb2 n!)
       have c0 := HPT.out _ hb2
       clear hb2 hb bb1 HSS KS HCC HPT
       rcases q with _ | _
       ·have NX := h! (show th = OM.tOf (T.take (j + 1)) mm by rw [HTM.out, if_neg (of_decide_eq_false HQ.out.symm)]; exact HTH.out)
        clear c0
        go_wp2_with fail
        go_roundw
        case rel => exact ⟨j + 1, th, by omega, rfl, by go_num, HN, NX⟩
        case measure => simp [intOf]; omega
       ·have NX := h! (show pt = OM.tOf (T.take (j + 1)) mm by rw [HTM.out, if_pos (of_decide_eq_true HQ.out.symm)])
        go_wp2_with fail
        go_roundw
        case rel => exact ⟨j + 1, pt, by omega, rfl, by go_num, HN, NX⟩
        case measure => simp [intOf]; omega
     ·obtain rfl : j = nt := by omega
      have HTE := h! (show th = OM.tOf T mm by have := HTH.out; rwa [List.take_of_length_le (by have := HNT.out; omega)] at this)
      have HBY := h! (bmore HB.out HBX.out n!)
      by_cases hth : th = 0
      ·have HF := h! (show R = (0, false) by have := HD2.out; rw [if_pos (by rw [← HTE.out]; exact hth)] at this; exact this.symm)
       have htb : (th == 0) = true := by simpa using hth
       go_wp2_with fail
       go_ret2
       exact laQ HF.out HBY.out
      ·have htb : (th == 0) = false := by simpa using hth
       have NX := h! (show OM.lastG L mm (ag.drop (k + 1)) (max most th) = R by have := HD2.out; rw [if_neg (by rw [← HTE.out]; exact hth), ← HTE.out] at this; exact this)
       go_wp2_with fail
       go_roundw
       case rel => exact ⟨k + 1, max most th, by omega, rfl, by go_num, HBX, NX⟩
       case measure => simp [intOf]; omega
  ·have HF := h! (show R = (most, true) by
    have := HR.out
    rw [List.drop_of_length_le (by omega)] at this
    exact this.symm)
   go_wp2_with fail
   go_ret2
   exact laQ HF.out HBW.out
end KP
end Go.Proofs.YteebeiaokfenmaaGreat
