/- Contracts of functions, P22: each as its theorem says. -/
import Derived.Test.YteebeiaokfenmaaGreatP21
set_option linter.unusedVariables false
set_option linter.unusedSimpArgs false
set_option maxRecDepth 100000
set_option maxHeartbeats 16000000
namespace Go.Proofs.YteebeiaokfenmaaGreat
namespace OM
open KM
theorem play_nil (g : Int) : play g [] = (KM.zero, [], []) := rfl
end OM
namespace KP
open Go.RowKit CP TP LP
open CM (Mg Cm)
open TM (Sp)
open KM (Wt Sk)
def KGv : Kd (Int × Mg) where
 s := 6
 pos := by decide
 cel := fun A d x => [.int .i64 x.1, .int .i64 x.2.id, .slice A x.2.gs.length d, .int .i64 x.2.tp, .string x.2.key, .string x.2.body]
 gs := fun x => x.2.gs
 len := fun _ _ _ => rfl
 one := fun A c x u hu => by
  simp only [List.mem_cons, List.not_mem_nil, or_false] at hu
  rcases hu with rfl | rfl | rfl | rfl | rfl | rfl <;> rfl
theorem info_given : (Tryz.prog.info? 104).map (fun i => (i.zero, i.size, i.bytes)) = some (some (.agg #[.int .i64 0, .int .i64 0, .slice none 0 0, .int .i64 0, .string ⟨#[]⟩, .string ⟨#[]⟩]), 6, 80) := by kernel_rfl
theorem sko_ws {W : World} {b : Nat} {c : Int} {A : Option Addr} {n a : Nat} {v : Value} {s : Sk} (h : SkO W b (vsk c (.slice A n a) v) s) : n = s.ws.length := by
 obtain ⟨vw, vd, e, h1, _⟩ := h
 unfold vsk at e
 injection e with e
 injection e with e
 injection e with _ e
 injection e with e _
 subst e
 exact h1.slice.1
theorem tms_next {g : Int} {cs : List Cm} {k : Nat} {c : Cm} (h : cs[k]? = some c) : (OM.play g (cs.take (k + 1))).2.2 = (OM.play g (cs.take k)).2.2 ++ OM.tm1 (stA g cs k) (stA g cs (k + 1)) c := by
 rw [stA_next h]
 unfold stA
 rw [List.take_add_one, h]
 show (OM.play g (cs.take k ++ [c])).2.2 = _
 rw [OM.play_snoc]
 rfl
structure TmR (w w2 : World) (g : Int) (cs : List Cm) (k : Nat) (M : Option Addr) (mm cm : Nat) (wr : World) : Prop where
 b2 : Below w2.heap.size w2 wr
 al : KO KGv wr w.heap.size 104 (.slice M mm cm) (OM.play g (cs.take k)).2.2
 ob : ∀ x, (Value.slice M mm cm).ownBlock = some x → w2.heap.size ≤ x
 le : (OM.play g (cs.take k)).2.2.length ≤ k
theorem times16_any (g : Int) (A : Option Addr) (n c : Nat) (l : List ByteArray) (w : World) (h : TxIs w A n c l) (hg : 0 ≤ g ∧ g < 4) (hck : LM.chk l = 0) :
  Calls Tryz.prog 47 #[.int .i64 g, .slice A n c] w fun e w' => ∃ v, e = .returned v ∧ KO KGv w' w.heap.size 104 v (OM.play g (LM.cmds l)).2.2 ∧ Below w.heap.size w w' := by
 have KS := h! (fun W (hb : Below w.heap.size w W) => steps16_any g A n c l W (h.below hb) hg hck)
 obtain ⟨hmay, hlen⟩ := log_may hck
 obtain ⟨cs, hcs⟩ : ∃ cs, cs = LM.cmds l := ⟨_, rfl⟩
 rw [← hcs] at KS hmay hlen ⊢
 obtain ⟨N, hN⟩ : ∃ N, N = cs.length := ⟨_, rfl⟩
 rw [← hN] at hlen KS
 have HN := h! hN
 have HC := h! hmay
 have HG := h! hg
 obtain ⟨j0, hj, hy0, hy1, hy2⟩ := info_parts info_given
 clear h hg hck hmay hcs hN
 obtain ⟨q, hq⟩ : ∃ q, w.heap.size = q := ⟨_, rfl⟩
 have HQ := h! hq
 go_enter Tryz.func47, Tryz.ntmps47
 go_wp2_with fail
 refine (KS.out _ (Below.refl _ _)).mono ?_
 rintro e w2 ⟨sv, rfl, hst, hb2⟩
 obtain ⟨As, cas, rfl, hc1, hc2⟩ := hst.form
 have HST := h! hst
 have hsl : N ≤ 9223372036854775807 := by omega
 have HT0 := h! (show TmR w w2 g cs 0 none 0 0 w2 from ⟨Below.refl _ _, kO_nil KGv _ _ _, (fun x hx => by cases hx), by simp [OM.play_nil]⟩)
 have HB2 := h! hb2
 clear hst hb2 KS hc1 hc2 hq
 go_wp2_with fail
 go_loopw [5, 7] (fun u i wr => ∃ (k : Nat) (M : Option Addr) (mm cm : Nat), k ≤ N ∧ u = .slice M mm cm ∧ i = .int .i64 k ∧ Hid (TmR w w2 g cs k M mm cm wr)) (fun _ i _ => N - (intOf i).toNat)
 case atStart => exact ⟨0, none, 0, 0, by omega, rfl, rfl, HT0⟩
 case round =>
  clear HT0
  obtain ⟨k, M, mm, cm, hk, rfl, rfl, HT⟩ := hrel
  by_cases hlt : k < N
  ·obtain ⟨p, el, rfl, hpb, hpl, hel, ⟨cur, hcur⟩, hcl⟩ := HST.out.at_ hlt
   obtain ⟨x, Ac, cc, Bc, dc, A4, n4, a4, B4, m4, b4, A6, n6, a6, B6, m6, b6, E, m, f, h1, rfl, hg1, _, h5, h6, h7⟩ := hel.ex
   have HG1 := h! hg1
   have HTX := h! (tms_next (g := g) h1)
   have hn4 := sko_ws h5
   have hn6 := sko_ws h6
   obtain ⟨S2, hS2⟩ : ∃ S2, S2 = stA g cs (k + 1) := ⟨_, rfl⟩
   obtain ⟨S1, hS1⟩ : ∃ S1, S1 = stA g cs k := ⟨_, rfl⟩
   rw [← hS2, ← hS1] at HTX
   rw [← hS2] at hn6 hcl
   rw [← hS1] at hn4 hcl
   obtain ⟨xkk, ⟨xi, xg, xt, xk, xb⟩, xid, xtm, xms, xtp, xwh, xn⟩ := x
   have HC0 := h! (fun (W : World) (hb : Below w2.heap.size w2 W) j u hu => (hb.cell (p := ⟨p, k * 19 + j, none⟩) hpl).trans (hcl j u hu))
   have HCE := h! (fun (W : World) (hb : Below wr.heap.size wr W) j u hu => (bmore HT.out.b2 hb n!).cell (p := ⟨p, k * 19 + j, none⟩) hpl |>.trans (hcl j u hu))
   have HS6 := h! (fun (W : World) (hb : Below wr.heap.size wr W) => show W.cell? ⟨p, k * 19 + 15 + 1, none⟩ = some (.slice A6 n6 a6) ∧ W.cell? ⟨p, k * 19 + 12 + 1, none⟩ = some (.slice A4 n4 a4) from ⟨HCE.out W hb 16 _ rfl, HCE.out W hb 13 _ rfl⟩)
   have HS7 := h! (fun (W : World) (hb : Below wr.heap.size wr W) => show W.cell? ⟨p, k * 19 + 15, none⟩ = some (.int .i64 S2.c) ∧ W.cell? ⟨p, k * 19 + 1, none⟩ = some (.int .i64 xi) ∧ W.cell? ⟨p, k * 19 + 1 + 1, none⟩ = some (.slice Ac xg.length cc) ∧ W.cell? ⟨p, k * 19 + 1 + 2, none⟩ = some (.int .i64 xt) ∧ W.cell? ⟨p, k * 19 + 1 + 3, none⟩ = some (.string xk) ∧ W.cell? ⟨p, k * 19 + 1 + 4, none⟩ = some (.string xb) from ⟨HCE.out W hb 15 _ rfl, HCE.out W hb 1 _ rfl, HCE.out W hb 2 _ rfl, HCE.out W hb 3 _ rfl, HCE.out W hb 4 _ rfl, HCE.out W hb 5 _ rfl⟩)
   have hk0 : (0 : Int) ≤ (k : Int) := by omega
   have hkn : (k : Int) < (N : Int) := by omega
   clear hcl hcur h1 h5 h6 h7 hel hS1 hS2 hg1
   go_upto_region 6 with (fail)
   have bb1 : Below wr.heap.size wr wr.drew := (Below.refl _ _).drew
   obtain ⟨ud, hud⟩ : ∃ ud, ud = wr.drew := ⟨_, rfl⟩
   refine wp_region_held_drew (S := fun w' => w'.cell? ⟨p, k * 19 + 15 + 1, none⟩ = some (.slice A6 n6 a6) ∧ w'.cell? ⟨p, k * 19 + 12 + 1, none⟩ = some (.slice A4 n4 a4)) (by kernel_rfl) (HS6.out _ bb1) (fun hHeld => ?_)
   rw [← hud] at bb1 hHeld ⊢
   clear hud
   refine qT 0 ?_; try simp only [Act.put, qq]
   refine qT 1 ?_; try simp only [Act.put, qq]
   refine qT 2 ?_; try simp only [Act.put, qq]
   refine qT 3 ?_; try simp only [Act.put, qq]
   refine qT 4 ?_; try simp only [Act.put, qq]
   refine qT 5 ?_; try simp only [Act.put, qq]
   refine qT 6 ?_; try simp only [Act.put, qq]
   refine qT 7 ?_; try simp only [Act.put, qq]
   refine qT 8 ?_; try simp only [Act.put, qq]
   refine qT 9 ?_; try simp only [Act.put, qq]
   refine qT 10 ?_; try simp only [Act.put, qq]
   refine qT 11 ?_; try simp only [Act.put, qq]
   refine qT 12 ?_; try simp only [Act.put, qq]
   refine qT 13 ?_; try simp only [Act.put, qq]
   refine qT 14 ?_; try simp only [Act.put, qq]
   refine wpAnyH_done (by kernel_rfl) ?_ _
   clear hHeld
   have HTU := h! (show TmR w w2 g cs k M mm cm ud from ⟨bmore HT.out.b2 bb1 n!, HT.out.al.below bb1, HT.out.ob, HT.out.le⟩)
   replace HS7 := h! (fun (W : World) (hb : Below ud.heap.size ud W) => HS7.out W (bmore bb1 hb n!))
   clear HS6 HCE bb1 HT
   by_cases hgt : n4 < n6
   ·have hgt' : (n4 : Int) < (n6 : Int) := by omega
    have HT1 := h! (show OM.tm1 S1 S2 ⟨xkk, ⟨xi, xg, xt, xk, xb⟩, xid, xtm, xms, xtp, xwh, xn⟩ = [(S2.c, ⟨xi, xg, xt, xk, xb⟩)] by unfold OM.tm1; rw [if_pos (by omega)])
    go_upto_region 7 with (fail)
    have bb1 : Below ud.heap.size ud ud.drew := (Below.refl _ _).drew
    obtain ⟨ue, hue⟩ : ∃ ue, ue = ud.drew := ⟨_, rfl⟩
    refine wp_region_held_drew (S := fun w' => w'.cell? ⟨p, k * 19 + 15, none⟩ = some (.int .i64 S2.c) ∧ w'.cell? ⟨p, k * 19 + 1, none⟩ = some (.int .i64 xi) ∧ w'.cell? ⟨p, k * 19 + 1 + 1, none⟩ = some (.slice Ac xg.length cc) ∧ w'.cell? ⟨p, k * 19 + 1 + 2, none⟩ = some (.int .i64 xt) ∧ w'.cell? ⟨p, k * 19 + 1 + 3, none⟩ = some (.string xk) ∧ w'.cell? ⟨p, k * 19 + 1 + 4, none⟩ = some (.string xb)) (by kernel_rfl) (HS7.out _ bb1) (fun hHeld => ?_)
    rw [← hue] at bb1 hHeld ⊢
    clear hue
    refine qT 0 ?_; try simp only [Act.put, qq]
    refine qT 1 ?_; try simp only [Act.put, qq]
    refine qT 2 ?_; try simp only [Act.put, qq]
    refine qT 3 ?_; try simp only [Act.put, qq]
    refine qT 4 ?_; try simp only [Act.put, qq]
    refine qT 5 ?_; try simp only [Act.put, qq]
    refine qT 6 ?_; try simp only [Act.put, qq]
    refine qT 7 ?_; try simp only [Act.put, qq]
    refine qT 8 ?_; try simp only [Act.put, qq]
    refine qT 9 ?_; try simp only [Act.put, qq]
    refine qT 10 ?_; try simp only [Act.put, qq]
    refine qT 11 ?_; try simp only [Act.put, qq]
    refine qT 12 ?_; try simp only [Act.put, qq]
    refine qT 13 ?_; try simp only [Act.put, qq]
    refine qR 14 fun K hK => ?_
    go_simp
    have X7 := h! (Box.new ue 104 #[.int .i64 S2.c, .int .i64 xi, .slice Ac xg.length cc, .int .i64 xt, .string xk, .string xb])
    have bb7 : Below ud.heap.size ud (ue.alloc (.cells #[.int .i64 S2.c, .int .i64 xi, .slice Ac xg.length cc, .int .i64 xt, .string xk, .string xb] 104)) := bmore bb1 ((Below.refl _ _).alloc n! _) n!
    refine hK.out _ _ (HS7.out _ bb7) (fun hHeld => ?_)
    clear hK
    try simp only [Act.put, qq]
    generalize ue.alloc (.cells #[.int .i64 S2.c, .int .i64 xi, .slice Ac xg.length cc, .int .i64 xt, .string xk, .string xb] 104) = w7 at X7 bb7 hHeld ⊢
    obtain ⟨p7, hp7⟩ : ∃ p7, ue.heap.size = p7 := ⟨_, rfl⟩
    rw [hp7] at X7
    simp only [hp7]
    clear hp7
    have HR2 := h! (rdG_box (s := 6) (n := 1) X7.out rfl rfl)
    have HB7 := h! (bmore HTU.out.b2 bb7 n!)
    have hbz : w.heap.size ≤ w7.heap.size := Nat.le_trans HB2.out.size HB7.out.size
    obtain ⟨es, hes, ho, hrs⟩ := HTU.out.al.below bb7
    have hmm : mm = es.length := by have := HTU.out.al.slice.1; rw [← hes, List.length_map] at this; exact this
    have hle : mm ≤ k := by have := HTU.out.le; rw [← HTU.out.al.slice.1] at this; exact this
    rw [← hmm] at ho
    refine qR 15 fun K hK => ?_
    refine step_append_h rfl (.tmp 32) (.tmp 46) 101 rfl w.heap.size 104 j0 _ 6 80 Tryz.underlying101 hj hy0 hy1 hy2 rfl (by omega) (.slice M mm cm) mm _ (by simp [Act.eval, Act.put]) ho (some ⟨p7, 0, none⟩) 1 1 _ (by simp [Act.eval, Act.put]) HR2.out (List.all_eq_true.1 (by rfl)) (by unfold maxLen; omega) (by omega) hbz ?_
    intro v9 w9 o9 g9 hob9
    obtain ⟨A9, c9, rfl, _, _⟩ := own_form o9
    have hb9 : Below w2.heap.size w2 w9 := HB7.out.grown g9 HB7.out.size (fun j hj => HTU.out.ob j hj)
    have NX := h! (show TmR w w2 g cs (k + 1) A9 (mm + 1) c9 w9 from ⟨hb9, by
      rw [HTX.out, HT1.out]
      refine kO_nexts (K := KGv) es [⟨Ac, cc, (S2.c, ⟨xi, xg, xt, xk, xb⟩)⟩] hes hrs (fun e he => ?_) g9 (by rw [← hmm]; exact o9) hob9
      obtain rfl := List.mem_singleton.1 he
      exact ⟨HG1.out.below HB7.out, fun ad e1 hn q => by have h1 := row_lt HG1.out.1 e1 hn; have h2 := HTU.out.ob _ q; omega⟩,
     fun y hy => by
      rcases hob9 with h | h
      ·rw [h] at hy; exact HTU.out.ob y hy
      ·rw [h] at hy; injection hy with hy; rw [← hy]; exact HB7.out.size, by
      rw [HTX.out, HT1.out, List.length_append]
      have := HTU.out.le
      simpa using this⟩)
    refine hK.out _ _ ⟨HC0.out _ hb9 15 _ rfl, HC0.out _ hb9 1 _ rfl, HC0.out _ hb9 2 _ rfl, HC0.out _ hb9 3 _ rfl, HC0.out _ hb9 4 _ rfl, HC0.out _ hb9 5 _ rfl⟩ (fun hHeld => ?_)
    clear hK
    try simp only [Act.put, qq]
    clear o9 g9 hob9 hb9 ho hes hrs hmm
    refine qT 16 ?_; try simp only [Act.put, qq]
    refine wpAnyH_done (by kernel_rfl) ?_ _
    clear hHeld
    go_wp2_with fail
    go_roundw
    case rel => exact ⟨k + 1, A9, _, c9, by omega, rfl, by go_num, NX⟩
    case measure => simp [intOf]; omega
   ·have hgt' : ¬ (n4 : Int) < (n6 : Int) := by omega
    have HT1 := h! (show OM.tm1 S1 S2 ⟨xkk, ⟨xi, xg, xt, xk, xb⟩, xid, xtm, xms, xtp, xwh, xn⟩ = [] by unfold OM.tm1; rw [if_neg (by omega)])
    have NX := h! (show TmR w w2 g cs (k + 1) M mm cm ud from ⟨HTU.out.b2, by rw [HTX.out, HT1.out, List.append_nil]; exact HTU.out.al, HTU.out.ob, by rw [HTX.out, HT1.out, List.append_nil]; exact Nat.le_succ_of_le HTU.out.le⟩)
    go_wp2_with fail
    go_roundw
    case rel => exact ⟨k + 1, M, mm, cm, by omega, rfl, by go_num, NX⟩
    case measure => simp [intOf]; omega
  ·obtain rfl : N = k := by omega
   have HE := h! (show cs.take N = cs from List.take_of_length_le (by have := HN.out; omega))
   go_wp2_with fail
   go_ret
   exact ⟨_, rfl, by rw [← HE.out]; exact HT.out.al, HB2.out.trans (HT.out.b2.mono HB2.out.size)⟩
theorem times_few {g : Int} {cs : List Cm} : ∀ k, (OM.play g (cs.take k)).2.2.length ≤ k
 | 0 => by simp [OM.play_nil]
 | k + 1 => by
  rcases h : cs[k]? with _ | c
  ·have hl := List.getElem?_eq_none_iff.1 h
   have := times_few (g := g) (cs := cs) k
   rw [List.take_of_length_le (by omega)] at this ⊢
   omega
  ·rw [tms_next h, List.length_append]
   have h1 := times_few (g := g) (cs := cs) k
   have h2 : (OM.tm1 (stA g cs k) (stA g cs (k + 1)) c).length ≤ 1 := by unfold OM.tm1; split <;> simp
   omega
theorem local16_any (g : Int) (A : Option Addr) (n c : Nat) (l : List ByteArray) (w : World) (h : TxIs w A n c l) : Calls Tryz.prog 20 #[.int .i64 g, .slice A n c] w (LcQ (locS g l) (asked g l) w) := by
 obtain ⟨j0, hj, hy0, hy1, hy2⟩ := info_parts info_sp
 have KA := h! (fun W (hb : Below w.heap.size w W) => asked16_any g A n c l W (h.below hb))
 have KT := h! (fun (h0 : asked g l = 0) W (hb : Below w.heap.size w W) => times16_any g A n c l W (h.below hb) (asked_zero h0).1 (asked_zero h0).2)
 have HFW := h! (fun (h0 : asked g l = 0) => show (OM.play g (LM.cmds l)).2.2.length ≤ 200 from by
  have h1 := times_few (g := g) (cs := LM.cmds l) (LM.cmds l).length
  rw [List.take_length] at h1
  exact Nat.le_trans h1 (log_may (asked_zero h0).2).2)
 obtain ⟨R, hR⟩ : ∃ R, R = locS g l := ⟨_, rfl⟩
 rw [← hR]
 unfold locS at hR
 obtain ⟨r, hr⟩ : ∃ r, r = asked g l := ⟨_, rfl⟩
 rw [← hr] at KA KT hR HFW ⊢
 obtain ⟨T, hT⟩ : ∃ T, T = (OM.play g (LM.cmds l)).2.2 := ⟨_, rfl⟩
 rw [← hT] at KT hR HFW
 have HR := h! hR
 clear h hR hr hT
 go_enter Tryz.func20, Tryz.ntmps20
 go_wp2_with fail
 refine (KA.out _ (Below.refl _ _)).mono ?_
 rintro e w2 ⟨rfl, hb⟩
 have HB2 := h! hb
 clear KA hb
 by_cases h0 : r = 0
 ·subst h0
  have HF := h! (show R = stps T by rw [HR.out, if_pos rfl])
  have hfw := HFW.out rfl
  go_wp2_with fail
  refine (KT.out (by trivial) _ HB2.out).mono ?_
  rintro e w3 ⟨v, rfl, hko, hb3⟩
  obtain ⟨A', c', rfl, hkg⟩ := hko.g
  obtain ⟨n', hn'⟩ : ∃ n', n' = T.length := ⟨_, rfl⟩
  rw [← hn'] at hkg hfw
  try rw [← hn']
  have HKG := h! hkg
  have HN := h! hn'
  have HB3 := h! (bmore HB2.out hb3 n!)
  have HT := h! (show LcR w3 T 0 (.slice none 0 0) w3 from ⟨Below.refl _ _, World.ownsRow_nil _ _ _ _⟩)
  have hn63 : n' ≤ 9223372036854775807 := by omega
  clear hko hb3 hkg hn' HB2 KT HFW HR
  go_wp2_with fail
  go_loopw [7, 9] (fun u i wr => ∃ k : Nat, k ≤ n' ∧ i = .int .i64 k ∧ Hid (LcR w3 T k u wr)) (fun _ i _ => n' - (intOf i).toNat)
  case atStart => exact ⟨0, by omega, rfl, HT⟩
  case round =>
   clear HT
   obtain ⟨k, hk, rfl, HT⟩ := hrel
   by_cases hlt : k < n'
   ·obtain ⟨pp, hp⟩ : ∃ pp, T[k]? = some pp := ⟨_, List.getElem?_eq_getElem (by have := HN.out; omega)⟩
    obtain ⟨bl, o, B8, d8, rfl, _, hbl, hcc, _⟩ := HKG.out.at_ hp
    have HNX := h! (show stps (T.take (k + 1)) = stps (T.take k) ++ [⟨pp.1, pp.2.id⟩] by unfold stps; rw [List.take_add_one, hp, List.map_append]; rfl)
    clear hp
    obtain ⟨t, ⟨ai, ag, at_, ak, ab⟩⟩ := pp
    have HC0 := h! (fun (W : World) (hb : Below w3.heap.size w3 W) => show W.cell? ⟨bl, o + k * 6, none⟩ = some (.int .i64 t) ∧ W.cell? ⟨bl, o + k * 6 + 1, none⟩ = some (.int .i64 ai) from ⟨(hb.cell (p := ⟨bl, o + k * 6, none⟩) hbl).trans (hcc 0 _ rfl), (hb.cell (p := ⟨bl, o + k * 6 + 1, none⟩) hbl).trans (hcc 1 _ rfl)⟩)
    have hk0 : (0 : Int) ≤ (k : Int) := by omega
    have hkn : (k : Int) < (n' : Int) := by omega
    clear hcc
    simp only at HNX
    go_upto_region 9 with (fail)
    have bb1 : Below wr.heap.size wr wr.drew := (Below.refl _ _).drew
    obtain ⟨ue, hue⟩ : ∃ ue, ue = wr.drew := ⟨_, rfl⟩
    refine wp_region_held_drew (S := fun w' => w'.cell? ⟨bl, o + k * 6, none⟩ = some (.int .i64 t) ∧ w'.cell? ⟨bl, o + k * 6 + 1, none⟩ = some (.int .i64 ai)) (by kernel_rfl) (HC0.out _ (bmore HT.out.bl bb1 n!)) (fun hHeld => ?_)
    rw [← hue] at bb1 hHeld ⊢
    clear hue
    refine qT 0 ?_; try simp only [Act.put, qq]
    refine qT 1 ?_; try simp only [Act.put, qq]
    refine qT 2 ?_; try simp only [Act.put, qq]
    refine qT 3 ?_; try simp only [Act.put, qq]
    refine qT 4 ?_; try simp only [Act.put, qq]
    refine qT 5 ?_; try simp only [Act.put, qq]
    refine qT 6 ?_; try simp only [Act.put, qq]
    refine qT 7 ?_; try simp only [Act.put, qq]
    refine qT 8 ?_; try simp only [Act.put, qq]
    refine qT 9 ?_; try simp only [Act.put, qq]
    refine qT 10 ?_; try simp only [Act.put, qq]
    refine qT 11 ?_; try simp only [Act.put, qq]
    refine qT 12 ?_; try simp only [Act.put, qq]
    refine qR 13 fun K hK => ?_
    go_simp
    have X7 := h! (Box.new ue 46 #[.int .i64 t, .int .i64 ai])
    have bb7 : Below wr.heap.size wr (ue.alloc (.cells #[.int .i64 t, .int .i64 ai] 46)) := bmore bb1 ((Below.refl _ _).alloc n! _) n!
    refine hK.out _ _ (HC0.out _ (bmore HT.out.bl bb7 n!)) (fun hHeld => ?_)
    clear hK
    try simp only [Act.put, qq]
    generalize ue.alloc (.cells #[.int .i64 t, .int .i64 ai] 46) = w7 at X7 bb7 hHeld ⊢
    obtain ⟨p7, hp7⟩ : ∃ p7, ue.heap.size = p7 := ⟨_, rfl⟩
    rw [hp7] at X7
    simp only [hp7]
    clear hp7
    have HR2 := h! (rdG_box (s := 2) (n := 1) X7.out (xs := spc ⟨t, ai⟩) rfl rfl)
    have HT5 := h! (HT.out.below bb7)
    obtain ⟨A9, c9, rfl, hc9, hm9⟩ := own_form HT5.out.ow
    refine qR 14 fun K hK => ?_
    refine step_append_h rfl (.tmp 25) (.tmp 38) 22 rfl w3.heap.size 46 j0 _ 2 16 Tryz.underlying22 hj hy0 hy1 hy2 rfl (by omega) (.slice A9 k c9) k _ (by simp [Act.eval, Act.put]) HT5.out.ow (some ⟨p7, 0, none⟩) 1 1 (spc ⟨t, ai⟩) (by simp [Act.eval, Act.put]) HR2.out (spc_one _) (by unfold maxLen; omega) (by omega) HT5.out.bl.size ?_
    intro v9 w9 o9 g9 _
    have hb9 : Below w3.heap.size w3 w9 := below_row HT5.out.bl HT5.out.ow HT5.out.bl.size g9
    have NX := h! (show LcR w3 T (k + 1) v9 w9 from ⟨hb9, by rw [HNX.out, flat_append, flat_one]; exact o9⟩)
    refine hK.out _ _ (HC0.out _ hb9) (fun hHeld => ?_)
    clear hK
    try simp only [Act.put, qq]
    clear o9 g9 hb9
    refine qT 15 ?_; try simp only [Act.put, qq]
    refine wpAnyH_done (by kernel_rfl) ?_ _
    clear hHeld
    go_wp2_with fail
    go_roundw
    case rel => exact ⟨k + 1, by omega, by go_num, NX⟩
    case measure => simp [intOf]; omega
   ·obtain rfl : n' = k := by omega
    have HE := h! (show wr.ownsRow w.heap.size 46 2 u7 T.length (flat spc (stps T)) from by have h1 := own_base HT.out.ow HB3.out.size; rw [List.take_of_length_le (by have := HN.out; omega), HN.out] at h1; exact h1)
    go_wp2_with fail
    go_ret2
    exact ⟨_, rfl, by rw [HF.out]; unfold stps; rw [List.length_map]; exact HE.out, bmore HB3.out HT.out.bl n!⟩
 ·have hk : (r == 0) = false := by simpa using h0
  have HF := h! (show R = [] by rw [HR.out, if_neg h0])
  go_wp2_with fail
  go_ret2
  exact ⟨_, rfl, by rw [HF.out]; exact World.ownsRow_nil _ _ _ _, HB2.out⟩
end KP
end Go.Proofs.YteebeiaokfenmaaGreat
