/- Contracts of functions, L42: each as its theorem says. -/
import Derived.Test.YteebeiaokfenmaaGreatL41
set_option linter.unusedVariables false
set_option linter.unusedSimpArgs false
set_option maxRecDepth 100000
set_option maxHeartbeats 16000000
namespace Go.Proofs.YteebeiaokfenmaaGreat
namespace KP
open Go.RowKit CP TP LP SP
open CM (Mg Cm)
open TM (Sp)
open KM (Wt Sk)
def gvL (L : List (List Cm)) : Nat → List (Int × Mg)
 | 0 => []
 | k + 1 => gvL L k ++ OM.tg L (k : Int)
theorem gvL_mem {L : List (List Cm)} {p : Int × Mg} : ∀ {k : Nat}, p ∈ gvL L k ↔ ∃ g : Nat, g < k ∧ p ∈ OM.tg L (g : Int)
 | 0 => by simp [gvL]
 | k + 1 => by
  rw [gvL, List.mem_append, gvL_mem]
  constructor
  ·rintro (⟨g, h1, h2⟩ | h)
   ·exact ⟨g, by omega, h2⟩
   ·exact ⟨k, by omega, h⟩
  ·rintro ⟨g, h1, h2⟩
   by_cases hg : g = k
   ·subst hg; exact .inr h2
   ·exact .inl ⟨g, by omega, h2⟩
def okG (G : List (Int × Mg)) (i k : Nat) : Prop := ∀ p q, G[i]? = some p → G[k]? = some q → p.2.id = q.2.id → p.2 = q.2
theorem one_gvL {L : List (List Cm)} : OM.one1 L ↔ ∀ i k, k < i → i < (gvL L L.length).length → okG (gvL L L.length) i k := by
 constructor
 ·intro h i k _ _ p q hp hq he
  obtain ⟨g, g1, g2⟩ := gvL_mem.1 (List.mem_of_getElem? hp)
  obtain ⟨g', g3, g4⟩ := gvL_mem.1 (List.mem_of_getElem? hq)
  exact h g g' g1 g3 p g2 q g4 he
 ·intro h g g' hg hg' p hp q hq he
  obtain ⟨i, hi⟩ := List.getElem?_of_mem (gvL_mem.2 ⟨g, hg, hp⟩)
  obtain ⟨k, hk⟩ := List.getElem?_of_mem (gvL_mem.2 ⟨g', hg', hq⟩)
  rcases Nat.lt_trichotomy i k with c | c | c
  ·exact (h k i c (List.getElem?_eq_some_iff.1 hk).1 q p hk hi he.symm).symm
  ·subst c
   rw [hi] at hk
   injection hk with hk
   rw [hk]
  ·exact h i k c (List.getElem?_eq_some_iff.1 hi).1 p q hi hk he
theorem gvL_len {L : List (List Cm)} (h : ∀ g : Nat, (OM.tg L (g : Int)).length ≤ 200) : ∀ k, (gvL L k).length ≤ 200 * k
 | 0 => by simp [gvL]
 | k + 1 => by
  rw [gvL, List.length_append]
  have h1 := gvL_len h k
  have h2 := h k
  omega
theorem tg_few {L : List (List Cm)} (h : ∀ l ∈ L, l.length ≤ 200) (g : Nat) : (OM.tg L (g : Int)).length ≤ 200 := by
 unfold OM.tg
 refine Nat.le_trans times_few16 ?_
 unfold OM.lg
 rw [if_pos (by omega), List.getD_eq_getElem?_getD]
 rcases hl : L[(g : Int).toNat]? with _ | l
 ·simp
 ·exact h l (List.mem_of_getElem? hl)
structure OnR (L : List (List Cm)) (w : World) (k : Nat) (u : Value) (wr : World) : Prop where
 bl : Below w.heap.size w wr
 ko : KO KGv wr w.heap.size 104 u (gvL L k)
theorem one16_any (A : Option Addr) (n c : Nat) (ls : List (List ByteArray)) (w : World) (h : LogsIs w A n c ls) (hs : ∀ l ∈ ls, ∀ t ∈ l, t.size ≤ maxLen) (h0 : allE ls = 0) :
  Calls Tryz.prog 79 #[.slice A n c] w fun e w' => ∃ b : Bool, e = .returned (.bool b) ∧ (b = true ↔ OM.one1 (cmL ls)) ∧ Below w.heap.size w w' := by
 have hln : ls.length = n := by obtain ⟨_, _, _, h1, _⟩ := h; exact h1
 have hn63 : n ≤ 9223372036854775807 := by
  obtain ⟨_, _, _, _, h1, h2⟩ := h
  unfold maxLen at h2
  omega
 obtain ⟨j0, hj, hy0, hy1, hy2⟩ := info_parts info_given
 obtain ⟨hL, h4, hck⟩ := allE_zero h0
 have HCK := h! hck
 have HLN := h! hln
 have HTG := h! (fun (g : Nat) l (hl : ls[g]? = some l) => show OM.tg (cmL ls) (g : Int) = (OM.play (g : Int) (LM.cmds l)).2.2 by
  unfold OM.tg
  rw [OM.lg_at (l := LM.cmds l) (by unfold cmL; rw [List.getElem?_map, hl]; rfl)])
 have HFW := h! (tg_few (cmL_few h0))
 have HCL := h! (cmL_len ls)
 obtain ⟨L, hLe⟩ : ∃ L, L = cmL ls := ⟨_, rfl⟩
 rw [← hLe] at HTG HFW HCL ⊢
 have hn4 : n ≤ 4 := by omega
 have H := h! (fun W (hb : Below w.heap.size w W) => h.below hb)
 have HS := h! hs
 have HT0 := h! (show OnR L w 0 (.slice none 0 0) w from ⟨Below.refl _ _, kO_nil KGv _ _ _⟩)
 clear h hs h0 hln hL h4 hck hLe
 go_enter Tryz.func79, Tryz.ntmps79
 go_wp2_with fail
 go_loopw [3, 4] (fun u i wr => ∃ k : Nat, k ≤ n ∧ i = .int .i64 k ∧ Hid (OnR L w k u wr)) (fun _ i _ => n - (intOf i).toNat)
 case atStart => exact ⟨0, by omega, rfl, HT0⟩
 case round =>
  clear HT0
  obtain ⟨k, hk, rfl, HT⟩ := hrel
  by_cases hlt : k < n
  ·obtain ⟨l, hl⟩ : ∃ l, ls[k]? = some l := ⟨_, List.getElem?_eq_getElem (by have := HLN.out; omega)⟩
   obtain ⟨al, B, d, rfl, _, q1, q2, q3, q4⟩ := logs_get (H.out _ HT.out.bl) hl
   have hmem := List.mem_of_getElem? hl
   obtain ⟨T, hT⟩ : ∃ T, T = OM.tg L k := ⟨_, rfl⟩
   have KT := h! (show Calls Tryz.prog 47 #[.int .i64 k, .slice B l.length d] wr (fun e w' => ∃ v, e = .returned v ∧ KO KGv w' wr.heap.size 104 v T ∧ Below wr.heap.size wr w') from by
    have := times16_any k B l.length d l wr ⟨q2, q3, q4, HS.out l hmem⟩ (by omega) (HCK.out l hmem)
    rwa [← HTG.out k l hl, ← hT] at this)
   have hT200 : T.length ≤ 200 := by rw [hT]; exact HFW.out k
   have hG800 := gvL_len HFW.out k
   have HNX := h! (show gvL L (k + 1) = gvL L k ++ T by rw [hT]; rfl)
   have hk0 : (0 : Int) ≤ (k : Int) := by omega
   have hkn : (k : Int) < (n : Int) := by omega
   obtain ⟨C9, e9, rfl, hkg9⟩ := HT.out.ko.g
   obtain ⟨ng, hng⟩ : ∃ ng, ng = (gvL L k).length := ⟨_, rfl⟩
   rw [← hng] at hG800 HT ⊢
   clear hl hT hmem q2 q3 q4 hkg9 hng
   go_wp2_with fail
   clear q1
   refine (KT.out).mono ?_
   rintro e w2 ⟨v, rfl, hko, hb⟩
   obtain ⟨A', c', rfl, hkg⟩ := hko.g
   obtain ⟨nt, hnt⟩ : ∃ nt, nt = T.length := ⟨_, rfl⟩
   rw [← hnt] at hko hT200
   try rw [← hnt]
   have HKO := h! hko
   have HB2 := h! (bmore HT.out.bl hb n!)
   have HKG := h! (HT.out.ko.below hb)
   have HOB := h! (show ∀ g, (Value.slice C9 ng e9).ownBlock = some g → g < wr.heap.size from fun g hg => by
    obtain ⟨es, _, ho, _⟩ := HT.out.ko
    obtain ⟨_, cur, hx⟩ := own_block ho hg
    exact hx.lt)
   have HSZ := h! (HT.out.bl.size)
   clear hko hb hkg hnt KT
   go_wp2_with (at_builtin; refine wpList_append_kos (K := KGv) rfl _ _ 101 rfl j0 _ 80 Tryz.underlying101 hj hy0 hy1 hy2 rfl rfl HKG.out rfl HKO.out HSZ.out (Below.refl _ _) (fun g hg => .inl (HOB.out g hg)) (by unfold maxLen; omega) (by omega) HB2.out.size ?_; intro A8 c8 w3 hko hgr hob; have NX := h! (show OnR L w (k + 1) (.slice A8 (ng + nt) c8) w3 from ⟨HB2.out.grown hgr HB2.out.size (fun g hg => by obtain ⟨es, _, ho, _⟩ := HKG.out; exact (own_block ho hg).1), by rw [HNX.out]; exact hko⟩); clear hko hgr hob)
   go_roundw
   case rel => exact ⟨k + 1, by omega, by go_num, NX⟩
   case measure => simp [intOf]; omega
  ·obtain rfl : n = k := by omega
   obtain ⟨G, hG⟩ : ∃ G, G = gvL L n := ⟨_, rfl⟩
   have HON := h! (show OM.one1 L ↔ ∀ i k, k < i → i < G.length → okG G i k by
    rw [hG, show n = L.length by rw [HCL.out, HLN.out]]
    exact one_gvL)
   have hG800 := gvL_len HFW.out n
   have hko := HT.out.ko
   rw [← hG] at hko hG800
   obtain ⟨C9, e9, rfl, hkg⟩ := hko.g
   obtain ⟨ng, hng⟩ : ∃ ng, ng = G.length := ⟨_, rfl⟩
   rw [← hng] at hkg hG800 HON ⊢
   have HKG := h! hkg
   have HNG := h! hng
   have HBW := h! HT.out.bl
   have hng63 : ng ≤ 9223372036854775807 := by omega
   clear hko hkg hng hG HT
   obtain ⟨w9, hw9⟩ : ∃ w9, w9 = wr := ⟨_, rfl⟩
   subst hw9
   have HR0 := h! (Below.refl w9.heap.size w9)
   have HO0 := h! (show ∀ i' k', k' < i' → i' < 0 → okG G i' k' from fun i' k' _ h => absurd h (by omega))
   go_wp2_with fail
   go_loopw [5] (fun i wq => ∃ a : Nat, a ≤ ng ∧ i = .int .i64 a ∧ Hid (Below w9.heap.size w9 wq) ∧ Hid (∀ i' k', k' < i' → i' < a → okG G i' k')) (fun i _ => ng - (intOf i).toNat)
   case atStart => exact ⟨0, by omega, rfl, HR0, HO0⟩
   case round =>
    clear HR0 HO0
    obtain ⟨a, ha, rfl, HA, HO⟩ := hrel
    by_cases hlt2 : a < ng
    ·have HO1 := h! (show ∀ k', k' < 0 → okG G a k' from fun k' h => absurd h (by omega))
     have ha0 : (0 : Int) ≤ (a : Int) := by omega
     have han : (a : Int) < (ng : Int) := by omega
     obtain ⟨p, hp⟩ : ∃ p, G[a]? = some p := ⟨_, List.getElem?_eq_getElem (by have := HNG.out; omega)⟩
     have HP := h! hp
     clear hp
     go_wp2_with fail
     go_loopw [6] (fun i wq => ∃ b : Nat, b ≤ a ∧ i = .int .i64 b ∧ Hid (Below w9.heap.size w9 wq) ∧ Hid (∀ k', k' < b → okG G a k')) (fun i _ => a - (intOf i).toNat)
     case atStart => exact ⟨0, by omega, rfl, HA, HO1⟩
     case round =>
      clear HA HO1
      obtain ⟨b, hb, rfl, HA, HO1⟩ := hrel
      by_cases hlt3 : b < a
      ·obtain ⟨q, hq⟩ : ∃ q, G[b]? = some q := ⟨_, List.getElem?_eq_getElem (by have := HNG.out; omega)⟩
       obtain ⟨bl, o, P8, d8, rfl, _, hbl, hcc, hrw⟩ := HKG.out.at_ HP.out
       obtain ⟨bl2, o2, P9, d9, e2, _, _, hcc2, hrw2⟩ := HKG.out.at_ hq
       injection e2 with e2
       injection e2 with e3 e4
       subst e3 e4
       have hb0 : (0 : Int) ≤ (b : Int) := by omega
       have hbn : (b : Int) < (ng : Int) := by omega
       have hba : (b : Int) < (a : Int) := by omega
       have HOK := h! (fun (k : p.2.id = q.2.id → p.2 = q.2) => show ∀ k', k' < b + 1 → okG G a k' from fun k' hk' => by
        by_cases e : k' = b
        ·subst e
         intro p' q' hp' hq' he
         rw [HP.out] at hp'
         rw [hq] at hq'
         injection hp' with hp'
         injection hq' with hq'
         subst hp' hq'
         exact k he
        ·exact HO1.out k' (by omega))
       have HNO := h! (fun (k1 : p.2.id = q.2.id) (k2 : p.2 ≠ q.2) => show ¬ OM.one1 L from fun hh => k2 (HON.out.1 hh a b hlt3 hlt2 p q HP.out hq k1))
       have hm1 : MgIs w9 (.agg (mcells P8 d8 p.2)) p.2 := ⟨P8, d8, rfl, hrw.1⟩
       have hm2 : MgIs w9 (.agg (mcells P9 d9 q.2)) q.2 := ⟨P9, d9, rfl, hrw2.1⟩
       have KS := h! (fun W (hb : Below wr.heap.size wr W) => sameMessage_any p.2 q.2 _ _ W (hm1.below (bmore HA.out hb n!)) (hm2.below (bmore HA.out hb n!)))
       have HCC := h! (fun (W : World) (hb : Below wr.heap.size wr W) i u (hu : (KGv.cel P8 d8 p)[i]? = some u) => show W.cell? ⟨bl, o + a * 6 + i, none⟩ = some u from ((bmore HA.out hb n!).cell (p := ⟨bl, o + a * 6 + i, none⟩) hbl).trans (hcc i u hu))
       have HCD := h! (fun (W : World) (hb : Below wr.heap.size wr W) i u (hu : (KGv.cel P9 d9 q)[i]? = some u) => show W.cell? ⟨bl, o + b * 6 + i, none⟩ = some u from ((bmore HA.out hb n!).cell (p := ⟨bl, o + b * 6 + i, none⟩) hbl).trans (hcc2 i u hu))
       clear hq hcc hcc2 hrw hrw2 hm1 hm2
       obtain ⟨r, hr⟩ : ∃ r, r = decide (p.2 = q.2) := ⟨_, rfl⟩
       rw [← hr] at KS
       have HRR := h! hr
       clear hr HP
       obtain ⟨pt, pi, pg, pp, pk, pb⟩ := p
       obtain ⟨qt, qi, qg, qp, qk, qb⟩ := q
       unfold mcells at KS
       simp only at KS HOK HNO HRR
       have bb1 : Below wr.heap.size wr wr.drew := (Below.refl _ _).drew
       obtain ⟨ud, hud⟩ : ∃ ud, ud = wr.drew := ⟨_, rfl⟩
       by_cases hid : pi = qi
       ·have hib : (pi == qi) = true := by simpa using hid
        have HIE := h! hid
        clear hid
        have HSS := h! (fun (W : World) (hb : Below wr.heap.size wr W) => show W.cell? ⟨bl, o + a * 6 + 1, none⟩ = some (.int .i64 pi) ∧ W.cell? ⟨bl, o + a * 6 + 1 + 1, none⟩ = some (.slice P8 pg.length d8) ∧ W.cell? ⟨bl, o + a * 6 + 1 + 2, none⟩ = some (.int .i64 pp) ∧ W.cell? ⟨bl, o + a * 6 + 1 + 3, none⟩ = some (.string pk) ∧ W.cell? ⟨bl, o + a * 6 + 1 + 4, none⟩ = some (.string pb) ∧
         W.cell? ⟨bl, o + b * 6 + 1, none⟩ = some (.int .i64 qi) ∧ W.cell? ⟨bl, o + b * 6 + 1 + 1, none⟩ = some (.slice P9 qg.length d9) ∧ W.cell? ⟨bl, o + b * 6 + 1 + 2, none⟩ = some (.int .i64 qp) ∧ W.cell? ⟨bl, o + b * 6 + 1 + 3, none⟩ = some (.string qk) ∧ W.cell? ⟨bl, o + b * 6 + 1 + 4, none⟩ = some (.string qb) from
         ⟨HCC.out W hb 1 _ rfl, HCC.out W hb 2 _ rfl, HCC.out W hb 3 _ rfl, HCC.out W hb 4 _ rfl, HCC.out W hb 5 _ rfl, HCD.out W hb 1 _ rfl, HCD.out W hb 2 _ rfl, HCD.out W hb 3 _ rfl, HCD.out W hb 4 _ rfl, HCD.out W hb 5 _ rfl⟩)
        go_upto_region 12 with (fail)
        refine wp_region_held_drew (S := fun W => W.cell? ⟨bl, o + a * 6 + 1, none⟩ = some (.int .i64 pi) ∧ W.cell? ⟨bl, o + a * 6 + 1 + 1, none⟩ = some (.slice P8 pg.length d8) ∧ W.cell? ⟨bl, o + a * 6 + 1 + 2, none⟩ = some (.int .i64 pp) ∧ W.cell? ⟨bl, o + a * 6 + 1 + 3, none⟩ = some (.string pk) ∧ W.cell? ⟨bl, o + a * 6 + 1 + 4, none⟩ = some (.string pb) ∧
         W.cell? ⟨bl, o + b * 6 + 1, none⟩ = some (.int .i64 qi) ∧ W.cell? ⟨bl, o + b * 6 + 1 + 1, none⟩ = some (.slice P9 qg.length d9) ∧ W.cell? ⟨bl, o + b * 6 + 1 + 2, none⟩ = some (.int .i64 qp) ∧ W.cell? ⟨bl, o + b * 6 + 1 + 3, none⟩ = some (.string qk) ∧ W.cell? ⟨bl, o + b * 6 + 1 + 4, none⟩ = some (.string qb)) (by kernel_rfl) (HSS.out _ bb1) (fun hHeld => ?_)
        rw [← hud] at bb1 hHeld ⊢
        clear hud
        refine qT 0 ?_; try simp only [Act.put, qq]
        refine qT 1 ?_; try simp only [Act.put, qq]
        refine qT 2 ?_; try simp only [Act.put, qq]
        refine qT 3 ?_; try simp only [Act.put, qq]
        refine qT 4 ?_; try simp only [Act.put, qq]
        refine qT 5 ?_; try simp only [Act.put, qq]
        refine qT 6 ?_; try simp only [Act.put, qq]
        refine qT 7 ?_; try simp only [Act.put, qq]
        refine qT 8 ?_; try simp only [Act.put, qq]
        refine qT 9 ?_; try simp only [Act.put, qq]
        refine qT 10 ?_; try simp only [Act.put, qq]
        refine qT 11 ?_; try simp only [Act.put, qq]
        refine qT 12 ?_; try simp only [Act.put, qq]
        refine qT 13 ?_; try simp only [Act.put, qq]
        refine qT 14 ?_; try simp only [Act.put, qq]
        refine qT 15 ?_; try simp only [Act.put, qq]
        refine qT 16 ?_; try simp only [Act.put, qq]
        refine qT 17 ?_; try simp only [Act.put, qq]
        refine qT 18 ?_; try simp only [Act.put, qq]
        refine qT 19 ?_; try simp only [Act.put, qq]
        refine qT 20 ?_; try simp only [Act.put, qq]
        refine qT 21 ?_; try simp only [Act.put, qq]
        refine qT 22 ?_; try simp only [Act.put, qq]
        refine qT 23 ?_; try simp only [Act.put, qq]
        refine qR 24 fun K hK => ?_
        go_simp
        refine (KS.out _ bb1).mono ?_
        rintro e w5 ⟨rfl, hb⟩
        have hb2 := bmore bb1 hb n!
        refine hK.out _ _ (HSS.out _ hb2) (fun hHeld => ?_)
        clear hK
        try simp only [Act.put, qq]
        refine qT 25 ?_; try simp only [Act.put, qq]
        refine qT 26 ?_; try simp only [Act.put, qq]
        refine wpAnyH_done (by kernel_rfl) ?_ _
        clear hHeld
        have HN := h! (bmore HA.out hb2 n!)
        clear hb2 hb bb1 HSS KS HCC HCD
        rcases r with _ | _
        ·have NX := h! (HNO.out HIE.out (of_decide_eq_false HRR.out.symm))
         have HBF := h! (bmore HBW.out HN.out n!)
         go_wp2_with fail
         go_ret
         exact .inl ⟨rfl, NX.out, HBF.out⟩
        ·have NX := h! (HOK.out (fun _ => of_decide_eq_true HRR.out.symm))
         go_wp2_with fail
         go_roundw
         case rel => exact ⟨b + 1, by omega, by go_num, HN, NX⟩
         case measure => simp [intOf]; omega
       ·have hib : (pi == qi) = false := by simpa using hid
        have HIE := h! hid
        clear hid
        have HSS := h! (fun (W : World) (hb : Below wr.heap.size wr W) => show W.cell? ⟨bl, o + a * 6 + 1, none⟩ = some (.int .i64 pi) ∧ W.cell? ⟨bl, o + b * 6 + 1, none⟩ = some (.int .i64 qi) from
         ⟨HCC.out W hb 1 _ rfl, HCD.out W hb 1 _ rfl⟩)
        go_upto_region 12 with (fail)
        refine wp_region_held_drew (S := fun W => W.cell? ⟨bl, o + a * 6 + 1, none⟩ = some (.int .i64 pi) ∧ W.cell? ⟨bl, o + b * 6 + 1, none⟩ = some (.int .i64 qi)) (by kernel_rfl) (HSS.out _ bb1) (fun hHeld => ?_)
        rw [← hud] at bb1 hHeld ⊢
        clear hud
        refine qT 0 ?_; try simp only [Act.put, qq]
        refine qT 1 ?_; try simp only [Act.put, qq]
        refine qT 2 ?_; try simp only [Act.put, qq]
        refine qT 3 ?_; try simp only [Act.put, qq]
        refine qT 4 ?_; try simp only [Act.put, qq]
        refine qT 5 ?_; try simp only [Act.put, qq]
        refine qT 6 ?_; try simp only [Act.put, qq]
        refine qT 7 ?_; try simp only [Act.put, qq]
        refine qT 8 ?_; try simp only [Act.put, qq]
        refine qT 9 ?_; try simp only [Act.put, qq]
        refine qT 10 ?_; try simp only [Act.put, qq]
        refine qT 11 ?_; try simp only [Act.put, qq]
        refine qT 12 ?_; try simp only [Act.put, qq]
        refine qT 13 ?_; try simp only [Act.put, qq]
        refine qS 14 ?_; try simp only [Act.put, qq]
        refine qS 15 ?_; try simp only [Act.put, qq]
        refine qS 16 ?_; try simp only [Act.put, qq]
        refine qS 17 ?_; try simp only [Act.put, qq]
        refine qS 18 ?_; try simp only [Act.put, qq]
        refine qS 19 ?_; try simp only [Act.put, qq]
        refine qS 20 ?_; try simp only [Act.put, qq]
        refine qS 21 ?_; try simp only [Act.put, qq]
        refine qS 22 ?_; try simp only [Act.put, qq]
        refine qS 23 ?_; try simp only [Act.put, qq]
        refine qS 24 ?_; try simp only [Act.put, qq]
        refine qS 25 ?_; try simp only [Act.put, qq]
        refine qT 26 ?_; try simp only [Act.put, qq]
        refine wpAnyH_done (by kernel_rfl) ?_ _
        clear hHeld
        have HN := h! (bmore HA.out bb1 n!)
        have NX := h! (HOK.out (fun k => absurd k HIE.out))
        clear bb1 HSS KS HCC HCD
        go_wp2_with fail
        go_roundw
        case rel => exact ⟨b + 1, by omega, by go_num, HN, NX⟩
        case measure => simp [intOf]; omega
      ·obtain rfl : b = a := by omega
       have NX := h! (show ∀ i' k', k' < i' → i' < b + 1 → okG G i' k' from fun i' k' h1 h2 => by
        by_cases e : i' = b
        ·subst e; exact HO1.out k' h1
        ·exact HO.out i' k' h1 (by omega))
       go_wp2_with fail
       go_roundw
       case rel => exact ⟨b + 1, by omega, by go_num, HA, NX⟩
       case measure => simp [intOf]; omega
    ·obtain rfl : a = ng := by omega
     have NX := h! (HON.out.2 HO.out)
     have HBF := h! (bmore HBW.out HA.out n!)
     go_wp2_with fail
     go_ret
     exact ⟨true, rfl, ⟨fun _ => NX.out, fun _ => rfl⟩, HBF.out⟩
theorem all16_any (A : Option Addr) (n c : Nat) (ls : List (List ByteArray)) (w : World) (h : LogsIs w A n c ls) (hs : ∀ l ∈ ls, ∀ t ∈ l, t.size ≤ maxLen) : Calls Tryz.prog 49 #[.slice A n c] w (NumIs (allE ls) w) := by
 have hln : ls.length = n := by obtain ⟨_, _, _, h1, _⟩ := h; exact h1
 have hn63 : n ≤ 9223372036854775807 := by
  obtain ⟨_, _, _, _, h1, h2⟩ := h
  unfold maxLen at h2
  omega
 by_cases h4 : 4 < n
 ·have hr : allE ls = 4 := by unfold allE; rw [if_pos (by omega)]
  rw [hr]
  clear h hr hln
  go_enter Tryz.func49, Tryz.ntmps49
  go_wp2_with fail
  go_ret
  exact ⟨rfl, Below.refl _ _⟩
 have hr : allE ls = firstE ls := by unfold allE; rw [if_neg (by omega)]
 rw [hr]
 obtain ⟨r, hrr⟩ : ∃ r, r = firstE ls := ⟨_, rfl⟩
 rw [← hrr]
 have HR := h! (show firstE (ls.drop 0) = r by rw [List.drop_zero, hrr])
 have HB0 := h! (Below.refl w.heap.size w)
 have H := h! h
 have HS := h! hs
 have HLN := h! hln
 clear h hs hr hrr hln
 go_enter Tryz.func49, Tryz.ntmps49
 go_wp2_with fail
 go_loopw [3] (fun i wr => ∃ k : Nat, k ≤ n ∧ i = .int .i64 k ∧ Hid (Below w.heap.size w wr) ∧ Hid (firstE (ls.drop k) = r)) (fun i _ => n - (intOf i).toNat)
 case atStart => exact ⟨0, by omega, rfl, HB0, HR⟩
 case round =>
  clear HB0 HR
  obtain ⟨k, hk, rfl, HB, HR⟩ := hrel
  by_cases hlt : k < n
  ·obtain ⟨l, hl⟩ : ∃ l, ls[k]? = some l := ⟨_, List.getElem?_eq_getElem (by have := HLN.out; omega)⟩
   obtain ⟨ad, B, d, rfl, _, q1, q2, q3, q4⟩ := logs_get (H.out.below HB.out) hl
   have KC := h! (check13_any B l.length d l wr ⟨q2, q3, q4, HS.out l (List.mem_of_getElem? hl)⟩)
   have HFS := h! (show (if LM.chk l = 0 then firstE (ls.drop (k + 1)) else LM.chk l) = r by rw [← firstE_step hl]; exact HR.out)
   obtain ⟨y, hy⟩ : ∃ y, y = LM.chk l := ⟨_, rfl⟩
   rw [← hy] at KC HFS
   clear hl hy q2 q3 q4 HR
   have hk0 : (0 : Int) ≤ (k : Int) := by omega
   have hkn : (k : Int) < (n : Int) := by omega
   go_wp2_with fail
   clear q1
   refine (KC.out).mono ?_
   rintro e w2 ⟨rfl, hb⟩
   have HB2 := h! (bmore HB.out hb n!)
   clear hb KC
   by_cases hy0 : y = 0
   ·subst hy0
    have NX := h! (show firstE (ls.drop (k + 1)) = r by have := HFS.out; rwa [if_pos rfl] at this)
    go_wp2_with fail
    go_roundw
    case rel => exact ⟨k + 1, by omega, by go_num, HB2, NX⟩
    case measure => simp [intOf]; omega
   ·have hyb : (y == 0) = false := by simpa using hy0
    have NX := h! (show y = r by have := HFS.out; rwa [if_neg hy0] at this)
    go_wp2_with fail
    go_ret
    exact ⟨by rw [NX.out]; rfl, HB2.out⟩
  ·have HF := h! (show r = 0 by
    have h1 := HR.out
    rw [List.drop_of_length_le (by have := HLN.out; omega)] at h1
    exact h1.symm)
   go_wp2_with fail
   go_ret
   exact ⟨by rw [HF.out]; rfl, HB.out⟩
theorem rfinal16_any (A : Option Addr) (n c : Nat) (ls : List (List ByteArray)) (vm : Value) (m : Mg) (w : World) (h : LogsIs w A n c ls) (hs : ∀ l ∈ ls, ∀ t ∈ l, t.size ≤ maxLen) (hm : MgIs w vm m) (hf : MgFit m) :
  Calls Tryz.prog 25 #[.slice A n c, vm] w (F3Q (finR ls m) w) := by
 have KA := h! (fun W (hb : Below w.heap.size w W) => all16_any A n c ls W (h.below hb) hs)
 have KM := h! (fun W (hb : Below w.heap.size w W) => mayMessage_any m vm W (hm.below hb) hf)
 have KL := h! (fun (h0 : allE ls = 0) (hok : CM.mgOk m) W (hb : Below w.heap.size w W) => last16_any A n c ls vm m W (h.below hb) hs h0 (hm.below hb) (fun x hx => ((OM.mg_groups hok).2 x hx).1))
 obtain ⟨R, hR⟩ : ∃ R, R = finR ls m := ⟨_, rfl⟩
 rw [← hR]
 have HR := h! hR
 unfold finR at HR
 obtain ⟨r, hr⟩ : ∃ r, r = allE ls := ⟨_, rfl⟩
 rw [← hr] at KA KL HR
 obtain ⟨F, hF⟩ : ∃ F, F = OM.lastF (cmL ls) m := ⟨_, rfl⟩
 rw [← hF] at KL HR
 obtain ⟨bo, hbo⟩ : ∃ bo, bo = decide (CM.mgOk m) := ⟨_, rfl⟩
 rw [← hbo] at KM
 have HBO := h! hbo
 obtain ⟨mm, hmm⟩ : ∃ mm, mm = m := ⟨_, rfl⟩
 obtain ⟨A1, c1, rfl, _⟩ := hm
 rw [← hmm] at HBO HR
 have KL2 := h! (fun (h0 : r = 0) (hok : CM.mgOk mm) => KL.out h0 (by rw [← hmm]; exact hok))
 clear h hs hR hr hF hbo hf hmm KL
 obtain ⟨ai, ag, at_, ak, ab⟩ := m
 unfold mcells at KM KL2 ⊢
 simp only at KM KL2 ⊢
 obtain ⟨p3, hp3⟩ : ∃ p3, w.heap.size = p3 := ⟨_, rfl⟩
 have HB := h! (show Below w.heap.size w (w.alloc (.cells #[.int .i64 ai, .slice A1 ag.length c1, .int .i64 at_, .string ak, .string ab] 33)) from (Below.refl _ _).alloc n! _)
 have X := h! (Box.new_at (w := w) (t := 33) (cs := #[.int .i64 ai, .slice A1 ag.length c1, .int .i64 at_, .string ak, .string ab]) p3 hp3)
 go_enter Tryz.func25, Tryz.ntmps25
 go_upto_region 1 with (fail)
 generalize w.alloc (.cells #[.int .i64 ai, .slice A1 ag.length c1, .int .i64 at_, .string ak, .string ab] 33) = w1 at HB X ⊢
 try simp only [hp3]
 clear hp3
 go_wp2_with fail
 refine (KA.out _ HB.out).mono ?_
 rintro e w2 ⟨rfl, hb⟩
 have HB2 := h! (bmore HB.out hb n!)
 have X2 := h! (X.out.below hb X.out.lt)
 clear hb KA
 by_cases h0 : r = 0
 rotate_left
 ·have hk : (r == 0) = false := by simpa using h0
  have HF := h! (show R = (0, false, r) by rw [HR.out, if_pos h0])
  go_wp2_with fail
  go_ret3
  exact f3q HF.out HB2.out
 subst h0
 obtain ⟨x0, x1, x2, x3, x4⟩ := box_mg X2.out
 go_wp2_with fail
 refine (KM.out _ HB2.out).mono ?_
 rintro e w3 ⟨rfl, hb⟩
 have HB3 := h! (bmore HB2.out hb n!)
 have X3 := h! (X2.out.below hb X2.out.lt)
 clear hb KM x0 x1 x2 x3 x4
 rcases bo with _ | _
 ·have HF := h! (show R = (0, false, 8) by rw [HR.out, if_neg (fun k => k rfl), if_neg (of_decide_eq_false HBO.out.symm)])
  go_wp2_with fail
  go_ret3
  exact f3q HF.out HB3.out
 ·have hok := of_decide_eq_true HBO.out.symm
  have HF := h! (show R = (F.1, F.2, 0) by rw [HR.out, if_neg (fun k => k rfl), if_pos hok])
  have KL3 := h! (fun W hb => KL2.out (by trivial) hok W hb)
  obtain ⟨x0, x1, x2, x3, x4⟩ := box_mg X3.out
  clear hok KL2
  go_wp2_with fail
  refine (KL3.out _ HB3.out).mono ?_
  rintro e w4 ⟨rfl, hb⟩
  have HB4 := h! (bmore HB3.out hb n!)
  clear hb x0 x1 x2 x3 x4
  go_wp2_with fail
  go_ret3
  exact f3q HF.out HB4.out
end KP
end Go.Proofs.YteebeiaokfenmaaGreat
