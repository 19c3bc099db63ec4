/- Contracts of functions, L16: each as its theorem says. -/
import Derived.Test.YteebeiaokfenmaaGreatL15
set_option linter.unusedVariables false
set_option linter.unusedSimpArgs false
set_option maxRecDepth 100000
set_option maxHeartbeats 16000000
namespace Go.Proofs.YteebeiaokfenmaaGreat
section
open Go.RowKit
theorem refIn_yes (n : Int) (w : World) (h : 0 ≤ n ∧ n ≤ 1099511627776) :
  Calls Tryz.prog 167 #[.int .i64 n] w fun e w' => e = .returned (.bool true) ∧ w = w' := by
 obtain ⟨h1, h2⟩ := h
 go_enter Tryz.func167, Tryz.ntmps167
 go_wp2
 go_ret
 exact ⟨rfl, rfl⟩
theorem refIn_no (n : Int) (w : World) (h : ¬ (0 ≤ n ∧ n ≤ 1099511627776)) :
  Calls Tryz.prog 167 #[.int .i64 n] w fun e w' => e = .returned (.bool false) ∧ w = w' := by
 by_cases h1 : 0 ≤ n
 ·have h2 : decide (n ≤ 1099511627776) = false := by simp; omega
  clear h
  go_enter Tryz.func167, Tryz.ntmps167
  go_wp2
  go_ret
  exact ⟨rfl, rfl⟩
 ·have h2 : n < 0 := by omega
  clear h h1
  go_enter Tryz.func167, Tryz.ntmps167
  go_wp2
  go_ret
  exact ⟨rfl, rfl⟩
end
namespace CP
open Go.RowKit
open CM (Mg Cm)
def gval (g : Nat) : Value := .func (.func 66) #[] #[.pointer (some ⟨g, 0, none⟩)]
def GatV (w : World) (g : Nat) (v : Value) (pre : List UInt8) : Prop :=
 Box w g 120 #[v] ∧ Box w (g + 1) 121 #[gval g] ∧ w.ownsRow (g + 2) 5 1 v pre.length (bc pre)
theorem GatV.below {w w' : World} {g : Nat} {v : Value} {pre : List UInt8} (h : GatV w g v pre) (hb : Below w.heap.size w w') : GatV w' g v pre := by
 obtain ⟨h1, h2, h3⟩ := h
 exact ⟨h1.below hb h1.lt, h2.below hb h2.lt, own_below h3 hb⟩
def Kp (w w' : World) (g : Nat) (v v' : Value) : Prop := ∀ h t cs, Box w h t cs → h ≠ g → v.ownBlock ≠ some h → Box w' h t cs ∧ v'.ownBlock ≠ some h
theorem Kp.trans {a b c : World} {g : Nat} {u v x : Value} (h : Kp a b g u v) (k : Kp b c g v x) : Kp a c g u x := fun y t cs hb hg hu => by
 obtain ⟨h1, h2⟩ := h y t cs hb hg hu
 exact k y t cs h1 hg h2
theorem Kp.ofBelow {a b : World} (hb : Below a.heap.size a b) (g : Nat) (v : Value) : Kp a b g v v := fun y t cs h hg hu => ⟨h.below hb h.lt, hu⟩
theorem box_grown1 {w w' : World} {g : Nat} {t : TypeId} {cs : Array Value} {r : Option Nat} (h : Box w g t cs) (hg : w.grownBy w' r) (hr : ∀ k, r = some k → g + 1 ≤ k) : Box w' g t cs :=
 (hg.block g h.lt (fun e => by have := hr g e.symm; omega)).trans h
theorem own_ge {w : World} {base : Nat} {e : TypeId} {v : Value} {n : Nat} {xs : List Value} (h : w.ownsRow base e 1 v n xs) : ∀ k, v.ownBlock = some k → base ≤ k := by
 intro k hk
 rcases h.2 with ⟨rfl, _⟩ | ⟨g', cap, cur, rfl, hb, _⟩
 ·simp [Value.ownBlock] at hk
 ·simp [Value.ownBlock] at hk; omega
theorem gat_more {w w2 : World} {g : Nat} {v v2 : Value} {pre l : List UInt8} (b1 : Box w g 120 #[v]) (b2 : Box w (g + 1) 121 #[gval g]) (hg : w.grownBy w2 v.ownBlock) (hr : ∀ k, v.ownBlock = some k → g + 2 ≤ k)
  (ho : w2.ownsRow (g + 2) 5 1 v2 (pre.length + l.length) (bc pre ++ bc l)) (hob : v2.ownBlock = v.ownBlock ∨ v2.ownBlock = some w.heap.size) :
  GatV (w2.setCell ⟨g, 0, none⟩ v2) g v2 (pre ++ l) ∧ Kp w (w2.setCell ⟨g, 0, none⟩ v2) g v v2 ∧ Below g w (w2.setCell ⟨g, 0, none⟩ v2) := by
 have h1 := box_grown1 b1 hg (fun k hk => by have := hr k hk; omega)
 have h2 := box_grown1 b2 hg (fun k hk => by have := hr k hk; omega)
 refine ⟨⟨?_, ?_, ?_⟩, ?_, ?_⟩
 ·have := h1.stored 0 v2
  simpa using this
 ·exact h2.far (p := ⟨g, 0, none⟩) (by simp) v2
 ·rw [List.length_append, bc_append]
  exact ownsRow_setCell_below ho (by simp) _
 ·intro h t cs hb hne hv
  have hb2 : Box w2 h t cs := (hg.block h hb.lt (fun e => hv e.symm)).trans hb
  refine ⟨hb2.far (p := ⟨g, 0, none⟩) (by first | exact hne | exact hne.symm) v2, ?_⟩
  rcases hob with e | e
  ·rw [e]; exact hv
  ·rw [e]
   intro k
   injection k with k
   have := hb.lt
   omega
 ·have hb := (Below.refl g w).grown hg (by have := b1.lt; omega) (fun k hk => by have := hr k hk; omega)
  exact hb.setCell (p := ⟨g, 0, none⟩) n! _
theorem info_u8g : (Tryz.prog.info? 5).map (fun i => (i.zero, i.size, i.bytes)) = some (some (.int .u8 0), 1, 1) := by kernel_rfl
theorem gather_any (g : Nat) (pre l : List UInt8) (A : Option Addr) (n c : Nat) (v : Value) (w : World) (h : GatV w g v pre) (hr : Rd w A n (bc l)) (hn : n ≤ 10000) (hp : pre.length ≤ 10000) :
  Calls Tryz.prog 66 #[.slice A n c, .int .i64 0, .pointer (some ⟨g, 0, none⟩)] w fun e w' => e = .returned (.tuple #[]) ∧ ∃ v', GatV w' g v' (pre ++ l) ∧ Kp w w' g v v' ∧ Below g w w' := by
 obtain ⟨i0, hi, hz0, hz1, hz2⟩ := info_parts info_u8g
 obtain ⟨b1, b2, ho⟩ := h
 have hl : l.length = n := by have := hr.1; rwa [bc_length] at this
 have hg2 : g + 2 ≤ w.heap.size := by have := b2.lt; omega
 have c1 := b1.cell 0
 simp at c1
 have B1 := h! b1; have B2 := h! b2; have HO := h! ho; have HR := h! hr; have HL := h! hl
 have HG := h! (own_ge ho)
 clear b1 b2 ho hr hl
 go_enter Tryz.func66, Tryz.ntmps66
 go_wp2_with (at_builtin; refine wpList_append_rd _ rfl _ _ 120 rfl (g + 2) 5 i0 (.int .u8 0) 1 Tryz.underlying120 hi hz0 hz1 hz2 rfl v _ _ rfl HO.out A n c (bc l) rfl HR.out (bc_one l) (by unfold maxLen; omega) (by omega) hg2 ?_; intro v2 w2 hown2 hgr2 hob2; have b1 := box_grown1 B1.out hgr2 (fun k hk => (by have := HG.out k hk; omega)); have d1 := b1.cell 0; have f1 := b1.frozen 0; clear b1; simp at d1; have HOB := h! hob2; obtain ⟨A2, c3, rfl, _, _⟩ := own_slice hown2)
 go_end0
 exact ⟨rfl, _, gat_more (pre := pre) (l := l) B1.out B2.out hgr2 HG.out (by rw [HL.out]; exact hown2) HOB.out⟩
end CP
section
open Go.RowKit
theorem refGet_any (A : Option Addr) (n c : Nat) (l : List UInt8) (w : World) (hr : Rd w A n (bc l)) (hm : n ≤ maxLen) :
  Calls Tryz.prog 158 #[.slice A n c] w fun e w' => e = .returned (getRes (NM.dec l)) ∧ w = w' := by
 unfold maxLen at hm
 have hl : l.length = n := by have := hr.1; rwa [bc_length] at this
 have HL := h! hl; clear hl
 go_enter Tryz.func158, Tryz.ntmps158
 go_wp2
 go_loop [5, 6, 7] (fun nv uv sv => ∃ k acc U : Nat, k ≤ n ∧ k ≤ 6 ∧ sv = .int .i64 k ∧ nv = .int .i64 acc ∧ uv = .int .i64 U ∧ U = 128 ^ k ∧ acc < 128 ^ k ∧ NM.lift acc k (NM.decR (6 - k) (l.drop k)) = NM.decR 6 l) (fun _ _ s => 6 - (intOf s).toNat)
 case atStart => exact ⟨0, 0, 1, by omega, by omega, rfl, rfl, rfl, rfl, by simp, by rw [NM.lift_zero]; rfl⟩
 case round =>
  obtain ⟨k, acc, U, hk, hk6, rfl, rfl, rfl, hU, hacc, hrel⟩ := hrel
  have HR := h! hrel; clear hrel
  by_cases hlt : k < n
  ·by_cases hlt6 : k < 6
   ·obtain ⟨ad, u, rfl, _, hu, hcell⟩ := hr.at_ hlt
    have hkl : k < l.length := by have := HL.out; omega
    rw [bc_get l k hkl] at hu
    injection hu with hu
    subst hu
    obtain ⟨p, hp⟩ : ∃ p, p = l[k].toNat := ⟨_, rfl⟩
    have hp256 : p < 256 := by rw [hp]; exact UInt8.toNat_lt _
    rw [← hp] at hcell
    have HP := h! hp; clear hp
    obtain ⟨x, hx⟩ : ∃ x, x = p % 128 := ⟨_, rfl⟩
    have hx128 : x < 128 := by omega
    obtain ⟨y, hy⟩ : ∃ y, y = 128 ^ k * x := ⟨_, rfl⟩
    obtain ⟨z, hz⟩ : ∃ z, z = acc + 128 ^ k * x := ⟨_, rfl⟩
    have hzs : z < 4398046511104 := by rw [hz]; exact NM.acc_small acc k x hacc hx128 hlt6
    have hzy : z = acc + y := by rw [hz, hy]
    have hUb : U ≤ 34359738368 := by
     rw [hU]
     have : (128 : Nat) ^ k ≤ 128 ^ 5 := Nat.pow_le_pow_right (by omega) (by omega)
     omega
    have hxi : (p : Int) % 128 = (x : Int) := by omega
    have hb2 : wrap64 ((p : Int) % 128 * (U : Int)) = (y : Int) := by
     rw [hxi, hU, hy]
     exact NB.mul_wrap x k hx128 hlt6
    have hyb : y < 4398046511104 := Nat.lt_of_le_of_lt (by rw [hzy]; exact Nat.le_add_left _ _) hzs
    have haccb : acc < 4398046511104 := Nat.lt_of_le_of_lt (by rw [hzy]; exact Nat.le_add_right _ _) hzs
    have hsum : (acc : Int) + (y : Int) = (z : Int) := by rw [hzy]; exact (Int.natCast_add _ _).symm
    have hzl : z < 128 ^ (k + 1) := by rw [hz]; exact NM.acc_lt acc k x hacc hx128
    have hU2 : U * 128 = 128 ^ (k + 1) := by rw [hU, Nat.pow_succ]
    have HX := h! hx; clear hx
    have HXI := h! hxi; clear hxi
    have HY := h! hy; clear hy
    have HZ := h! hz; clear hz hzy
    have HZL := h! hzl; clear hzl hacc
    have HU2 := h! hU2; clear hU2
    have HU := h! hU; clear hU
    by_cases h128 : 128 ≤ p
    ·go_wp2_with fail
     go_round
     case rel =>
      refine ⟨k + 1, z, U * 128, by omega, by omega, by go_num, by go_num, by go_num, HU2.out, HZL.out, ?_⟩
      have e := NM.step_more acc k l _ hkl hlt6 HR.out (by have := HP.out; omega)
      rw [← HP.out, ← HX.out, ← HZ.out] at e
      exact e
     case measure => simp [intOf]; omega
    ·have hfin := NM.step_last acc k l hkl hlt6 HR.out (by have := HP.out; omega)
     rw [← HP.out, show p = x by have := HX.out; omega, ← HZ.out] at hfin
     have HFin := h! hfin; clear hfin
     have h128' : p < 128 := by omega
     by_cases hz0 : 0 < k ∧ p = 0
     ·obtain ⟨hk0, hp0⟩ := hz0
      have hp0' : ((p : Int) == 0) = true := by simp [hp0]
      have HX0 : x = 0 := by have := HX.out; omega
      have HXH := h! HX0; clear HX0
      have HP0 := h! hp0; clear hp0
      go_wp2_with fail
      go_ret3
      refine ⟨?_, rfl⟩
      rw [HFin.out, if_pos (Or.inl ⟨hk0, HXH.out⟩)]; rfl
     ·have hsplit : k = 0 ∨ (0 < k ∧ ¬ p = 0) := by omega
      have hxk : ¬ (0 < k ∧ x = 0) := by have := HX.out; omega
      have HXK := h! hxk; clear hxk hz0
      by_cases hbig : 1099511627776 < z
      ·rcases hsplit with hk00 | ⟨hk0, hp0⟩
       ·have hk0 : k ≤ 0 := by omega
        clear hk00
        go_wp2_with (go_at_call 167; refine (refIn_no _ _ (by omega)).mono ?_; rintro e w' ⟨rfl, rfl⟩)
        go_ret3
        refine ⟨?_, rfl⟩
        rw [HFin.out, if_pos (Or.inr hbig)]; rfl
       ·have hp0' : ((p : Int) == 0) = false := by simp [hp0]
        go_wp2_with (go_at_call 167; refine (refIn_no _ _ (by omega)).mono ?_; rintro e w' ⟨rfl, rfl⟩)
        go_ret3
        refine ⟨?_, rfl⟩
        rw [HFin.out, if_pos (Or.inr hbig)]; rfl
      ·rcases hsplit with hk00 | ⟨hk0, hp0⟩
       ·have hk0 : k ≤ 0 := by omega
        clear hk00
        go_wp2_with (go_at_call 167; refine (refIn_yes _ _ (by omega)).mono ?_; rintro e w' ⟨rfl, rfl⟩)
        go_ret3
        refine ⟨?_, rfl⟩
        rw [HFin.out, if_neg (by have := HXK.out; omega)]; rfl
       ·have hp0' : ((p : Int) == 0) = false := by simp [hp0]
        go_wp2_with (go_at_call 167; refine (refIn_yes _ _ (by omega)).mono ?_; rintro e w' ⟨rfl, rfl⟩)
        go_ret3
        refine ⟨?_, rfl⟩
        rw [HFin.out, if_neg (by have := HXK.out; omega)]; rfl
   ·have hfin := NM.step_end acc k l (by omega) hk6 HR.out
    have HFin := h! hfin; clear hfin hU hacc
    go_wp2
    go_ret3
    refine ⟨?_, rfl⟩
    rw [HFin.out]; rfl
  ·have hfin := NM.step_end acc k l (by have := HL.out; omega) hk6 HR.out
   have HFin := h! hfin; clear hfin hU hacc
   go_wp2
   go_ret3
   refine ⟨?_, rfl⟩
   rw [HFin.out]; rfl
end
namespace CP
open Go.RowKit
open CM (Mg Cm)
theorem put_a (n : Nat) (w : World) (hn : n ≤ 1099511627776) :
  Calls Tryz.prog 68 #[.int .i64 n] w fun e w' => ∃ A c, e = .returned (.tuple #[.slice A (NM.enc n).length c, .int .i64 0]) ∧ Rd w' A (NM.enc n).length (bc (NM.enc n)) ∧ Below w.heap.size w w' := by
 refine (put_ok n w hn).mono ?_
 rintro e w' ⟨v, rfl, ho, hb⟩
 obtain ⟨A, c, rfl, _, _⟩ := own_slice ho
 exact ⟨A, c, rfl, Rd.of_own ho, hb⟩
def encs : List Nat → List UInt8
 | [] => []
 | x :: l => NM.enc x ++ encs l
theorem encs_snoc (l : List Nat) (x : Nat) : encs (l ++ [x]) = encs l ++ NM.enc x := by
 induction l with
 | nil => simp [encs]
 | cons y l ih => simp [encs, ih]
theorem encs_take {l : List Nat} {k : Nat} (h : k < l.length) : encs (l.take (k + 1)) = encs (l.take k) ++ NM.enc l[k] := by rw [List.take_succ_eq_append_getElem h, encs_snoc]
theorem encs_len (l : List Nat) : (encs l).length ≤ 10 * l.length := by
 induction l with
 | nil => simp [encs]
 | cons y l ih => have := NM.enc_le y; simp [encs]; omega
def zsN (l : List Nat) : List Value := ic (CM.zs l)
theorem zsN_len (l : List Nat) : (zsN l).length = l.length := by simp [zsN, ic, CM.zs]
theorem zsN_at {l : List Nat} {k : Nat} {u : Value} (hk : k < l.length) (h : (zsN l)[k]? = some u) : u = .int .i64 (l[k] : Nat) := by
 unfold zsN ic CM.zs at h
 rw [List.map_map, List.getElem?_map, List.getElem?_eq_getElem hk] at h
 injection h with h
 exact h.symm
def NrRel (w : World) (g h : Nat) (v : Value) (pre : List UInt8) (l : List Nat) (k : Nat) (wr : World) : Prop :=
 ∃ v', GatV wr g v' (pre ++ encs (l.take k)) ∧ Kp w wr g v v' ∧ Box wr h 3 (zsN l).toArray ∧ v'.ownBlock ≠ some h ∧ Below g w wr
theorem numbers_any (g h : Nat) (v : Value) (pre : List UInt8) (A : Option Addr) (n c : Nat) (l : List Nat) (w : World) (hG : GatV w g v pre) (hA : A = some ⟨h, 0, none⟩) (hB : Box w h 3 (zsN l).toArray) (hne : h ≠ g) (hv : v.ownBlock ≠ some h)
  (hn : n ≤ 10) (hx : ∀ x ∈ l, x ≤ 1099511627776) (hp : pre.length ≤ 5000) (hl : l.length = n) :
  Calls Tryz.prog 67 #[.slice A n c, .pointer (some ⟨g + 1, 0, none⟩)] w fun e w' => e = .returned (.tuple #[]) ∧ ∃ v', GatV w' g v' (pre ++ encs l) ∧ Kp w w' g v v' ∧ Below g w w' := by
 have HS := h! (show NrRel w g h v pre l 0 w from ⟨v, by simpa [encs] using hG, fun y t cs h _ hu => ⟨h, hu⟩, hB, hv, Below.refl _ _⟩)
 have HA := h! hA
 have HNE := h! hne
 have HX := h! hx
 have HL := h! hl
 have HSS : Hid (∀ W v' pre', GatV W g v' pre' → W.cell? ⟨g + 1, 0, none⟩ = some (.func (.func 66) #[] #[.pointer (some ⟨g, 0, none⟩)])) := h! (fun W v' pre' hW => by
  have := hW.2.1.cell 0
  simpa [gval] using this)
 clear hG hA hB hne hv hx hl
 go_enter Tryz.func67, Tryz.ntmps67
 go_wp2_with fail
 go_loopw [7] (fun i wr => ∃ k : Nat, k ≤ n ∧ i = .int .i64 k ∧ NrRel w g h v pre l k wr) (fun i _ => n - (intOf i).toNat)
 case atStart => exact ⟨0, by omega, rfl, HS.out⟩
 case round =>
  clear HS
  obtain ⟨k, hk, rfl, v1, hg1, hk1, hb1, hv1, hB1⟩ := hrel
  have G := h! hg1
  have KP := h! hk1
  have BX := h! hb1
  have HV := h! hv1
  have HB := h! hB1
  clear hg1 hk1 hv1 hB1
  by_cases hlt : k < n
  ·have hkz : k < l.length := by have := HL.out; omega
   have hr : Rd wr A n (zsN l) := by
    have := HL.out
    rw [HA.out]
    exact rd_box hb1 rfl (by rw [zsN_len]; exact this)
   clear hb1
   obtain ⟨ad, u, rfl, _, hu, hcell⟩ := hr.at_ hlt
   have hu2 := zsN_at hkz hu
   subst hu2
   have hz : l[k] ≤ 1099511627776 := HX.out _ (List.getElem_mem hkz)
   have HT := h! (encs_take hkz)
   have HP : Hid ((pre ++ encs (l.take k)).length ≤ 10000) := h! (by have := encs_len (l.take k); rw [List.length_append]; rw [List.length_take] at this; omega)
   have hpl := NM.enc_le l[k]
   generalize l[k] = z at hcell hz HT hpl
   clear hu hr hkz
   go_upto_region 3 with (fail)
   have GD := h! (G.out.below (show Below wr.heap.size wr wr.drew from (Below.refl _ _).drew))
   have BD := h! (show Below wr.heap.size wr wr.drew from (Below.refl _ _).drew)
   obtain ⟨ud, hud⟩ : ∃ ud, ud = wr.drew := ⟨_, rfl⟩
   refine wp_region_held_drew (S := fun w' => w'.cell? ⟨g + 1, 0, none⟩ = some (.func (.func 66) #[] #[.pointer (some ⟨g, 0, none⟩)])) (by kernel_rfl) (HSS.out _ _ _ GD.out) (fun hHeld => ?_)
   rw [← hud] at GD BD hHeld ⊢
   clear hud
   refine qT 0 ?_; try simp only [Act.put, qq]
   refine qT 1 ?_; try simp only [Act.put, qq]
   refine qR 2 fun K hK => ?_
   go_simp
   refine (put_a z _ hz).mono ?_
   rintro e w4 ⟨A0, q0, rfl, hrd, hb⟩
   replace GD := h! (GD.out.below hb)
   replace BD := h! (BD.out.trans (hb.mono BD.out.size))
   refine hK.out _ _ (HSS.out _ _ _ GD.out) (fun hHeld => ?_)
   clear hK hb
   try simp only [Act.put, qq]
   refine qT 3 ?_; try simp only [Act.put, qq]
   refine qT 4 ?_; try simp only [Act.put, qq]
   refine qR 5 fun K hK => ?_
   go_simp
   refine (gather_any g (pre ++ encs (l.take k)) (NM.enc z) A0 _ q0 v1 w4 GD.out hrd (by omega) HP.out).mono ?_
   rintro e w5 ⟨rfl, v2, hg2, hk2, hb2⟩
   have HN : Hid (NrRel w g h v pre l (k + 1) w5) := h! (by
    have t := hk2 h _ _ (BX.out.below BD.out BX.out.lt) HNE.out HV.out
    refine ⟨v2, ?_, KP.out.trans ((Kp.ofBelow BD.out g v1).trans hk2), t.1, t.2, HB.out.trans ((BD.out.mono (by have := G.out.1.lt; omega)).trans hb2)⟩
    rw [HT.out, ← List.append_assoc]
    exact hg2)
   refine hK.out _ _ (HSS.out _ _ _ hg2) (fun hHeld => ?_)
   clear hK hg2 hk2 hb2 hrd
   try simp only [Act.put, qq]
   refine wpAnyH_done (by kernel_rfl) ?_ _
   clear hHeld GD BD G KP BX HV HB
   go_wp2_with fail
   go_roundw
   case rel => exact ⟨k + 1, by omega, by go_num, HN.out⟩
   case measure => simp [intOf]; omega
  ·obtain rfl : k = n := by omega
   have HE : Hid (∃ v', GatV wr g v' (pre ++ encs l) ∧ Kp w wr g v v' ∧ Below g w wr) := h! ⟨v1, by have := G.out; rwa [List.take_of_length_le (by have := HL.out; omega)] at this, KP.out, HB.out⟩
   clear G KP BX HV HB hb1
   go_wp2
   go_end0
   exact ⟨rfl, HE.out⟩
end CP
namespace KP
open Go.RowKit CP TP
open CM (Mg Cm)
open TM (Sp)
open KM (Wt Sk)
def WtsNew (b : Nat) (l : List Wt) (w : World) (e : Ending) (w' : World) : Prop := ∃ A n c, e = .returned (.slice A n c) ∧ KO KW w' b 78 (.slice A n c) l ∧ Below w.heap.size w w'
def Grow (m b : Nat) (A : Option Addr) (n c : Nat) (l : List Wt) (W : World) : Prop := KO KW W b 78 (.slice A n c) l ∧ ∀ g, (Value.slice A n c).ownBlock = some g → m ≤ g
theorem grow_nil (m b : Nat) (W : World) : Grow m b none 0 0 [] W := ⟨kO_nil KW W b _, fun g h => by cases h⟩
theorem Grow.below {m b : Nat} {A : Option Addr} {n c : Nat} {l : List Wt} {W W' : World} (h : Grow m b A n c l W) (hb : Below W.heap.size W W') : Grow m b A n c l W' := ⟨h.1.below hb, h.2⟩
theorem Grow.len {m b : Nat} {A : Option Addr} {n c : Nat} {l : List Wt} {W : World} (h : Grow m b A n c l W) : n = l.length := h.1.slice.1
theorem grow_step {m b : Nat} {A A' : Option Addr} {n c c' : Nat} {l L : List Wt} {W W' : World} {ob : Obj} (h : Grow m b A n c l W) (hm : m ≤ W.heap.size) (hb : b ≤ m) (hk : KO KW W' b 78 (.slice A' (n + 1) c') L) (hg : (W.alloc ob).grownBy W' (Value.slice A n c).ownBlock)
  (hob : (Value.slice A' (n + 1) c').ownBlock = (Value.slice A n c).ownBlock ∨ (Value.slice A' (n + 1) c').ownBlock = some (W.alloc ob).heap.size) : Grow m b A' (n + 1) c' L W' ∧ Below m W W' := by
 have hb0 : Below W.heap.size W (W.alloc ob) := b!
 refine ⟨⟨hk, fun g e => ?_⟩, Below.grown (hb0.mono hm) hg (Nat.le_trans hm hb0.size) fun g e => h.2 g e⟩
 rcases hob with k | k
 ·exact h.2 g (by rw [← k]; exact e)
 ·rw [k] at e; injection e with e; have := hb0.size; omega
theorem rwith_any (b : Nat) (A : Option Addr) (n c : Nat) (l : List Wt) (P : Option Addr) (q : Nat) (x : Wt) (w : World) (h : KG KW w b A n c l) (hx : RowGe w b P q x.m.gs) (hn : n ≤ 4000) (hb : b ≤ w.heap.size) :
  Calls Tryz.prog 118 #[.slice A n c, vwt P q x] w (WtsNew b (KM.ins l x) w) := by
 obtain ⟨j0, hj, hy0, hy1, hy2⟩ := info_parts info_wt
 have HLA := h! h.r.len
 have hn63 := h.r.small
 have H0 := h! h
 have HXR := h! (And.intro hx (fun ad (e : P = some ad) hn => row_lt hx.1 e hn))
 have HINS := h! (show KM.ins l x = l.filter (fun y => decide (y.m.id < x.m.id)) ++ [x] ++ l.filter (fun y => decide (x.m.id < y.m.id)) from rfl)
 generalize KM.ins l x = res at HINS ⊢
 obtain ⟨⟨xi, xg, xt, xk, xb⟩, xm, xf⟩ := x
 unfold vwt
 simp only at HXR HINS ⊢
 have HB := h! (show Below w.heap.size w (w.alloc (.cells #[.int .i64 xi, .slice P xg.length q, .int .i64 xt, .string xk, .string xb, .int .i64 xm, .bool xf] 78)) from (Below.refl _ _).alloc n! _)
 have X := h! (Box.new w 78 #[.int .i64 xi, .slice P xg.length q, .int .i64 xt, .string xk, .string xb, .int .i64 xm, .bool xf])
 clear h hx
 go_enter Tryz.func118, Tryz.ntmps118
 go_upto_region 1 with (fail)
 generalize w.alloc (.cells #[.int .i64 xi, .slice P xg.length q, .int .i64 xt, .string xk, .string xb, .int .i64 xm, .bool xf] 78) = w1 at HB X ⊢
 have hbw1 : b ≤ w1.heap.size := Nat.le_trans hb HB.out.size
 have hww1 : w.heap.size ≤ w1.heap.size := HB.out.size
 obtain ⟨g, hg⟩ : ∃ g, w.heap.size = g := ⟨_, rfl⟩
 rw [hg] at X
 simp only [hg]
 have HGG := h! hg
 clear hg
 go_wp2_with fail
 go_loopw [5, 6] (fun s i wr => ∃ k : Nat, ∃ A9 n9 c9, k ≤ n ∧ s = .slice A9 n9 c9 ∧ i = .int .i64 k ∧ Below w1.heap.size w1 wr ∧ Hid (Grow w1.heap.size b A9 n9 c9 ((l.take k).filter (fun y => decide (y.m.id < xi))) wr)) (fun _ i _ => n - (intOf i).toNat)
 case atStart => exact ⟨0, none, 0, 0, by omega, rfl, rfl, Below.refl _ _, h! (by simpa using grow_nil w1.heap.size b w1)⟩
 case round =>
  obtain ⟨k, A9, n9, c9, hk, rfl, rfl, hB, HG⟩ := hrel
  have HB2 := h! (bmore HB.out hB n!)
  have HBr := h! hB
  obtain ⟨z0, z1, z2, z3, z4, z5, z6⟩ := box_wt (X.out.below HBr.out X.out.lt)
  clear hB
  have hn9 : n9 ≤ 4096 := by
   have h1 := HG.out.len
   have h2 := List.length_filter_le (p := fun y : Wt => decide (y.m.id < xi)) (l.take k)
   rw [List.length_take] at h2
   omega
  by_cases hlt : k < n
  ·obtain ⟨a, ha⟩ : ∃ a, l[k]? = some a := ⟨_, List.getElem?_eq_getElem (by have := HLA.out; omega)⟩
   have HA := h! ha
   obtain ⟨bl, o, P, q, rfl, _, hbl, hat, hrow⟩ := wtsG_at H0.out ha
   have HRW := h! (And.intro hrow (fun ad (e : P = some ad) hn => row_lt hrow.1 e hn))
   have HAT := h! (fun W (hb : Below wr.heap.size wr W) => hat.below hbl (bmore HB2.out hb n!))
   obtain ⟨a0, a1, a2, a3, a4, a5, a6⟩ := HAT.out _ (Below.refl _ _)
   clear ha hat hrow hbl
   have hk0 : (0 : Int) ≤ (k : Int) := by omega
   have hkn : (k : Int) < (n : Int) := by omega
   have HP1 := h! (filter_take (p := fun y : Wt => decide (y.m.id < xi)) HA.out)
   by_cases hc : (a.m.id < xi)
   ·have HP := h! (show (l.take (k + 1)).filter (fun y => decide (y.m.id < xi)) = (l.take k).filter (fun y => decide (y.m.id < xi)) ++ [a] by rw [HP1.out, if_pos (decide_eq_true hc)])
    obtain ⟨⟨ai, ag, at_, ak, ab⟩, am, af⟩ := a
    simp only at a0 a1 a2 a3 a4 a5 a6 hc HRW HAT
    go_wp2_with fail
    go_region
    have hdr : Below wr.heap.size wr wr.drew := (Below.refl _ _).drew
    have HK0 := h! (HG.out.below hdr)
    have HRW3 := h! (HRW.out.1.below (bmore HB2.out hdr n!))
    have HNE3 := h! (show ∀ ad, P = some ad → 0 < ag.length → (Value.slice A9 n9 c9).ownBlock ≠ some ad.block from fun ad e hn kk => by have h1 := HG.out.2 _ kk; have h2 := HRW.out.2 ad e hn; omega)
    have HBS3 := h! (show b ≤ wr.drew.heap.size from Nat.le_trans hbw1 HBr.out.size)
    have hat2 := HAT.out _ hdr
    clear a0 a1 a2 a3 a4 a5 a6 z0 z1 z2 z3 z4 z5 z6
    generalize wr.drew = wd at hdr HK0 HRW3 HBS3 hat2 ⊢
    obtain ⟨a0, a1, a2, a3, a4, a5, a6⟩ := hat2
    simp only at a0 a1 a2 a3 a4 a5 a6
    go_wp2_with (at_builtin; refine wpList_append_ko rfl _ _ 37 rfl 78 j0 _ 88 Tryz.underlying37 hj hy0 hy1 hy2 rfl rfl (HK0.out).1 rfl #[.int .i64 ai, .slice P ag.length q, .int .i64 at_, .string ak, .string ab, .int .i64 am, .bool af] (show _ = KW.cel P q ⟨⟨ai, ag, at_, ak, ab⟩, am, af⟩ from rfl) (HRW3.out) (HNE3.out) (by unfold maxLen; omega) (by omega) HBS3.out ?_; intro A7 c7 w6 hko hgr hob; have HKO := h! hko; have HGR := h! hgr; have HOB := h! hob; clear hko hgr hob)
    obtain ⟨hn1, hn2⟩ := grow_step HK0.out (show w1.heap.size ≤ wd.heap.size from Nat.le_trans HBr.out.size hdr.size) hbw1 HKO.out HGR.out HOB.out
    rw [← HP.out] at hn1
    have HN1 := h! hn1
    have HN2 := h! ((bmore HBr.out hdr n!).trans hn2)
    clear hn1 hn2
    go_roundw
    case rel => exact ⟨k + 1, A7, n9 + 1, c7, by omega, rfl, by go_num, HN2.out, HN1⟩
    case measure => simp [intOf]; omega
   ·have HP := h! (show (l.take (k + 1)).filter (fun y => decide (y.m.id < xi)) = (l.take k).filter (fun y => decide (y.m.id < xi)) by rw [HP1.out, if_neg (by simpa using hc), List.append_nil])
    have HN1 := HG.out
    rw [← HP.out] at HN1
    have HN := h! HN1
    clear HN1
    obtain ⟨⟨ai, ag, at_, ak, ab⟩, am, af⟩ := a
    simp only at a0 a1 a2 a3 a4 a5 a6 hc
    go_wp2_with fail
    go_region
    have HN1 := h! (HN.out.below ((Below.refl _ _).drew))
    have HN2 := h! (bmore HBr.out ((Below.refl _ _).drew) n!)
    go_wp2_with fail
    go_roundw
    case rel => exact ⟨k + 1, A9, n9, c9, by omega, rfl, by go_num, HN2.out, HN1⟩
    case measure => simp [intOf]; omega
  ·have HGF := h! (show Grow w1.heap.size b A9 n9 c9 (l.filter (fun y => decide (y.m.id < xi))) wr by
    have := HG.out
    rwa [List.take_of_length_le (by have := HLA.out; omega)] at this)
   obtain ⟨z0, z1, z2, z3, z4, z5, z6⟩ := box_wt (X.out.below HBr.out X.out.lt)
   have HRW3 := h! (HXR.out.1.below HB2.out)
   have HNE3 := h! (show ∀ ad, P = some ad → 0 < xg.length → (Value.slice A9 n9 c9).ownBlock ≠ some ad.block from fun ad e hn kk => by have h1 := HGF.out.2 _ kk; have h2 := HXR.out.2 ad e hn; omega)
   have HBS3 := h! (show b ≤ wr.heap.size from Nat.le_trans hbw1 HBr.out.size)
   go_wp2_with (at_builtin; refine wpList_append_ko rfl _ _ 37 rfl 78 j0 _ 88 Tryz.underlying37 hj hy0 hy1 hy2 rfl rfl (HGF.out).1 rfl #[.int .i64 xi, .slice P xg.length q, .int .i64 xt, .string xk, .string xb, .int .i64 xm, .bool xf] (show _ = KW.cel P q ⟨⟨xi, xg, xt, xk, xb⟩, xm, xf⟩ from rfl) (HRW3.out) (HNE3.out) (by unfold maxLen; omega) (by omega) HBS3.out ?_; intro A7 c7 w6 hko hgr hob; have HKO := h! hko; have HGR := h! hgr; have HOB := h! hob; clear hko hgr hob)
   obtain ⟨hn1, hn2⟩ := grow_step HGF.out (show w1.heap.size ≤ wr.heap.size from HBr.out.size) hbw1 HKO.out HGR.out HOB.out
   have HG6 := h! hn1
   have HB6 := h! (HBr.out.trans hn2)
   clear hn1 hn2 z0 z1 z2 z3 z4 z5 z6
   go_loopw [5, 7] (fun s i wr => ∃ k : Nat, ∃ A9 n9 c9, k ≤ n ∧ s = .slice A9 n9 c9 ∧ i = .int .i64 k ∧ Below w1.heap.size w1 wr ∧ Hid (Grow w1.heap.size b A9 n9 c9 ((l.filter (fun y => decide (y.m.id < xi)) ++ [⟨⟨xi, xg, xt, xk, xb⟩, xm, xf⟩]) ++ (l.take k).filter (fun y => decide (xi < y.m.id))) wr)) (fun _ i _ => n - (intOf i).toNat)
   case atStart => exact ⟨0, A7, n9 + 1, c7, by omega, rfl, rfl, HB6.out, h! (by simpa using HG6.out)⟩
   case round =>
    clear HG6 HB6 HKO HGR HOB HGF HRW3 HNE3 HBS3 HG HBr HB2 hn9 hlt
    obtain ⟨k, A9, n9, c9, hk, rfl, rfl, hB, HG⟩ := hrel
    have HB2 := h! (bmore HB.out hB n!)
    have HBr := h! hB
    obtain ⟨z0, z1, z2, z3, z4, z5, z6⟩ := box_wt (X.out.below HBr.out X.out.lt)
    clear hB
    have hn9 : n9 ≤ 9000 := by
     have h1 := HG.out.len
     have h3 := List.length_filter_le (p := fun y : Wt => decide (y.m.id < xi)) l
     rw [List.length_append, List.length_append, List.length_singleton] at h1
     have h4 := HLA.out
     have h2 := List.length_filter_le (p := fun y : Wt => decide (xi < y.m.id)) (l.take k)
     rw [List.length_take] at h2
     omega
    by_cases hlt : k < n
    ·obtain ⟨a, ha⟩ : ∃ a, l[k]? = some a := ⟨_, List.getElem?_eq_getElem (by have := HLA.out; omega)⟩
     have HA := h! ha
     obtain ⟨bl, o, P, q, rfl, _, hbl, hat, hrow⟩ := wtsG_at H0.out ha
     have HRW := h! (And.intro hrow (fun ad (e : P = some ad) hn => row_lt hrow.1 e hn))
     have HAT := h! (fun W (hb : Below wr.heap.size wr W) => hat.below hbl (bmore HB2.out hb n!))
     obtain ⟨a0, a1, a2, a3, a4, a5, a6⟩ := HAT.out _ (Below.refl _ _)
     clear ha hat hrow hbl
     have hk0 : (0 : Int) ≤ (k : Int) := by omega
     have hkn : (k : Int) < (n : Int) := by omega
     have HP1 := h! (filter_take (p := fun y : Wt => decide (xi < y.m.id)) HA.out)
     by_cases hc : (xi < a.m.id)
     ·have HP := h! (show (l.filter (fun y => decide (y.m.id < xi)) ++ [⟨⟨xi, xg, xt, xk, xb⟩, xm, xf⟩]) ++ (l.take (k + 1)).filter (fun y => decide (xi < y.m.id)) = (l.filter (fun y => decide (y.m.id < xi)) ++ [⟨⟨xi, xg, xt, xk, xb⟩, xm, xf⟩]) ++ (l.take k).filter (fun y => decide (xi < y.m.id)) ++ [a] by rw [HP1.out, if_pos (decide_eq_true hc), ← List.append_assoc])
      obtain ⟨⟨ai, ag, at_, ak, ab⟩, am, af⟩ := a
      simp only at a0 a1 a2 a3 a4 a5 a6 hc HRW HAT
      go_wp2_with fail
      go_region
      have hdr : Below wr.heap.size wr wr.drew := (Below.refl _ _).drew
      have HK0 := h! (HG.out.below hdr)
      have HRW3 := h! (HRW.out.1.below (bmore HB2.out hdr n!))
      have HNE3 := h! (show ∀ ad, P = some ad → 0 < ag.length → (Value.slice A9 n9 c9).ownBlock ≠ some ad.block from fun ad e hn kk => by have h1 := HG.out.2 _ kk; have h2 := HRW.out.2 ad e hn; omega)
      have HBS3 := h! (show b ≤ wr.drew.heap.size from Nat.le_trans hbw1 HBr.out.size)
      have hat2 := HAT.out _ hdr
      clear a0 a1 a2 a3 a4 a5 a6 z0 z1 z2 z3 z4 z5 z6
      generalize wr.drew = wd at hdr HK0 HRW3 HBS3 hat2 ⊢
      obtain ⟨a0, a1, a2, a3, a4, a5, a6⟩ := hat2
      simp only at a0 a1 a2 a3 a4 a5 a6
      go_wp2_with (at_builtin; refine wpList_append_ko rfl _ _ 37 rfl 78 j0 _ 88 Tryz.underlying37 hj hy0 hy1 hy2 rfl rfl (HK0.out).1 rfl #[.int .i64 ai, .slice P ag.length q, .int .i64 at_, .string ak, .string ab, .int .i64 am, .bool af] (show _ = KW.cel P q ⟨⟨ai, ag, at_, ak, ab⟩, am, af⟩ from rfl) (HRW3.out) (HNE3.out) (by unfold maxLen; omega) (by omega) HBS3.out ?_; intro A7 c7 w6 hko hgr hob; have HKO := h! hko; have HGR := h! hgr; have HOB := h! hob; clear hko hgr hob)
      obtain ⟨hn1, hn2⟩ := grow_step HK0.out (show w1.heap.size ≤ wd.heap.size from Nat.le_trans HBr.out.size hdr.size) hbw1 HKO.out HGR.out HOB.out
      rw [← HP.out] at hn1
      have HN1 := h! hn1
      have HN2 := h! ((bmore HBr.out hdr n!).trans hn2)
      clear hn1 hn2
      go_roundw
      case rel => exact ⟨k + 1, A7, n9 + 1, c7, by omega, rfl, by go_num, HN2.out, HN1⟩
      case measure => simp [intOf]; omega
     ·have HP := h! (show (l.take (k + 1)).filter (fun y => decide (xi < y.m.id)) = (l.take k).filter (fun y => decide (xi < y.m.id)) by rw [HP1.out, if_neg (by simpa using hc), List.append_nil])
      have HN1 := HG.out
      rw [← HP.out] at HN1
      have HN := h! HN1
      clear HN1
      obtain ⟨⟨ai, ag, at_, ak, ab⟩, am, af⟩ := a
      simp only at a0 a1 a2 a3 a4 a5 a6 hc
      go_wp2_with fail
      go_region
      have HN1 := h! (HN.out.below ((Below.refl _ _).drew))
      have HN2 := h! (bmore HBr.out ((Below.refl _ _).drew) n!)
      go_wp2_with fail
      go_roundw
      case rel => exact ⟨k + 1, A9, n9, c9, by omega, rfl, by go_num, HN2.out, HN1⟩
      case measure => simp [intOf]; omega
    ·have HF := h! (show Grow w1.heap.size b A9 n9 c9 res wr by
      have := HG.out
      rw [List.take_of_length_le (by have := HLA.out; omega)] at this
      rw [HINS.out]
      exact this)
     go_wp2_with fail
     go_ret
     exact ⟨A9, n9, c9, rfl, HF.out.1, HB2.out⟩
end KP
namespace TP
open Go.RowKit Go.Joins Go.ChangeShapes Go.WideShapes Go.Deep
open TM (Sp)
def SpsArg (w : World) (A : Option Addr) (n c : Nat) (l : List Sp) : Prop := SpsIs w A n c l ∧ ∀ a ∈ l, SpFit a
section
variable {H : Type} {enc : TypeId × Value → H} {w : World} {spare : Nat → Bool} {held : Bool} {base : Nat}
theorem sp_cells {fuel : Nat} {cs : List Value} {x : DataW H × List MemPlace} (h : DataW.trod enc Tryz.prog w base spare held fuel 46 cs = some x) : ∃ m : Sp, cs = spc m ∧ SpFit m := by
 obtain ⟨hlen, n, hf⟩ := cells_read Tryz.underlying46 (by kernel_rfl) h
 have hl : cs.length = 2 := hlen.trans (by kernel_rfl)
 match cs, hl with
 | [c0, c1], _ =>
  obtain ⟨y0, t0⟩ := hf 0 _ c0 rfl rfl
  obtain ⟨y1, t1⟩ := hf 1 _ c1 rfl rfl
  obtain ⟨a, e0, _, w0⟩ := DataW.trod_int Tryz.underlying3 t0
  obtain ⟨b, e1, _, w1⟩ := DataW.trod_int Tryz.underlying3 t1
  simp at e0 e1
  subst e0 e1
  exact ⟨⟨a, b⟩, rfl, range_i64 w0, range_i64 w1⟩
theorem open_sps {A : Option Addr} {m c : Nat} {d : DataW H} {p : List MemPlace} (h : DataW.Trod enc Tryz.prog w base spare held 22 (.slice A m c) d p) : ∃ l, SpsArg w A m c l := by
 obtain ⟨fuel, hf⟩ := h
 obtain ⟨B, m', c', l, e, h1, h2, h3, h4, h5⟩ := rows_cells (s := 2) Tryz.underlying22 (by kernel_rfl) (by omega) (fun h => sp_cells h) (show DataW.trod enc Tryz.prog w base spare held fuel 22 [.slice A m c] = some (d, p) by simpa [Value.cells] using hf)
 injection e with e1 e2 e3
 subst e1 e2 e3
 exact ⟨l, ⟨h3, h4, h1, h2⟩, h5⟩
end
end TP
end Go.Proofs.YteebeiaokfenmaaGreat
