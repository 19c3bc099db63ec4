/-
  What the document's own Get and GetText (towncrierref01) do: for whatever bytes they answer what the plain functions dec and getText say. Conditions: the slice reads as bytes.
  What package command's Write writes of numbers: its second closure. Conditions: as each theorem says.
  The document's own with and without (towncrierref15): what waits with one more, and but for one. Conditions: slices that read as such, of at most 4,096.
  What package command's front calls: its closures that read a number, a list, a text off a variable of bytes (NumAt). Conditions: the slice reads as bytes.
-/
import Derived.Test.YteebeiaokfenmaaGreatK01
import Derived.Test.YteebeiaokfenmaaGreatK16
import Derived.Test.YteebeiaokfenmaaGreatK13
import Derived.Test.YteebeiaokfenmaaGreatK11
import Derived.Test.YteebeiaokfenmaaGreatK05
import Derived.Test.YteebeiaokfenmaaGreatK04
import Derived.Test.YteebeiaokfenmaaGreatK07
namespace Go.Proofs.YteebeiaokfenmaaGreat
open Go.RowKit
set_option linter.unusedVariables false
set_option maxRecDepth 100000
set_option maxRecDepth 100000 in
set_option maxHeartbeats 1000000 in
theorem refGet_any (A : Option Addr) (n c : Nat) (l : List UInt8) (w : World) (hr : Rd w A n (bc l)) (hm : n ≤ maxLen) :
  Calls Tryz.prog 158 #[.slice A n c] w fun e w' => e = .returned (getRes (NM.dec l)) ∧ w = w' := by
 unfold maxLen at hm
 have hl : l.length = n := by have := hr.1; rwa [bc_length] at this
 have HL := h! hl; clear hl
 go_enter Tryz.func158, Tryz.ntmps158
 go_wp2
 go_loop [5, 6, 7] (fun nv uv sv => ∃ k acc U : Nat, k ≤ n ∧ k ≤ 6 ∧ sv = .int .i64 k ∧ nv = .int .i64 acc ∧ uv = .int .i64 U ∧ U = 128 ^ k ∧ acc < 128 ^ k ∧ NM.lift acc k (NM.decR (6 - k) (l.drop k)) = NM.decR 6 l) (fun _ _ s => 6 - (intOf s).toNat)
 case atStart => exact ⟨0, 0, 1, by omega, by omega, rfl, rfl, rfl, rfl, by simp, by rw [NM.lift_zero]; rfl⟩
 case round =>
  obtain ⟨k, acc, U, hk, hk6, rfl, rfl, rfl, hU, hacc, hrel⟩ := hrel
  have HR := h! hrel; clear hrel
  by_cases hlt : k < n
  ·by_cases hlt6 : k < 6
   ·obtain ⟨ad, u, rfl, _, hu, hcell⟩ := hr.at_ hlt
    have hkl : k < l.length := by have := HL.out; omega
    rw [bc_get l k hkl] at hu
    injection hu with hu
    subst hu
    obtain ⟨p, hp⟩ : ∃ p, p = l[k].toNat := ⟨_, rfl⟩
    have hp256 : p < 256 := by rw [hp]; exact UInt8.toNat_lt _
    rw [← hp] at hcell
    have HP := h! hp; clear hp
    obtain ⟨x, hx⟩ : ∃ x, x = p % 128 := ⟨_, rfl⟩
    have hx128 : x < 128 := by omega
    obtain ⟨y, hy⟩ : ∃ y, y = 128 ^ k * x := ⟨_, rfl⟩
    obtain ⟨z, hz⟩ : ∃ z, z = acc + 128 ^ k * x := ⟨_, rfl⟩
    have hzs : z < 4398046511104 := by rw [hz]; exact NM.acc_small acc k x hacc hx128 hlt6
    have hzy : z = acc + y := by rw [hz, hy]
    have hUb : U ≤ 34359738368 := by
     rw [hU]
     have : (128 : Nat) ^ k ≤ 128 ^ 5 := Nat.pow_le_pow_right (by omega) (by omega)
     omega
    have hxi : (p : Int) % 128 = (x : Int) := by omega
    have hb2 : wrap64 ((p : Int) % 128 * (U : Int)) = (y : Int) := by
     rw [hxi, hU, hy]
     exact NB.mul_wrap x k hx128 hlt6
    have hyb : y < 4398046511104 := Nat.lt_of_le_of_lt (by rw [hzy]; exact Nat.le_add_left _ _) hzs
    have haccb : acc < 4398046511104 := Nat.lt_of_le_of_lt (by rw [hzy]; exact Nat.le_add_right _ _) hzs
    have hsum : (acc : Int) + (y : Int) = (z : Int) := by rw [hzy]; exact (Int.natCast_add _ _).symm
    have hzl : z < 128 ^ (k + 1) := by rw [hz]; exact NM.acc_lt acc k x hacc hx128
    have hU2 : U * 128 = 128 ^ (k + 1) := by rw [hU, Nat.pow_succ]
    have HX := h! hx; clear hx
    have HXI := h! hxi; clear hxi
    have HY := h! hy; clear hy
    have HZ := h! hz; clear hz hzy
    have HZL := h! hzl; clear hzl hacc
    have HU2 := h! hU2; clear hU2
    have HU := h! hU; clear hU
    by_cases h128 : 128 ≤ p
    ·go_wp2_with fail
     go_round
     case rel =>
      refine ⟨k + 1, z, U * 128, by omega, by omega, by go_num, by go_num, by go_num, HU2.out, HZL.out, ?_⟩
      have e := NM.step_more acc k l _ hkl hlt6 HR.out (by have := HP.out; omega)
      rw [← HP.out, ← HX.out, ← HZ.out] at e
      exact e
     case measure => simp [intOf]; omega
    ·have hfin := NM.step_last acc k l hkl hlt6 HR.out (by have := HP.out; omega)
     rw [← HP.out, show p = x by have := HX.out; omega, ← HZ.out] at hfin
     have HFin := h! hfin; clear hfin
     have h128' : p < 128 := by omega
     by_cases hz0 : 0 < k ∧ p = 0
     ·obtain ⟨hk0, hp0⟩ := hz0
      have hp0' : ((p : Int) == 0) = true := by simp [hp0]
      have HX0 : x = 0 := by have := HX.out; omega
      have HXH := h! HX0; clear HX0
      have HP0 := h! hp0; clear hp0
      go_wp2_with fail
      go_ret3
      refine ⟨?_, rfl⟩
      rw [HFin.out, if_pos (Or.inl ⟨hk0, HXH.out⟩)]; rfl
     ·have hsplit : k = 0 ∨ (0 < k ∧ ¬ p = 0) := by omega
      have hxk : ¬ (0 < k ∧ x = 0) := by have := HX.out; omega
      have HXK := h! hxk; clear hxk hz0
      by_cases hbig : 1099511627776 < z
      ·rcases hsplit with hk00 | ⟨hk0, hp0⟩
       ·have hk0 : k ≤ 0 := by omega
        clear hk00
        go_wp2_with (go_at_call 167; refine (refIn_no _ _ (by omega)).mono ?_; rintro e w' ⟨rfl, rfl⟩)
        go_ret3
        refine ⟨?_, rfl⟩
        rw [HFin.out, if_pos (Or.inr hbig)]; rfl
       ·have hp0' : ((p : Int) == 0) = false := by simp [hp0]
        go_wp2_with (go_at_call 167; refine (refIn_no _ _ (by omega)).mono ?_; rintro e w' ⟨rfl, rfl⟩)
        go_ret3
        refine ⟨?_, rfl⟩
        rw [HFin.out, if_pos (Or.inr hbig)]; rfl
      ·rcases hsplit with hk00 | ⟨hk0, hp0⟩
       ·have hk0 : k ≤ 0 := by omega
        clear hk00
        go_wp2_with (go_at_call 167; refine (refIn_yes _ _ (by omega)).mono ?_; rintro e w' ⟨rfl, rfl⟩)
        go_ret3
        refine ⟨?_, rfl⟩
        rw [HFin.out, if_neg (by have := HXK.out; omega)]; rfl
       ·have hp0' : ((p : Int) == 0) = false := by simp [hp0]
        go_wp2_with (go_at_call 167; refine (refIn_yes _ _ (by omega)).mono ?_; rintro e w' ⟨rfl, rfl⟩)
        go_ret3
        refine ⟨?_, rfl⟩
        rw [HFin.out, if_neg (by have := HXK.out; omega)]; rfl
   ·have hfin := NM.step_end acc k l (by omega) hk6 HR.out
    have HFin := h! hfin; clear hfin hU hacc
    go_wp2
    go_ret3
    refine ⟨?_, rfl⟩
    rw [HFin.out]; rfl
  ·have hfin := NM.step_end acc k l (by have := HL.out; omega) hk6 HR.out
   have HFin := h! hfin; clear hfin hU hacc
   go_wp2
   go_ret3
   refine ⟨?_, rfl⟩
   rw [HFin.out]; rfl
end Go.Proofs.YteebeiaokfenmaaGreat

namespace Go.Proofs.YteebeiaokfenmaaGreat.CP
open Go.RowKit
open CM (Mg Cm)
set_option linter.unusedVariables false
set_option linter.unusedSimpArgs false
set_option maxRecDepth 100000
theorem put_a (n : Nat) (w : World) (hn : n ≤ 1099511627776) :
  Calls Tryz.prog 68 #[.int .i64 n] w fun e w' => ∃ A c, e = .returned (.tuple #[.slice A (NM.enc n).length c, .int .i64 0]) ∧ Rd w' A (NM.enc n).length (bc (NM.enc n)) ∧ Below w.heap.size w w' := by
 refine (put_ok n w hn).mono ?_
 rintro e w' ⟨v, rfl, ho, hb⟩
 obtain ⟨A, c, rfl, _, _⟩ := own_slice ho
 exact ⟨A, c, rfl, Rd.of_own ho, hb⟩
def encs : List Nat → List UInt8
 | [] => []
 | x :: l => NM.enc x ++ encs l
theorem encs_snoc (l : List Nat) (x : Nat) : encs (l ++ [x]) = encs l ++ NM.enc x := by
 induction l with
 | nil => simp [encs]
 | cons y l ih => simp [encs, ih]
theorem encs_take {l : List Nat} {k : Nat} (h : k < l.length) : encs (l.take (k + 1)) = encs (l.take k) ++ NM.enc l[k] := by rw [List.take_succ_eq_append_getElem h, encs_snoc]
theorem encs_len (l : List Nat) : (encs l).length ≤ 10 * l.length := by
 induction l with
 | nil => simp [encs]
 | cons y l ih => have := NM.enc_le y; simp [encs]; omega
def zsN (l : List Nat) : List Value := ic (CM.zs l)
theorem zsN_len (l : List Nat) : (zsN l).length = l.length := by simp [zsN, ic, CM.zs]
theorem zsN_at {l : List Nat} {k : Nat} {u : Value} (hk : k < l.length) (h : (zsN l)[k]? = some u) : u = .int .i64 (l[k] : Nat) := by
 unfold zsN ic CM.zs at h
 rw [List.map_map, List.getElem?_map, List.getElem?_eq_getElem hk] at h
 injection h with h
 exact h.symm
def NrRel (w : World) (g h : Nat) (v : Value) (pre : List UInt8) (l : List Nat) (k : Nat) (wr : World) : Prop :=
 ∃ v', GatV wr g v' (pre ++ encs (l.take k)) ∧ Kp w wr g v v' ∧ Box wr h 3 (zsN l).toArray ∧ v'.ownBlock ≠ some h ∧ Below g w wr
set_option maxHeartbeats 8000000 in
theorem numbers_any (g h : Nat) (v : Value) (pre : List UInt8) (A : Option Addr) (n c : Nat) (l : List Nat) (w : World) (hG : GatV w g v pre) (hA : A = some ⟨h, 0, none⟩) (hB : Box w h 3 (zsN l).toArray) (hne : h ≠ g) (hv : v.ownBlock ≠ some h)
  (hn : n ≤ 10) (hx : ∀ x ∈ l, x ≤ 1099511627776) (hp : pre.length ≤ 5000) (hl : l.length = n) :
  Calls Tryz.prog 67 #[.slice A n c, .pointer (some ⟨g + 1, 0, none⟩)] w fun e w' => e = .returned (.tuple #[]) ∧ ∃ v', GatV w' g v' (pre ++ encs l) ∧ Kp w w' g v v' ∧ Below g w w' := by
 have HS := h! (show NrRel w g h v pre l 0 w from ⟨v, by simpa [encs] using hG, fun y t cs h _ hu => ⟨h, hu⟩, hB, hv, Below.refl _ _⟩)
 have HA := h! hA
 have HNE := h! hne
 have HX := h! hx
 have HL := h! hl
 have HSS : Hid (∀ W v' pre', GatV W g v' pre' → W.cell? ⟨g + 1, 0, none⟩ = some (.func (.func 66) #[] #[.pointer (some ⟨g, 0, none⟩)])) := h! (fun W v' pre' hW => by
  have := hW.2.1.cell 0
  simpa [gval] using this)
 clear hG hA hB hne hv hx hl
 go_enter Tryz.func67, Tryz.ntmps67
 go_wp2_with fail
 go_loopw [7] (fun i wr => ∃ k : Nat, k ≤ n ∧ i = .int .i64 k ∧ NrRel w g h v pre l k wr) (fun i _ => n - (intOf i).toNat)
 case atStart => exact ⟨0, by omega, rfl, HS.out⟩
 case round =>
  clear HS
  obtain ⟨k, hk, rfl, v1, hg1, hk1, hb1, hv1, hB1⟩ := hrel
  have G := h! hg1
  have KP := h! hk1
  have BX := h! hb1
  have HV := h! hv1
  have HB := h! hB1
  clear hg1 hk1 hv1 hB1
  by_cases hlt : k < n
  ·have hkz : k < l.length := by have := HL.out; omega
   have hr : Rd wr A n (zsN l) := by
    have := HL.out
    rw [HA.out]
    exact rd_box hb1 rfl (by rw [zsN_len]; exact this)
   clear hb1
   obtain ⟨ad, u, rfl, _, hu, hcell⟩ := hr.at_ hlt
   have hu2 := zsN_at hkz hu
   subst hu2
   have hz : l[k] ≤ 1099511627776 := HX.out _ (List.getElem_mem hkz)
   have HT := h! (encs_take hkz)
   have HP : Hid ((pre ++ encs (l.take k)).length ≤ 10000) := h! (by have := encs_len (l.take k); rw [List.length_append]; rw [List.length_take] at this; omega)
   have hpl := NM.enc_le l[k]
   generalize l[k] = z at hcell hz HT hpl
   clear hu hr hkz
   go_upto_region 3 with (fail)
   have GD := h! (G.out.below (show Below wr.heap.size wr wr.drew from (Below.refl _ _).drew))
   have BD := h! (show Below wr.heap.size wr wr.drew from (Below.refl _ _).drew)
   obtain ⟨ud, hud⟩ : ∃ ud, ud = wr.drew := ⟨_, rfl⟩
   refine wp_region_held_drew (S := fun w' => w'.cell? ⟨g + 1, 0, none⟩ = some (.func (.func 66) #[] #[.pointer (some ⟨g, 0, none⟩)])) (by kernel_rfl) (HSS.out _ _ _ GD.out) (fun hHeld => ?_)
   rw [← hud] at GD BD hHeld ⊢
   clear hud
   refine qT 0 ?_; try simp only [Act.put, qq]
   refine qT 1 ?_; try simp only [Act.put, qq]
   refine qR 2 fun K hK => ?_
   go_simp
   refine (put_a z _ hz).mono ?_
   rintro e w4 ⟨A0, q0, rfl, hrd, hb⟩
   replace GD := h! (GD.out.below hb)
   replace BD := h! (BD.out.trans (hb.mono BD.out.size))
   refine hK.out _ _ (HSS.out _ _ _ GD.out) (fun hHeld => ?_)
   clear hK hb
   try simp only [Act.put, qq]
   refine qT 3 ?_; try simp only [Act.put, qq]
   refine qT 4 ?_; try simp only [Act.put, qq]
   refine qR 5 fun K hK => ?_
   go_simp
   refine (gather_any g (pre ++ encs (l.take k)) (NM.enc z) A0 _ q0 v1 w4 GD.out hrd (by omega) HP.out).mono ?_
   rintro e w5 ⟨rfl, v2, hg2, hk2, hb2⟩
   have HN : Hid (NrRel w g h v pre l (k + 1) w5) := h! (by
    have t := hk2 h _ _ (BX.out.below BD.out BX.out.lt) HNE.out HV.out
    refine ⟨v2, ?_, KP.out.trans ((Kp.ofBelow BD.out g v1).trans hk2), t.1, t.2, HB.out.trans ((BD.out.mono (by have := G.out.1.lt; omega)).trans hb2)⟩
    rw [HT.out, ← List.append_assoc]
    exact hg2)
   refine hK.out _ _ (HSS.out _ _ _ hg2) (fun hHeld => ?_)
   clear hK hg2 hk2 hb2 hrd
   try simp only [Act.put, qq]
   refine wpAnyH_done (by kernel_rfl) ?_ _
   clear hHeld GD BD G KP BX HV HB
   go_wp2_with fail
   go_roundw
   case rel => exact ⟨k + 1, by omega, by go_num, HN.out⟩
   case measure => simp [intOf]; omega
  ·obtain rfl : k = n := by omega
   have HE : Hid (∃ v', GatV wr g v' (pre ++ encs l) ∧ Kp w wr g v v' ∧ Below g w wr) := h! ⟨v1, by have := G.out; rwa [List.take_of_length_le (by have := HL.out; omega)] at this, KP.out, HB.out⟩
   clear G KP BX HV HB hb1
   go_wp2
   go_end0
   exact ⟨rfl, HE.out⟩
end Go.Proofs.YteebeiaokfenmaaGreat.CP

namespace Go.Proofs.YteebeiaokfenmaaGreat.KP
open Go.RowKit CP TP
open CM (Mg Cm)
open TM (Sp)
open KM (Wt Sk)
set_option linter.unusedVariables false
set_option linter.unusedSimpArgs false
set_option maxRecDepth 100000
def WtsNew (b : Nat) (l : List Wt) (w : World) (e : Ending) (w' : World) : Prop := ∃ A n c, e = .returned (.slice A n c) ∧ KO KW w' b 78 (.slice A n c) l ∧ Below w.heap.size w w'
def Grow (m b : Nat) (A : Option Addr) (n c : Nat) (l : List Wt) (W : World) : Prop := KO KW W b 78 (.slice A n c) l ∧ ∀ g, (Value.slice A n c).ownBlock = some g → m ≤ g
theorem grow_nil (m b : Nat) (W : World) : Grow m b none 0 0 [] W := ⟨kO_nil KW W b _, fun g h => by cases h⟩
theorem Grow.below {m b : Nat} {A : Option Addr} {n c : Nat} {l : List Wt} {W W' : World} (h : Grow m b A n c l W) (hb : Below W.heap.size W W') : Grow m b A n c l W' := ⟨h.1.below hb, h.2⟩
theorem Grow.len {m b : Nat} {A : Option Addr} {n c : Nat} {l : List Wt} {W : World} (h : Grow m b A n c l W) : n = l.length := h.1.slice.1
theorem grow_step {m b : Nat} {A A' : Option Addr} {n c c' : Nat} {l L : List Wt} {W W' : World} {ob : Obj} (h : Grow m b A n c l W) (hm : m ≤ W.heap.size) (hb : b ≤ m) (hk : KO KW W' b 78 (.slice A' (n + 1) c') L) (hg : (W.alloc ob).grownBy W' (Value.slice A n c).ownBlock)
  (hob : (Value.slice A' (n + 1) c').ownBlock = (Value.slice A n c).ownBlock ∨ (Value.slice A' (n + 1) c').ownBlock = some (W.alloc ob).heap.size) : Grow m b A' (n + 1) c' L W' ∧ Below m W W' := by
 have hb0 : Below W.heap.size W (W.alloc ob) := b!
 refine ⟨⟨hk, fun g e => ?_⟩, Below.grown (hb0.mono hm) hg (Nat.le_trans hm hb0.size) fun g e => h.2 g e⟩
 rcases hob with k | k
 ·exact h.2 g (by rw [← k]; exact e)
 ·rw [k] at e; injection e with e; have := hb0.size; omega
set_option maxHeartbeats 16000000 in
theorem rwith_any (b : Nat) (A : Option Addr) (n c : Nat) (l : List Wt) (P : Option Addr) (q : Nat) (x : Wt) (w : World) (h : KG KW w b A n c l) (hx : RowGe w b P q x.m.gs) (hn : n ≤ 4000) (hb : b ≤ w.heap.size) :
  Calls Tryz.prog 118 #[.slice A n c, vwt P q x] w (WtsNew b (KM.ins l x) w) := by
 obtain ⟨j0, hj, hy0, hy1, hy2⟩ := info_parts info_wt
 have HLA := h! h.r.len
 have hn63 := h.r.small
 have H0 := h! h
 have HXR := h! (And.intro hx (fun ad (e : P = some ad) hn => row_lt hx.1 e hn))
 have HINS := h! (show KM.ins l x = l.filter (fun y => decide (y.m.id < x.m.id)) ++ [x] ++ l.filter (fun y => decide (x.m.id < y.m.id)) from rfl)
 generalize KM.ins l x = res at HINS ⊢
 obtain ⟨⟨xi, xg, xt, xk, xb⟩, xm, xf⟩ := x
 unfold vwt
 simp only at HXR HINS ⊢
 have HB := h! (show Below w.heap.size w (w.alloc (.cells #[.int .i64 xi, .slice P xg.length q, .int .i64 xt, .string xk, .string xb, .int .i64 xm, .bool xf] 78)) from (Below.refl _ _).alloc n! _)
 have X := h! (Box.new w 78 #[.int .i64 xi, .slice P xg.length q, .int .i64 xt, .string xk, .string xb, .int .i64 xm, .bool xf])
 clear h hx
 go_enter Tryz.func118, Tryz.ntmps118
 go_upto_region 1 with (fail)
 generalize w.alloc (.cells #[.int .i64 xi, .slice P xg.length q, .int .i64 xt, .string xk, .string xb, .int .i64 xm, .bool xf] 78) = w1 at HB X ⊢
 have hbw1 : b ≤ w1.heap.size := Nat.le_trans hb HB.out.size
 have hww1 : w.heap.size ≤ w1.heap.size := HB.out.size
 obtain ⟨g, hg⟩ : ∃ g, w.heap.size = g := ⟨_, rfl⟩
 rw [hg] at X
 simp only [hg]
 have HGG := h! hg
 clear hg
 go_wp2_with fail
 go_loopw [5, 6] (fun s i wr => ∃ k : Nat, ∃ A9 n9 c9, k ≤ n ∧ s = .slice A9 n9 c9 ∧ i = .int .i64 k ∧ Below w1.heap.size w1 wr ∧ Hid (Grow w1.heap.size b A9 n9 c9 ((l.take k).filter (fun y => decide (y.m.id < xi))) wr)) (fun _ i _ => n - (intOf i).toNat)
 case atStart => exact ⟨0, none, 0, 0, by omega, rfl, rfl, Below.refl _ _, h! (by simpa using grow_nil w1.heap.size b w1)⟩
 case round =>
  obtain ⟨k, A9, n9, c9, hk, rfl, rfl, hB, HG⟩ := hrel
  have HB2 := h! (bmore HB.out hB n!)
  have HBr := h! hB
  obtain ⟨z0, z1, z2, z3, z4, z5, z6⟩ := box_wt (X.out.below HBr.out X.out.lt)
  clear hB
  have hn9 : n9 ≤ 4096 := by
   have h1 := HG.out.len
   have h2 := List.length_filter_le (p := fun y : Wt => decide (y.m.id < xi)) (l.take k)
   rw [List.length_take] at h2
   omega
  by_cases hlt : k < n
  ·obtain ⟨a, ha⟩ : ∃ a, l[k]? = some a := ⟨_, List.getElem?_eq_getElem (by have := HLA.out; omega)⟩
   have HA := h! ha
   obtain ⟨bl, o, P, q, rfl, _, hbl, hat, hrow⟩ := wtsG_at H0.out ha
   have HRW := h! (And.intro hrow (fun ad (e : P = some ad) hn => row_lt hrow.1 e hn))
   have HAT := h! (fun W (hb : Below wr.heap.size wr W) => hat.below hbl (bmore HB2.out hb n!))
   obtain ⟨a0, a1, a2, a3, a4, a5, a6⟩ := HAT.out _ (Below.refl _ _)
   clear ha hat hrow hbl
   have hk0 : (0 : Int) ≤ (k : Int) := by omega
   have hkn : (k : Int) < (n : Int) := by omega
   have HP1 := h! (filter_take (p := fun y : Wt => decide (y.m.id < xi)) HA.out)
   by_cases hc : (a.m.id < xi)
   ·have HP := h! (show (l.take (k + 1)).filter (fun y => decide (y.m.id < xi)) = (l.take k).filter (fun y => decide (y.m.id < xi)) ++ [a] by rw [HP1.out, if_pos (decide_eq_true hc)])
    obtain ⟨⟨ai, ag, at_, ak, ab⟩, am, af⟩ := a
    simp only at a0 a1 a2 a3 a4 a5 a6 hc HRW HAT
    go_wp2_with fail
    go_region
    have hdr : Below wr.heap.size wr wr.drew := (Below.refl _ _).drew
    have HK0 := h! (HG.out.below hdr)
    have HRW3 := h! (HRW.out.1.below (bmore HB2.out hdr n!))
    have HNE3 := h! (show ∀ ad, P = some ad → 0 < ag.length → (Value.slice A9 n9 c9).ownBlock ≠ some ad.block from fun ad e hn kk => by have h1 := HG.out.2 _ kk; have h2 := HRW.out.2 ad e hn; omega)
    have HBS3 := h! (show b ≤ wr.drew.heap.size from Nat.le_trans hbw1 HBr.out.size)
    have hat2 := HAT.out _ hdr
    clear a0 a1 a2 a3 a4 a5 a6 z0 z1 z2 z3 z4 z5 z6
    generalize wr.drew = wd at hdr HK0 HRW3 HBS3 hat2 ⊢
    obtain ⟨a0, a1, a2, a3, a4, a5, a6⟩ := hat2
    simp only at a0 a1 a2 a3 a4 a5 a6
    go_wp2_with (at_builtin; refine wpList_append_ko rfl _ _ 37 rfl 78 j0 _ 88 Tryz.underlying37 hj hy0 hy1 hy2 rfl rfl (HK0.out).1 rfl #[.int .i64 ai, .slice P ag.length q, .int .i64 at_, .string ak, .string ab, .int .i64 am, .bool af] (show _ = KW.cel P q ⟨⟨ai, ag, at_, ak, ab⟩, am, af⟩ from rfl) (HRW3.out) (HNE3.out) (by unfold maxLen; omega) (by omega) HBS3.out ?_; intro A7 c7 w6 hko hgr hob; have HKO := h! hko; have HGR := h! hgr; have HOB := h! hob; clear hko hgr hob)
    obtain ⟨hn1, hn2⟩ := grow_step HK0.out (show w1.heap.size ≤ wd.heap.size from Nat.le_trans HBr.out.size hdr.size) hbw1 HKO.out HGR.out HOB.out
    rw [← HP.out] at hn1
    have HN1 := h! hn1
    have HN2 := h! ((bmore HBr.out hdr n!).trans hn2)
    clear hn1 hn2
    go_roundw
    case rel => exact ⟨k + 1, A7, n9 + 1, c7, by omega, rfl, by go_num, HN2.out, HN1⟩
    case measure => simp [intOf]; omega
   ·have HP := h! (show (l.take (k + 1)).filter (fun y => decide (y.m.id < xi)) = (l.take k).filter (fun y => decide (y.m.id < xi)) by rw [HP1.out, if_neg (by simpa using hc), List.append_nil])
    have HN1 := HG.out
    rw [← HP.out] at HN1
    have HN := h! HN1
    clear HN1
    obtain ⟨⟨ai, ag, at_, ak, ab⟩, am, af⟩ := a
    simp only at a0 a1 a2 a3 a4 a5 a6 hc
    go_wp2_with fail
    go_region
    have HN1 := h! (HN.out.below ((Below.refl _ _).drew))
    have HN2 := h! (bmore HBr.out ((Below.refl _ _).drew) n!)
    go_wp2_with fail
    go_roundw
    case rel => exact ⟨k + 1, A9, n9, c9, by omega, rfl, by go_num, HN2.out, HN1⟩
    case measure => simp [intOf]; omega
  ·have HGF := h! (show Grow w1.heap.size b A9 n9 c9 (l.filter (fun y => decide (y.m.id < xi))) wr by
    have := HG.out
    rwa [List.take_of_length_le (by have := HLA.out; omega)] at this)
   obtain ⟨z0, z1, z2, z3, z4, z5, z6⟩ := box_wt (X.out.below HBr.out X.out.lt)
   have HRW3 := h! (HXR.out.1.below HB2.out)
   have HNE3 := h! (show ∀ ad, P = some ad → 0 < xg.length → (Value.slice A9 n9 c9).ownBlock ≠ some ad.block from fun ad e hn kk => by have h1 := HGF.out.2 _ kk; have h2 := HXR.out.2 ad e hn; omega)
   have HBS3 := h! (show b ≤ wr.heap.size from Nat.le_trans hbw1 HBr.out.size)
   go_wp2_with (at_builtin; refine wpList_append_ko rfl _ _ 37 rfl 78 j0 _ 88 Tryz.underlying37 hj hy0 hy1 hy2 rfl rfl (HGF.out).1 rfl #[.int .i64 xi, .slice P xg.length q, .int .i64 xt, .string xk, .string xb, .int .i64 xm, .bool xf] (show _ = KW.cel P q ⟨⟨xi, xg, xt, xk, xb⟩, xm, xf⟩ from rfl) (HRW3.out) (HNE3.out) (by unfold maxLen; omega) (by omega) HBS3.out ?_; intro A7 c7 w6 hko hgr hob; have HKO := h! hko; have HGR := h! hgr; have HOB := h! hob; clear hko hgr hob)
   obtain ⟨hn1, hn2⟩ := grow_step HGF.out (show w1.heap.size ≤ wr.heap.size from HBr.out.size) hbw1 HKO.out HGR.out HOB.out
   have HG6 := h! hn1
   have HB6 := h! (HBr.out.trans hn2)
   clear hn1 hn2 z0 z1 z2 z3 z4 z5 z6
   go_loopw [5, 7] (fun s i wr => ∃ k : Nat, ∃ A9 n9 c9, k ≤ n ∧ s = .slice A9 n9 c9 ∧ i = .int .i64 k ∧ Below w1.heap.size w1 wr ∧ Hid (Grow w1.heap.size b A9 n9 c9 ((l.filter (fun y => decide (y.m.id < xi)) ++ [⟨⟨xi, xg, xt, xk, xb⟩, xm, xf⟩]) ++ (l.take k).filter (fun y => decide (xi < y.m.id))) wr)) (fun _ i _ => n - (intOf i).toNat)
   case atStart => exact ⟨0, A7, n9 + 1, c7, by omega, rfl, rfl, HB6.out, h! (by simpa using HG6.out)⟩
   case round =>
    clear HG6 HB6 HKO HGR HOB HGF HRW3 HNE3 HBS3 HG HBr HB2 hn9 hlt
    obtain ⟨k, A9, n9, c9, hk, rfl, rfl, hB, HG⟩ := hrel
    have HB2 := h! (bmore HB.out hB n!)
    have HBr := h! hB
    obtain ⟨z0, z1, z2, z3, z4, z5, z6⟩ := box_wt (X.out.below HBr.out X.out.lt)
    clear hB
    have hn9 : n9 ≤ 9000 := by
     have h1 := HG.out.len
     have h3 := List.length_filter_le (p := fun y : Wt => decide (y.m.id < xi)) l
     rw [List.length_append, List.length_append, List.length_singleton] at h1
     have h4 := HLA.out
     have h2 := List.length_filter_le (p := fun y : Wt => decide (xi < y.m.id)) (l.take k)
     rw [List.length_take] at h2
     omega
    by_cases hlt : k < n
    ·obtain ⟨a, ha⟩ : ∃ a, l[k]? = some a := ⟨_, List.getElem?_eq_getElem (by have := HLA.out; omega)⟩
     have HA := h! ha
     obtain ⟨bl, o, P, q, rfl, _, hbl, hat, hrow⟩ := wtsG_at H0.out ha
     have HRW := h! (And.intro hrow (fun ad (e : P = some ad) hn => row_lt hrow.1 e hn))
     have HAT := h! (fun W (hb : Below wr.heap.size wr W) => hat.below hbl (bmore HB2.out hb n!))
     obtain ⟨a0, a1, a2, a3, a4, a5, a6⟩ := HAT.out _ (Below.refl _ _)
     clear ha hat hrow hbl
     have hk0 : (0 : Int) ≤ (k : Int) := by omega
     have hkn : (k : Int) < (n : Int) := by omega
     have HP1 := h! (filter_take (p := fun y : Wt => decide (xi < y.m.id)) HA.out)
     by_cases hc : (xi < a.m.id)
     ·have HP := h! (show (l.filter (fun y => decide (y.m.id < xi)) ++ [⟨⟨xi, xg, xt, xk, xb⟩, xm, xf⟩]) ++ (l.take (k + 1)).filter (fun y => decide (xi < y.m.id)) = (l.filter (fun y => decide (y.m.id < xi)) ++ [⟨⟨xi, xg, xt, xk, xb⟩, xm, xf⟩]) ++ (l.take k).filter (fun y => decide (xi < y.m.id)) ++ [a] by rw [HP1.out, if_pos (decide_eq_true hc), ← List.append_assoc])
      obtain ⟨⟨ai, ag, at_, ak, ab⟩, am, af⟩ := a
      simp only at a0 a1 a2 a3 a4 a5 a6 hc HRW HAT
      go_wp2_with fail
      go_region
      have hdr : Below wr.heap.size wr wr.drew := (Below.refl _ _).drew
      have HK0 := h! (HG.out.below hdr)
      have HRW3 := h! (HRW.out.1.below (bmore HB2.out hdr n!))
      have HNE3 := h! (show ∀ ad, P = some ad → 0 < ag.length → (Value.slice A9 n9 c9).ownBlock ≠ some ad.block from fun ad e hn kk => by have h1 := HG.out.2 _ kk; have h2 := HRW.out.2 ad e hn; omega)
      have HBS3 := h! (show b ≤ wr.drew.heap.size from Nat.le_trans hbw1 HBr.out.size)
      have hat2 := HAT.out _ hdr
      clear a0 a1 a2 a3 a4 a5 a6 z0 z1 z2 z3 z4 z5 z6
      generalize wr.drew = wd at hdr HK0 HRW3 HBS3 hat2 ⊢
      obtain ⟨a0, a1, a2, a3, a4, a5, a6⟩ := hat2
      simp only at a0 a1 a2 a3 a4 a5 a6
      go_wp2_with (at_builtin; refine wpList_append_ko rfl _ _ 37 rfl 78 j0 _ 88 Tryz.underlying37 hj hy0 hy1 hy2 rfl rfl (HK0.out).1 rfl #[.int .i64 ai, .slice P ag.length q, .int .i64 at_, .string ak, .string ab, .int .i64 am, .bool af] (show _ = KW.cel P q ⟨⟨ai, ag, at_, ak, ab⟩, am, af⟩ from rfl) (HRW3.out) (HNE3.out) (by unfold maxLen; omega) (by omega) HBS3.out ?_; intro A7 c7 w6 hko hgr hob; have HKO := h! hko; have HGR := h! hgr; have HOB := h! hob; clear hko hgr hob)
      obtain ⟨hn1, hn2⟩ := grow_step HK0.out (show w1.heap.size ≤ wd.heap.size from Nat.le_trans HBr.out.size hdr.size) hbw1 HKO.out HGR.out HOB.out
      rw [← HP.out] at hn1
      have HN1 := h! hn1
      have HN2 := h! ((bmore HBr.out hdr n!).trans hn2)
      clear hn1 hn2
      go_roundw
      case rel => exact ⟨k + 1, A7, n9 + 1, c7, by omega, rfl, by go_num, HN2.out, HN1⟩
      case measure => simp [intOf]; omega
     ·have HP := h! (show (l.take (k + 1)).filter (fun y => decide (xi < y.m.id)) = (l.take k).filter (fun y => decide (xi < y.m.id)) by rw [HP1.out, if_neg (by simpa using hc), List.append_nil])
      have HN1 := HG.out
      rw [← HP.out] at HN1
      have HN := h! HN1
      clear HN1
      obtain ⟨⟨ai, ag, at_, ak, ab⟩, am, af⟩ := a
      simp only at a0 a1 a2 a3 a4 a5 a6 hc
      go_wp2_with fail
      go_region
      have HN1 := h! (HN.out.below ((Below.refl _ _).drew))
      have HN2 := h! (bmore HBr.out ((Below.refl _ _).drew) n!)
      go_wp2_with fail
      go_roundw
      case rel => exact ⟨k + 1, A9, n9, c9, by omega, rfl, by go_num, HN2.out, HN1⟩
      case measure => simp [intOf]; omega
    ·have HF := h! (show Grow w1.heap.size b A9 n9 c9 res wr by
      have := HG.out
      rw [List.take_of_length_le (by have := HLA.out; omega)] at this
      rw [HINS.out]
      exact this)
     go_wp2_with fail
     go_ret
     exact ⟨A9, n9, c9, rfl, HF.out.1, HB2.out⟩
end Go.Proofs.YteebeiaokfenmaaGreat.KP

namespace Go.Proofs.YteebeiaokfenmaaGreat.CP
open Go.RowKit
open CM (Mg Cm)
set_option linter.unusedVariables false
set_option linter.unusedSimpArgs false
set_option maxRecDepth 100000
def NumAt (w : World) (g : Nat) (l : List UInt8) : Prop := ∃ A n c, Box w g 120 #[.slice A n c] ∧ Src w g A n c l
def KeepN (w w' : World) (g : Nat) : Prop := ∃ w1 u, Below w.heap.size w w1 ∧ w' = w1.setCell ⟨g, 0, none⟩ u
theorem numAt_put {w : World} {g : Nat} {A : Option Addr} {n c : Nat} {l : List UInt8} {v : Value} (b : Box w g 120 #[v]) (h : Src w g A n c l) : NumAt (w.setCell ⟨g, 0, none⟩ (.slice A n c)) g l := by
 refine ⟨A, n, c, ?_, h.below ((Below.refl g w).setCell (p := ⟨g, 0, none⟩) (Nat.le_refl g) _)⟩
 have := b.stored 0 (.slice A n c)
 simpa using this
def NumPost (w : World) (g : Nat) (l : List UInt8) (e : Ending) (w' : World) : Prop := e = .returned (.int .i64 (RM.gt l).1) ∧ NumAt w' g (RM.gt l).2 ∧ KeepN w w' g
def TxtPost (w : World) (g : Nat) (l : List UInt8) (e : Ending) (w' : World) : Prop := e = .returned (.string ⟨(gx l).1.toArray⟩) ∧ NumAt w' g (gx l).2 ∧ KeepN w w' g
def LstPost (w : World) (g most : Nat) (l : List UInt8) (e : Ending) (w' : World) : Prop :=
 ∃ B d, e = .returned (.slice B (gl most l).1.length d) ∧ RowGe w' w.heap.size B d (CM.zs (gl most l).1) ∧ NumAt w' g (gl most l).2 ∧ KeepN w w' g
theorem keepN_one (w : World) (g : Nat) (u : Value) : KeepN w (w.setCell ⟨g, 0, none⟩ u) g := ⟨w, u, Below.refl _ _, rfl⟩
set_option maxHeartbeats 1000000 in
theorem number_any (g : Nat) (l : List UInt8) (w : World) (h : NumAt w g l) : Calls Tryz.prog 123 #[.pointer (some ⟨g, 0, none⟩)] w (NumPost w g l) := by
 obtain ⟨A, n, c, b, hs⟩ := h
 have hl := src_len hs
 have hn := hs.2.1
 have hc := hs.2.2.1
 have G := h! (get_any A n c l w hs.1 (by omega))
 have c1 := b.cell 0
 have f1 := b.frozen 0
 simp at c1
 unfold maxLen at hc
 rcases hd : NM.dec l with _ | ⟨x, k⟩
 ·have S := h! hs
  have B := h! b
  have HD := h! (show RM.gt l = (0, l) by unfold RM.gt; rw [hd])
  rw [hd] at G
  clear hs b hd hl
  go_enter Tryz.func123, Tryz.ntmps123
  go_wp2_with fail
  refine (G.out).mono ?_
  rintro e w1 ⟨rfl, rfl⟩
  unfold getRes
  go_wp2_with fail
  go_ret
  refine ⟨by rw [HD.out]; rfl, ?_, keepN_one _ _ _⟩
  rw [HD.out]
  exact numAt_put B.out S.out
 ·have hk := (NM.dec_bound l x k hd).2.2.1
  rw [hl] at hk
  have S := h! (hs.cut hk)
  have B := h! b
  have HD := h! (show RM.gt l = (x, l.drop k) by unfold RM.gt; rw [hd])
  rw [hd] at G
  clear hs b hd hl
  by_cases hck : c = k
  ·rw [if_pos hck] at S
   subst hck
   rw [Nat.sub_self, show n - c = 0 by omega] at S
   go_enter Tryz.func123, Tryz.ntmps123
   go_wp2_with fail
   refine (G.out).mono ?_
   rintro e w1 ⟨rfl, rfl⟩
   unfold getRes
   go_wp2_with fail
   go_ret
   refine ⟨by rw [HD.out]; rfl, ?_, keepN_one _ _ _⟩
   rw [HD.out]
   exact numAt_put B.out S.out
  ·rw [if_neg hck] at S
   go_enter Tryz.func123, Tryz.ntmps123
   go_wp2_with fail
   refine (G.out).mono ?_
   rintro e w1 ⟨rfl, rfl⟩
   unfold getRes
   go_wp2_with fail
   go_ret
   refine ⟨by rw [HD.out]; rfl, ?_, keepN_one _ _ _⟩
   rw [HD.out]
   exact numAt_put B.out S.out
set_option maxHeartbeats 1000000 in
theorem text_any (g : Nat) (l : List UInt8) (w : World) (h : NumAt w g l) : Calls Tryz.prog 127 #[.pointer (some ⟨g, 0, none⟩)] w (TxtPost w g l) := by
 obtain ⟨A, n, c, b, hs⟩ := h
 have hl := src_len hs
 have hn := hs.2.1
 have hc := hs.2.2.1
 have G := h! (getText_any A n c l w hs.1 hn hc)
 have c1 := b.cell 0
 have f1 := b.frozen 0
 simp at c1
 unfold maxLen at hc
 rcases hd : NM.getText l with _ | ⟨x, k⟩
 ·have S := h! hs
  have B := h! b
  have HD := h! (show gx l = ([], l) by unfold gx; rw [hd])
  rw [hd] at G
  clear hs b hd hl
  go_enter Tryz.func127, Tryz.ntmps127
  go_wp2_with fail
  refine (G.out).mono ?_
  rintro e w1 ⟨rfl, rfl⟩
  unfold textRes
  go_wp2_with fail
  go_ret
  refine ⟨by rw [HD.out]; rfl, ?_, keepN_one _ _ _⟩
  rw [HD.out]
  exact numAt_put B.out S.out
 ·have hk := (NM.text_getText l x k hd).2.1
  rw [hl] at hk
  have S := h! (hs.cut hk)
  have B := h! b
  have HD := h! (show gx l = (x, l.drop k) by unfold gx; rw [hd])
  rw [hd] at G
  clear hs b hd hl
  by_cases hck : c = k
  ·rw [if_pos hck] at S
   subst hck
   rw [Nat.sub_self, show n - c = 0 by omega] at S
   go_enter Tryz.func127, Tryz.ntmps127
   go_wp2_with fail
   refine (G.out).mono ?_
   rintro e w1 ⟨rfl, rfl⟩
   unfold textRes
   go_wp2_with fail
   go_ret
   refine ⟨by rw [HD.out]; rfl, ?_, keepN_one _ _ _⟩
   rw [HD.out]
   exact numAt_put B.out S.out
  ·rw [if_neg hck] at S
   go_enter Tryz.func127, Tryz.ntmps127
   go_wp2_with fail
   refine (G.out).mono ?_
   rintro e w1 ⟨rfl, rfl⟩
   unfold textRes
   go_wp2_with fail
   go_ret
   refine ⟨by rw [HD.out]; rfl, ?_, keepN_one _ _ _⟩
   rw [HD.out]
   exact numAt_put B.out S.out
theorem lst_fin {w w1 : World} {g : Nat} {A : Option Addr} {n c : Nat} {l : List UInt8} {v : Value} (hg : g < w.heap.size) (hb : Below w.heap.size w w1) (b : Box w g 120 #[v]) (h : Src w g A n c l) : NumAt (w1.setCell ⟨g, 0, none⟩ (.slice A n c)) g l :=
 numAt_put (b.below hb b.lt) (h.below (hb.mono (Nat.le_of_lt hg)))
set_option maxHeartbeats 1000000 in
theorem list_any (g most : Nat) (l : List UInt8) (w : World) (h : NumAt w g l) (hmost : most ≤ 4096) : Calls Tryz.prog 125 #[.int .i64 most, .pointer (some ⟨g, 0, none⟩)] w (LstPost w g most l) := by
 obtain ⟨A, n, c, b, hs⟩ := h
 have hl := src_len hs
 have hn := hs.2.1
 have hc := hs.2.2.1
 have G := h! (getInts_any A n c most l w hs.1 hn hc hmost)
 have HGL := h! b.lt
 have c1 := b.cell 0
 simp at c1
 unfold maxLen at hc
 rcases hd : NM.getInts l most with _ | ⟨x, k⟩
 ·have S := h! hs
  have B := h! b
  have HD := h! (show gl most l = ([], l) by unfold gl; rw [hd])
  rw [hd] at G
  clear hs b hd hl
  go_enter Tryz.func125, Tryz.ntmps125
  go_wp2_with fail
  refine (G.out).mono ?_
  rintro e w1 ⟨hb, ⟨_, rfl⟩ | ⟨_, _, _, h, _⟩⟩
  ·have b1 := B.out.below hb HGL.out
   have d1 := b1.cell 0
   have f1 := b1.frozen 0
   simp at d1
   have HB := h! hb
   clear hb b1
   go_wp2_with fail
   go_ret
   refine ⟨none, 0, by rw [HD.out]; rfl, ?_, ?_, ⟨w1, _, HB.out, rfl⟩⟩
   ·rw [HD.out]
    exact RowGe.none _ _
   ·rw [HD.out]
    exact lst_fin HGL.out HB.out B.out S.out
  ·cases h
 ·have hk := (NM.ints_getInts l most x k hd).2.2.1
  rw [hl] at hk
  have S := h! (hs.cut hk)
  have B := h! b
  have HD := h! (show gl most l = (x, l.drop k) by unfold gl; rw [hd])
  rw [hd] at G
  clear hs b hd hl
  by_cases hck : c = k
  ·rw [if_pos hck] at S
   subst hck
   rw [Nat.sub_self, show n - c = 0 by omega] at S
   go_enter Tryz.func125, Tryz.ntmps125
   go_wp2_with fail
   refine (G.out).mono ?_
   rintro e w1 ⟨hb, ⟨h, _⟩ | ⟨xs, k', u, h, rfl, ho⟩⟩
   ·cases h
   ·injection h with h
    injection h with h1 h2
    subst h1 h2
    obtain ⟨B2, d2, rfl, hd1, hd2⟩ := own_slice ho
    have HR := h! (rowGe_own (l := CM.zs x) ho (by simp [CM.zs]) (by simp [CM.zs]; exact hd1) hd2)
    have b1 := B.out.below hb HGL.out
    have e1 := b1.cell 0
    have f1 := b1.frozen 0
    simp at e1
    have HB := h! hb
    clear hb b1 ho hd1 hd2
    go_wp2_with fail
    go_ret
    refine ⟨B2, d2, by rw [HD.out]; rfl, ?_, ?_, ⟨w1, _, HB.out, rfl⟩⟩
    ·rw [HD.out]
     exact HR.out.set HGL.out _
    ·rw [HD.out]
     exact lst_fin HGL.out HB.out B.out S.out
  ·rw [if_neg hck] at S
   go_enter Tryz.func125, Tryz.ntmps125
   go_wp2_with fail
   refine (G.out).mono ?_
   rintro e w1 ⟨hb, ⟨h, _⟩ | ⟨xs, k', u, h, rfl, ho⟩⟩
   ·cases h
   ·injection h with h
    injection h with h1 h2
    subst h1 h2
    obtain ⟨B2, d2, rfl, hd1, hd2⟩ := own_slice ho
    have HR := h! (rowGe_own (l := CM.zs x) ho (by simp [CM.zs]) (by simp [CM.zs]; exact hd1) hd2)
    have b1 := B.out.below hb HGL.out
    have e1 := b1.cell 0
    have f1 := b1.frozen 0
    simp at e1
    have HB := h! hb
    clear hb b1 ho hd1 hd2
    go_wp2_with fail
    go_ret
    refine ⟨B2, d2, by rw [HD.out]; rfl, ?_, ?_, ⟨w1, _, HB.out, rfl⟩⟩
    ·rw [HD.out]
     exact HR.out.set HGL.out _
    ·rw [HD.out]
     exact lst_fin HGL.out HB.out B.out S.out
end Go.Proofs.YteebeiaokfenmaaGreat.CP
