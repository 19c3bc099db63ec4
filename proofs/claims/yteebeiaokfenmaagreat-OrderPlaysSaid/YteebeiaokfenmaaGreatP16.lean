/- Contracts of functions, P16: each as its theorem says. -/
import Derived.Test.YteebeiaokfenmaaGreatP15
import Derived.Deep.MidRow
set_option linter.unusedVariables false
set_option linter.unusedSimpArgs false
set_option maxRecDepth 100000
set_option maxHeartbeats 16000000
namespace Go.Proofs.YteebeiaokfenmaaGreat
namespace LP
open Go.RowKit CP
open CM (Cm Mg)
theorem info_cm : (Tryz.prog.info? 91).map (fun i => (i.zero, i.size, i.bytes)) = some (some (.agg #[.int .u8 0, .int .i64 0, .slice none 0 0, .int .i64 0, .string ⟨#[]⟩, .string ⟨#[]⟩, .int .i64 0, .int .i64 0, .slice none 0 0, .int .i64 0, .int .i64 0, .int .i64 0]), 12, 144) := by kernel_rfl
theorem own_lt {w : World} {b n : Nat} {v : Value} {xs : List Value} {g : Nat} (h : w.ownsRow b 91 12 v n xs) (hg : v.ownBlock = some g) : g < w.heap.size := by
 obtain ⟨_, cur, hc⟩ := own_block h hg
 exact hc.lt
theorem cmds_take (l : List ByteArray) (k : Nat) (h : k < l.length) : LM.cmds (l.take (k + 1)) = LM.cmds (l.take k) ++ [LM.cm l[k]] := by
 unfold LM.cmds
 rw [List.take_succ_eq_append_getElem h, List.map_append]
 rfl
theorem all13_any (A : Option Addr) (n c : Nat) (l : List ByteArray) (w : World) (h : TxIs w A n c l) (h5 : n ≤ 100000) :
  Calls Tryz.prog 96 #[.slice A n c] w fun e w' => ∃ v, e = .returned v ∧ CmsO w' w.heap.size v (LM.cmds l) ∧ Below w.heap.size w w' := by
 obtain ⟨i0, hi, hz0, hz1, hz2⟩ := info_parts info_cm
 have HT := h! h
 have HL := h! h.len
 clear h
 go_enter Tryz.func96, Tryz.ntmps96
 go_wp2
 go_loopw [3, 4] (fun u i wr => ∃ k : Nat, k ≤ n ∧ i = .int .i64 k ∧ Below w.heap.size w wr ∧ CmsO wr w.heap.size u (LM.cmds (l.take k))) (fun _ i _ => n - (intOf i).toNat)
 case atStart => exact ⟨0, by omega, rfl, Below.refl _ _, cmsO_nil _ _⟩
 case round =>
  obtain ⟨k, hk, rfl, hB, hC⟩ := hrel
  have HB := h! hB
  have HLE := h! hB.size
  clear hB
  by_cases hlt : k < n
  ·have hkz : k < l.length := by have := HL.out; omega
   have hr := (HT.out.below HB.out).1
   obtain ⟨ad, uu, rfl, _, hu, hcell⟩ := hr.at_ hlt
   rw [tcx_at l k hkz] at hu
   injection hu with hu
   subst hu
   have hsz := HT.out.2.2.2 _ (List.getElem_mem hkz)
   have HN := h! (cmds_take l k hkz)
   obtain ⟨z, hz⟩ : ∃ z, z = l[k] := ⟨_, rfl⟩
   rw [← hz] at hcell hsz HN
   clear hz hr
   have CR := h! (rd13 z hsz wr)
   have HC := h! hC
   clear hC hsz
   generalize LM.er z = y at CR
   generalize LM.cm z = x at CR HN
   obtain ⟨k0, ⟨mi, mg, mt, mk, mb⟩, aid, atm, ams, atp, awh, an⟩ := x
   go_wp2_with fail
   refine (CR.out).mono ?_
   rintro e1 w2 ⟨v, rfl, ⟨A1, c1, P, q, rfl, r1, r3⟩, hb⟩
   simp only at r1 r3
   unfold ccells
   have hb2 : Below w2.heap.size w2 ((w2.alloc (.cells #[.int .u8 k0, .int .i64 mi, .slice A1 mg.length c1, .int .i64 mt, .string mk, .string mb, .int .i64 aid, .int .i64 atm, .slice P ams.length q, .int .i64 atp, .int .i64 awh, .int .i64 an] 91)).alloc (.cells #[.int .u8 k0, .int .i64 mi, .slice A1 mg.length c1, .int .i64 mt, .string mk, .string mb, .int .i64 aid, .int .i64 atm, .slice P ams.length q, .int .i64 atp, .int .i64 awh, .int .i64 an] 91)) := ((Below.refl _ _).alloc n! _).alloc (by simp) _
   have hb3 := bmore hb hb2 n!
   replace HB := h! (bmore HB.out hb3 n!)
   have HX := h! (show Box ((w2.alloc (.cells #[.int .u8 k0, .int .i64 mi, .slice A1 mg.length c1, .int .i64 mt, .string mk, .string mb, .int .i64 aid, .int .i64 atm, .slice P ams.length q, .int .i64 atp, .int .i64 awh, .int .i64 an] 91)).alloc (.cells #[.int .u8 k0, .int .i64 mi, .slice A1 mg.length c1, .int .i64 mt, .string mk, .string mb, .int .i64 aid, .int .i64 atm, .slice P ams.length q, .int .i64 atp, .int .i64 awh, .int .i64 an] 91)) (w2.heap.size + 1) 91 #[.int .u8 k0, .int .i64 mi, .slice A1 mg.length c1, .int .i64 mt, .string mk, .string mb, .int .i64 aid, .int .i64 atm, .slice P ams.length q, .int .i64 atp, .int .i64 awh, .int .i64 an] from Box.new_at _ (by simp))
   obtain ⟨lst, g1, g2, g3⟩ := HC.out
   have hlt2 : ∀ g, u3.ownBlock = some g → g < wr.heap.size := fun g hg => own_lt g2 hg
   have N1 : Hid (∀ ad, A1 = some ad → 0 < mg.length → u3.ownBlock ≠ some ad.block) := h! (fun ad e hn q => by have := hlt2 _ q; have := r1.2 ad e hn; omega)
   have N2 : Hid (∀ ad, P = some ad → 0 < ams.length → u3.ownBlock ≠ some ad.block) := h! (fun ad e hn q => by have := hlt2 _ q; have := r3.2 ad e hn; omega)
   have HG1 := h! g1
   have HO := h! (own_below3 g2 hb3)
   have HRs := h! (g3.below hb3)
   have H1 := h! (r1.below hb2)
   have H2 := h! (r3.below hb2)
   have hll : lst.length ≤ 100000 := by have := congrArg List.length g1; simp [LM.cmds] at this; omega
   clear hb hb2 hb3 r1 r3 CR hcell g1 g2 g3 hlt2
   go_wp2_with (at_builtin; refine wpList_append_g _ rfl _ _ 73 rfl w.heap.size 91 i0 _ 12 144 Tryz.underlying73 hi hz0 hz1 hz2 rfl (by omega) _ _ _ rfl HO.out (some ⟨w2.heap.size + 1, 0, none⟩) 1 1 (ecell ⟨A1, c1, P, q, ⟨k0, ⟨mi, mg, mt, mk, mb⟩, aid, atm, ams, atp, awh, an⟩⟩) rfl (rdG_box HX.out rfl rfl) (ecell_one _) (by unfold maxLen; omega) (by omega) (by have := HB.out.size; exact this) ?_; intro v2 w5 hown2 hg2 hob2)
   have hnext := cmsO_next lst HG1.out HRs.out (H1.out.mono HLE.out) (H2.out.mono HLE.out) N1.out N2.out hg2 hown2 hob2
   have hB5 := below_row HB.out HO.out HB.out.size hg2
   clear hown2 hg2 hob2
   rw [← HN.out] at hnext
   go_roundw
   case rel => exact ⟨k + 1, by omega, by go_num, hB5, hnext⟩
   case measure => simp [intOf]; omega
  ·have hd : l.take k = l := List.take_of_length_le (by have := HL.out; omega)
   have HC := h! (hd ▸ hC)
   clear hC hd
   go_wp2
   go_ret
   exact ⟨_, rfl, HC.out, HB.out⟩
theorem coIs_bad {l : List ByteArray} {w w' : World} {r : Int} (hr : LM.chk l = r) (h0 : r ≠ 0) (hb : Below w.heap.size w w') : CoIs l w (.returned (.tuple #[.slice none 0 0, .int .i64 r])) w' :=
 ⟨hb, .inl ⟨by rw [hr]; exact h0, by rw [hr]⟩⟩
theorem coIs_ok {l : List ByteArray} {w w' : World} {v : Value} (hr : LM.chk l = 0) (hv : CmsO w' w.heap.size v (LM.cmds l)) (hb : Below w.heap.size w w') : CoIs l w (.returned (.tuple #[v, .int .i64 0])) w' :=
 ⟨hb, .inr ⟨hr, v, rfl, hv⟩⟩
theorem pcommands_any (A : Option Addr) (n c : Nat) (l : List ByteArray) (w : World) (h : TxIs w A n c l) :
  Calls Tryz.prog 55 #[.slice A n c] w (CoIs l w) := by
 have hl := h.len
 have hm := h.2.2.1
 have hnc := h.2.1
 have hn : n ≤ 9223372036854775807 := by unfold maxLen at hm; omega
 by_cases h200 : 200 < n
 ·have he : LM.chk l = 4 := by unfold LM.chk; rw [if_pos (by omega)]
  have HE := h! he
  clear h hl hm he hnc
  go_enter Tryz.func55, Tryz.ntmps55
  go_wp2
  go_ret2
  exact coIs_bad HE.out (by decide) (Below.refl _ _)
 have h200' : n ≤ 200 := by omega
 clear h200
 obtain ⟨i0, hi, hz0, hz1, hz2⟩ := info_parts info_cm
 obtain ⟨r, hrr⟩ : ∃ r, r = LM.chk l := ⟨_, rfl⟩
 have hst : LM.chkF (l.drop 0) = r := by rw [hrr]; unfold LM.chk; rw [if_neg (by omega)]; rfl
 have HS := h! hst
 have HR0 := h! hrr.symm
 have HT := h! h
 have HL := h! hl
 clear hrr hst h hl hm hnc
 go_enter Tryz.func55, Tryz.ntmps55
 go_wp2_with (at_make; refine wpList_make_own _ rfl _ _ 73 rfl w.heap.size 91 i0 _ 12 Tryz.underlying73 hi hz0 hz1 .i64 .i64 _ n rfl rfl rfl (by rw [hz2]; omega) (by unfold maxLen; omega) n! ?_; intro w1 hown1 hg1; have HB1 := h! (below_of_grown hg1 (by simp)); have HC1 := h! (show CmsO w1 w.heap.size (.slice (some ⟨w.heap.size, 0, none⟩) 0 n) (LM.cmds (l.take 0)) from ⟨[], rfl, hown1, fun e he => by cases he⟩); clear hown1 hg1)
 go_loopw [4, 17] (fun u i wr => ∃ k : Nat, k ≤ n ∧ i = .int .i64 k ∧ Below w.heap.size w wr ∧ CmsO wr w.heap.size u (LM.cmds (l.take k)) ∧ Hid (LM.chkF (l.drop k) = r)) (fun _ i _ => n - (intOf i).toNat)
 case atStart => exact ⟨0, by omega, rfl, HB1.out, HC1.out, HS⟩
 case round =>
  clear HS
  obtain ⟨k, hk, rfl, hB, hC, HR⟩ := hrel
  have HB := h! hB
  have HLE := h! hB.size
  clear hB
  by_cases hlt : k < n
  ·have hkz : k < l.length := by have := HL.out; omega
   have hr := (HT.out.below HB.out).1
   obtain ⟨ad, uu, rfl, _, hu, hcell⟩ := hr.at_ hlt
   rw [tcx_at l k hkz] at hu
   injection hu with hu
   subst hu
   have hsz := HT.out.2.2.2 _ (List.getElem_mem hkz)
   have HN := h! (cmds_take l k hkz)
   have hd := HR.out
   rw [List.drop_eq_getElem_cons hkz] at hd
   obtain ⟨z, hz⟩ : ∃ z, z = l[k] := ⟨_, rfl⟩
   rw [← hz] at hcell hsz HN hd
   clear hz hr HR
   unfold LM.chkF at hd
   have CR := h! (pread_ge z (LM.read_is z) hsz wr)
   have HE := h! (LM.er_cases z)
   have HC := h! hC
   clear hC hsz
   generalize LM.er z = y at CR HE hd
   generalize LM.cm z = x at CR HN
   have HD := h! hd
   clear hd
   obtain ⟨k0, ⟨mi, mg, mt, mk, mb⟩, aid, atm, ams, atp, awh, an⟩ := x
   go_wp2_with fail
   refine (CR.out).mono ?_
   rintro e1 w2 ⟨v, rfl, ⟨A1, c1, P, q, rfl, r1, r3⟩, hb⟩
   simp only at r1 r3
   unfold ccells
   rcases HE.out with rfl | hy
   ·have HD2 := h! (show LM.chkF (l.drop (k + 1)) = r by have := HD.out; rwa [if_pos rfl] at this)
    clear HD HE
    have hb2 : Below w2.heap.size w2 ((w2.alloc (.cells #[.int .u8 k0, .int .i64 mi, .slice A1 mg.length c1, .int .i64 mt, .string mk, .string mb, .int .i64 aid, .int .i64 atm, .slice P ams.length q, .int .i64 atp, .int .i64 awh, .int .i64 an] 91)).alloc (.cells #[.int .u8 k0, .int .i64 mi, .slice A1 mg.length c1, .int .i64 mt, .string mk, .string mb, .int .i64 aid, .int .i64 atm, .slice P ams.length q, .int .i64 atp, .int .i64 awh, .int .i64 an] 91)) := ((Below.refl _ _).alloc n! _).alloc (by simp) _
    have hb3 := bmore hb hb2 n!
    replace HB := h! (bmore HB.out hb3 n!)
    have HX := h! (show Box ((w2.alloc (.cells #[.int .u8 k0, .int .i64 mi, .slice A1 mg.length c1, .int .i64 mt, .string mk, .string mb, .int .i64 aid, .int .i64 atm, .slice P ams.length q, .int .i64 atp, .int .i64 awh, .int .i64 an] 91)).alloc (.cells #[.int .u8 k0, .int .i64 mi, .slice A1 mg.length c1, .int .i64 mt, .string mk, .string mb, .int .i64 aid, .int .i64 atm, .slice P ams.length q, .int .i64 atp, .int .i64 awh, .int .i64 an] 91)) (w2.heap.size + 1) 91 #[.int .u8 k0, .int .i64 mi, .slice A1 mg.length c1, .int .i64 mt, .string mk, .string mb, .int .i64 aid, .int .i64 atm, .slice P ams.length q, .int .i64 atp, .int .i64 awh, .int .i64 an] from Box.new_at _ (by simp))
    obtain ⟨lst, g1, g2, g3⟩ := HC.out
    have hlt2 : ∀ g, u4.ownBlock = some g → g < wr.heap.size := fun g hg => own_lt g2 hg
    have N1 : Hid (∀ ad, A1 = some ad → 0 < mg.length → u4.ownBlock ≠ some ad.block) := h! (fun ad e hn q => by have := hlt2 _ q; have := r1.2 ad e hn; omega)
    have N2 : Hid (∀ ad, P = some ad → 0 < ams.length → u4.ownBlock ≠ some ad.block) := h! (fun ad e hn q => by have := hlt2 _ q; have := r3.2 ad e hn; omega)
    have HG1 := h! g1
    have HO := h! (own_below3 g2 hb3)
    have HRs := h! (g3.below hb3)
    have H1 := h! (r1.below hb2)
    have H2 := h! (r3.below hb2)
    have hll : lst.length ≤ 100000 := by have := congrArg List.length g1; simp [LM.cmds] at this; omega
    clear hb hb2 hb3 r1 r3 CR hcell g1 g2 g3 hlt2
    go_wp2_with (at_builtin; refine wpList_append_g _ rfl _ _ 73 rfl w.heap.size 91 i0 _ 12 144 Tryz.underlying73 hi hz0 hz1 hz2 rfl (by omega) _ _ _ rfl HO.out (some ⟨w2.heap.size + 1, 0, none⟩) 1 1 (ecell ⟨A1, c1, P, q, ⟨k0, ⟨mi, mg, mt, mk, mb⟩, aid, atm, ams, atp, awh, an⟩⟩) rfl (rdG_box HX.out rfl rfl) (ecell_one _) (by unfold maxLen; omega) (by omega) (by have := HB.out.size; exact this) ?_; intro v2 w5 hown2 hg2 hob2)
    have hnext := cmsO_next lst HG1.out HRs.out (H1.out.mono HLE.out) (H2.out.mono HLE.out) N1.out N2.out hg2 hown2 hob2
    have hB5 := below_row HB.out HO.out HB.out.size hg2
    clear hown2 hg2 hob2
    rw [← HN.out] at hnext
    go_roundw
    case rel => exact ⟨k + 1, by omega, by go_num, hB5, hnext, HD2⟩
    case measure => simp [intOf]; omega
   ·have HD2 := h! (show (8 : Int) = r by have := HD.out; rwa [if_neg (by rcases hy with rfl | rfl <;> decide)] at this)
    replace HB := h! ((bmore HB.out hb n!).alloc (by have := HB.out.size; have := hb.size; omega) (.cells #[.int .u8 k0, .int .i64 mi, .slice A1 mg.length c1, .int .i64 mt, .string mk, .string mb, .int .i64 aid, .int .i64 atm, .slice P ams.length q, .int .i64 atp, .int .i64 awh, .int .i64 an] 91))
    clear HD HE hb CR hcell r1 r3 HC HN
    rcases hy with rfl | rfl
    all_goals
     go_wp2_with fail
     go_ret2
     exact coIs_bad (by rw [HR0.out]; exact HD2.out.symm) (by decide) HB.out
  ·have hd : l.take k = l := List.take_of_length_le (by have := HL.out; omega)
   have h0 : 0 = r := by have := HR.out; rw [List.drop_of_length_le (by have := HL.out; omega)] at this; simpa [LM.chkF] using this
   have HC := h! (hd ▸ hC)
   have H0 := h! h0
   clear hC hd h0
   go_wp2
   go_ret2
   exact coIs_ok (by rw [HR0.out]; exact H0.out.symm) HC.out HB.out
end LP
namespace KP
open Go.RowKit CP TP LP
open CM (Mg Cm)
open TM (Sp)
open KM (Wt Sk)
structure KpX (X : Nat → Prop) (a b : World) : Prop where
 os : b.os = a.os
 tape : b.tape = a.tape
 output : b.output = a.output
 size : a.heap.size ≤ b.heap.size
 block : ∀ g, g < a.heap.size → ¬ X g → b.heap[g]? = a.heap[g]?
section
variable {X X' : Nat → Prop} {a b c : World}
theorem KpX.refl (X : Nat → Prop) (a : World) : KpX X a a := ⟨rfl, rfl, rfl, Nat.le_refl _, fun _ _ _ => rfl⟩
theorem KpX.of_below (h : Below a.heap.size a b) : KpX X a b := ⟨h.os, h.tape, h.output, h.size, fun g hg _ => h.block g hg⟩
theorem KpX.trans (h : KpX X a b) (k : KpX X' b c) (hx : ∀ g, X' g → X g ∨ a.heap.size ≤ g) : KpX X a c :=
 ⟨k.os.trans h.os, k.tape.trans h.tape, k.output.trans h.output, Nat.le_trans h.size k.size, fun g hg hn =>
  (k.block g (Nat.lt_of_lt_of_le hg h.size) fun q => by rcases hx g q with r | r; exact hn r; omega).trans (h.block g hg hn)⟩
theorem KpX.below {n : Nat} (h : KpX X a b) (hn : n ≤ a.heap.size) (hx : ∀ g, X g → n ≤ g) : Below n a b := ⟨h.os, h.tape, h.output, h.size, fun g hg => h.block g (by omega) fun q => by have := hx g q; omega⟩
theorem KpX.box {g : Nat} {t : TypeId} {cs : Array Value} (h : KpX X a b) (hb : Box a g t cs) (hn : ¬ X g) : Box b g t cs := (h.block g hb.lt hn).trans hb
theorem KpX.own {base s n : Nat} {e : TypeId} {v : Value} {xs : List Value} (k : KpX X a b) (h : a.ownsRow base e s v n xs) (hx : ∀ g, X g → g < base ∨ a.heap.size ≤ g) : b.ownsRow base e s v n xs := by
 refine ⟨h.1, ?_⟩
 rcases h.2 with h0 | ⟨g, cap, cur, hv, hb, hg, hrest⟩
 ·exact .inl h0
 ·have hl : g < a.heap.size := by
   rcases Nat.lt_or_ge g a.heap.size with k | k
   ·exact k
   ·rw [Array.getElem?_eq_none k] at hg; cases hg
  exact .inr ⟨g, cap, cur, hv, hb, (k.block g hl fun q => by have := hx g q; omega).trans hg, hrest⟩
theorem KpX.row {A : Option Addr} {d base : Nat} {L : List Int} (k : KpX X a b) (h : RowGe a base A d L) (hx : ∀ g, X g → g < base ∨ a.heap.size ≤ g) : RowGe b base A d L := by
 refine ⟨⟨⟨h.1.1.1, fun hn => ?_⟩, h.1.2⟩, h.2, fun hn => ?_⟩
 ·obtain ⟨g, cur, e, hb, hb2, hs⟩ := h.3 hn
  obtain ⟨ad, e2, hB, hc⟩ := h.1.1.2 hn
  rw [e] at e2
  injection e2 with e2
  subst e2
  have hx' := k.box hb2 fun q => by have := hx g q; have := hb2.lt; omega
  refine ⟨⟨g, 0, none⟩, e, hx'.lt, fun j u hu => ?_⟩
  have := hc j u hu
  rw [add_none] at this ⊢
  rw [hb2.cell] at this
  rw [hx'.cell]
  exact this
 ·obtain ⟨g, cur, e, hb, hb2, hs⟩ := h.3 hn
  exact ⟨g, cur, e, hb, k.box hb2 fun q => by have := hx g q; have := hb2.lt; omega, hs⟩
theorem KpX.ko {α : Type} {K : Kd α} {base : Nat} {T : TypeId} {v : Value} {l : List α} (k : KpX X a b) (h : KO K a base T v l) (hx : ∀ g, X g → g < base ∨ a.heap.size ≤ g) : KO K b base T v l := by
 obtain ⟨es, h1, h2, h3⟩ := h
 exact ⟨es, h1, k.own h2 hx, fun e he => ⟨k.row (h3 e he).1 hx, (h3 e he).2⟩⟩
theorem KpX.sko {base : Nat} {v : Value} {s : Sk} (k : KpX X a b) (h : SkO a base v s) (hx : ∀ g, X g → g < base ∨ a.heap.size ≤ g) : SkO b base v s := by
 obtain ⟨vw, vd, e, h1, h2⟩ := h
 exact ⟨vw, vd, e, k.ko h1 hx, k.own h2 hx⟩
end
def Stb (X : Nat → Prop) (W : World) (F : World → Prop) : Prop := ∀ W', KpX X W W' → F W'
theorem Stb.at_ {X : Nat → Prop} {W : World} {F : World → Prop} (h : Stb X W F) : F W := h W (KpX.refl _ _)
theorem Stb.next {X X' Y : Nat → Prop} {W W' : World} {F : World → Prop} (h : Stb X W F) (k : KpX Y W W') (h1 : ∀ g, Y g → X g ∨ W.heap.size ≤ g) (h2 : ∀ g, X' g → X g ∨ W.heap.size ≤ g) : Stb X' W' F := fun W'' k2 => by
 refine h W'' ⟨k2.os.trans k.os, k2.tape.trans k.tape, k2.output.trans k.output, Nat.le_trans k.size k2.size, fun g hg hn => ?_⟩
 rw [k2.block g (Nat.lt_of_lt_of_le hg k.size) (fun q => by rcases h2 g q with r | r; exact hn r; omega)]
 exact k.block g hg fun q => by rcases h1 g q with r | r; exact hn r; omega
theorem stb_sk {X : Nat → Prop} {W : World} {b : Nat} {v : Value} {s : Sk} (h : SkO W b v s) (hx : ∀ g, X g → g < b ∨ W.heap.size ≤ g) : Stb X W (fun W => SkIs W v s) := fun W' k => (k.sko h hx).is
theorem Stb.below {X : Nat → Prop} {W W' : World} {F : World → Prop} (h : Stb X W F) (hb : Below W.heap.size W W') : Stb X W' F := fun W2 k => h W2 ((KpX.of_below hb).trans k fun q hq => .inl hq)
def scells (A : Option Addr) (c : Nat) (B : Option Addr) (d : Nat) (x : Cm) (c0 : Int) (v0 d0 : Value) (c1 : Int) (v1 d1 vm : Value) : Array Value :=
 #[.int .u8 x.k, .int .i64 x.m.id, .slice A x.m.gs.length c, .int .i64 x.m.tp, .string x.m.key, .string x.m.body, .int .i64 x.id, .int .i64 x.tm, .slice B x.ms.length d, .int .i64 x.tp, .int .i64 x.wh, .int .i64 x.n,
  .int .i64 c0, v0, d0, .int .i64 c1, v1, d1, vm]
abbrev stA (g : Int) (cs : List Cm) (k : Nat) : Sk := (OM.play g (cs.take k)).1
structure See (N : FuncId) (caps : Array Value) (g : Int) (cs : List Cm) (W0 : World) (B1 : Nat) (R : Nat → (Nat → Prop) → World → Prop) : Prop where
 en : ∀ (args : Array Value) (w : World), (callFunc N args).run Tryz.prog w = .ok (.enter N args) w
 keep : ∀ k X W W', R k X W → Below B1 W W' → Kept (fun e => e = 39) W W' → R k X W'
 lt : ∀ k X W, R k X W → ∀ g, X g → g < W.heap.size
 no : ∀ k c X W, cs[k]? = some c → OM.one (stA g cs k) g c = (stA g cs k, []) → R k X W → R (k + 1) X W
 go : ∀ (k : Nat) (e : El) (X : Nat → Prop) (W : World) (va vda vb vdb vm : Value) (b : Nat), cs[k]? = some e.x → (KM.putF (stA g cs k) g e.x).2.2 = true → R k X W → Below W0.heap.size W0 W → RowIs W0 e.A e.c e.x.m.gs → RowIs W0 e.B e.d e.x.ms →
  SkIs W (vsk (stA g cs k).c va vda) (stA g cs k) → (∀ g, X g → g < b) → b ≤ W.heap.size → B1 ≤ b → SkO W b (vsk (KM.putF (stA g cs k) g e.x).1.c vb vdb) (KM.putF (stA g cs k) g e.x).1 → KO KM_ W b 33 vm (KM.putF (stA g cs k) g e.x).2.1 →
  Calls Tryz.prog N (#[.agg (scells e.A e.c e.B e.d e.x (stA g cs k).c va vda (KM.putF (stA g cs k) g e.x).1.c vb vdb vm)] ++ caps) W fun x W' => x = .returned (.tuple #[]) ∧ ∃ X', R (k + 1) X' W' ∧ KpX X W W' ∧ ∀ g, X' g → X g ∨ W.heap.size ≤ g
def PlrIs (W : World) (v : Value) (g : Int) (cs : List Cm) : Prop := ∃ pc pg sv b, v = .func (.func 56) #[] #[.pointer (some ⟨pc, 0, none⟩), .pointer (some ⟨pg, 0, none⟩)] ∧ Box W pc 73 #[sv] ∧ Box W pg 3 #[.int .i64 g] ∧ CmsO W b sv cs
theorem cm_fit {c : Cm} (h : CM.may c) : CmFit c ∧ c.m.gs.length ≤ 4 := by
 have hz : MgFit CM.mz := by unfold MgFit i64In maxLen CM.mz; simp
 have hzl : CM.mz.gs.length ≤ 4 := by simp [CM.mz]
 rcases h with rfl | ⟨h1, h2, h3, h4, h5, h6, h7, h8⟩ | ⟨h1, h2, h3, h4, h5, h6, h7, h8⟩ | ⟨h1, h2, h3, h4, h5, h6, h7, h8⟩ | ⟨h1, h2, h3, h4, h5, h6, h7, h8⟩ | ⟨h1, h2, h3, h4, h5, h6, h7, h8⟩
 ·refine ⟨?_, by simp [CM.zero, CM.mz]⟩
  unfold CmFit
  exact ⟨by simp [CM.zero], hz, by unfold i64In; simp [CM.zero], by unfold i64In; simp [CM.zero], by unfold i64In; simp [CM.zero], by unfold i64In; simp [CM.zero], by unfold i64In; simp [CM.zero]⟩
 ·have := fit_mg h2
  refine ⟨⟨by omega, this.1, ?_, ?_, ?_, ?_, ?_⟩, by have := CM.riseG_len h2.2.2.1 (by decide); omega⟩ <;> (unfold i64In; omega)
 all_goals
  refine ⟨⟨by omega, by rw [h2]; exact hz, ?_, ?_, ?_, ?_, ?_⟩, by rw [h2]; exact hzl⟩ <;> (unfold CM.idOk at *; unfold i64In; omega)
theorem skIs_form {W : World} {c : Int} {vw vd : Value} {s : Sk} (h : SkIs W (vsk c vw vd) s) : ∃ A a B b n m, vw = .slice A n a ∧ vd = .slice B m b := by
 obtain ⟨A, a, B, b, e, _, _⟩ := h
 unfold vsk at e
 injection e with e
 injection e with e
 injection e with _ e
 injection e with e1 e
 injection e with e2 _
 exact ⟨A, a, B, b, _, _, e1, e2⟩
theorem ap_yes {s : Sk} {g : Int} {c : Cm} (h1 : KM.may s) (h2 : 0 ≤ g ∧ g < 4) (h3 : CM.may c) (h : (KM.putF s g c).2.2 = true) : KM.applyF s g c = ((KM.putF s g c).1, (KM.putF s g c).2.1, 0) := by
 unfold KM.applyF
 rw [if_neg (fun q => q h1), if_neg (fun q => q h2), if_neg (fun q => q h3), if_pos h]
theorem ap_no {s : Sk} {g : Int} {c : Cm} (h1 : KM.may s) (h2 : 0 ≤ g ∧ g < 4) (h3 : CM.may c) (h : ¬ (KM.putF s g c).2.2 = true) : KM.applyF s g c = (KM.zero, [], 9) := by
 unfold KM.applyF
 rw [if_neg (fun q => q h1), if_neg (fun q => q h2), if_neg (fun q => q h3), if_neg h]
theorem stA_next {g : Int} {cs : List Cm} {k : Nat} {c : Cm} (h : cs[k]? = some c) : stA g cs (k + 1) = (OM.one (stA g cs k) g c).1 := by
 unfold stA
 rw [List.take_add_one, h]
 show (OM.play g (cs.take k ++ [c])).1 = _
 rw [OM.play_snoc]
 rfl
theorem one_ok {s : Sk} {g : Int} {c : Cm} (h : (KM.putF s g c).2.2 = true) : OM.one s g c = ((KM.putF s g c).1, (KM.putF s g c).2.1) := by unfold OM.one; rw [if_pos h]
theorem one_no {s : Sk} {g : Int} {c : Cm} (h : ¬ (KM.putF s g c).2.2 = true) : OM.one s g c = (s, []) := by unfold OM.one; rw [if_neg h]
structure PlR (g : Int) (cs : List Cm) (W0 w : World) (X0 : Nat → Prop) (R : Nat → (Nat → Prop) → World → Prop) (p k : Nat) (X : Nat → Prop) (vw vd : Value) (W : World) : Prop where
 b0 : Below W0.heap.size W0 W
 bw : w.heap.size ≤ p
 r : R k X W
 kp : KpX X0 w W
 xs : ∀ q, X q → X0 q ∨ w.heap.size ≤ q
 xp : ¬ X p
 bx : Box W p 39 #[.int .i64 (stA g cs k).c, vw, vd]
 st : Stb (fun q => X q ∨ q = p) W (fun W => SkIs W (vsk (stA g cs k).c vw vd) (stA g cs k))
section
variable {N : FuncId} {caps : Array Value} {g : Int} {cs : List Cm} {W0 w W W' W2 : World} {X0 X X' : Nat → Prop} {R : Nat → (Nat → Prop) → World → Prop} {p k : Nat} {vw vd : Value} {c : Cm}
theorem PlR.skip (h : PlR g cs W0 w X0 R p k X vw vd W) (hS : See N caps g cs W0 w.heap.size R) (hc : cs[k]? = some c) (ho : OM.one (stA g cs k) g c = (stA g cs k, [])) (hb : Below W.heap.size W W') : PlR g cs W0 w X0 R p (k + 1) X vw vd W' := by
 have e : stA g cs (k + 1) = stA g cs k := by rw [stA_next hc, ho]
 refine ⟨bmore h.b0 hb n!, h.bw, hS.keep _ _ _ _ (hS.no _ _ _ _ hc ho h.r) (hb.mono (h.kp.size)) (Kept.of_below hb), h.kp.trans (KpX.of_below (X := X) hb) h.xs, h.xs, h.xp, by rw [e]; exact h.bx.below hb h.bx.lt, ?_⟩
 rw [e]
 exact h.st.next (KpX.of_below (X := X) hb) (fun q hq => .inl (.inl hq)) (fun q hq => .inl hq)
theorem PlR.step {b q : Nat} {vb vdb : Value} (h : PlR g cs W0 w X0 R p k X vw vd W) (hS : See N caps g cs W0 w.heap.size R) (hX : ∀ g, X0 g → W0.heap.size ≤ g) (hw0 : W0.heap.size ≤ w.heap.size) (hc : cs[k]? = some c) (hp : (KM.putF (stA g cs k) g c).2.2 = true)
  (h1 : R (k + 1) X' W') (h2 : KpX X W W') (h3 : ∀ g, X' g → X g ∨ W.heap.size ≤ g) (hs : SkO W b (vsk (KM.putF (stA g cs k) g c).1.c vb vdb) (KM.putF (stA g cs k) g c).1) (hx : ∀ g, X g → g < b) (hpb : p < b)
  : PlR g cs W0 w X0 R p (k + 1) X' vb vdb (((W'.setCell ⟨p, 0, none⟩ (.int .i64 (KM.putF (stA g cs k) g c).1.c)).setCell ⟨p, 1, none⟩ vb).setCell ⟨p, 2, none⟩ vdb) := by
 have e : stA g cs (k + 1) = (KM.putF (stA g cs k) g c).1 := by rw [stA_next hc, one_ok hp]
 have hb' := h2.box h.bx h.xp
 have hpp := hb'.put3 (.int .i64 (KM.putF (stA g cs k) g c).1.c) vb vdb
 have hbl : Below p W' (((W'.setCell ⟨p, 0, none⟩ (.int .i64 (KM.putF (stA g cs k) g c).1.c)).setCell ⟨p, 1, none⟩ vb).setCell ⟨p, 2, none⟩ vdb) := below_put3 (Below.refl _ _) n! _ _ _
 have hkp : KpX (fun q => q = p) W' (((W'.setCell ⟨p, 0, none⟩ (.int .i64 (KM.putF (stA g cs k) g c).1.c)).setCell ⟨p, 1, none⟩ vb).setCell ⟨p, 2, none⟩ vdb) :=
  ⟨hbl.os, hbl.tape, hbl.output, hbl.size, fun q hq hn => ((Below.heap_setCell _ ⟨p, 2, none⟩ _ q hn).trans (Below.heap_setCell _ ⟨p, 1, none⟩ _ q hn)).trans (Below.heap_setCell _ ⟨p, 0, none⟩ _ q hn)⟩
 have hxw : ∀ q, X q → W0.heap.size ≤ q := fun q hq => by
  rcases h.xs q hq with k | k
  ·exact hX q k
  ·omega
 have hbw := h.bw
 have hb0 : Below W0.heap.size W0 W' := h.b0.trans (h2.below h.b0.size hxw)
 have hk1 : KpX X0 w W' := h.kp.trans h2 h.xs
 refine ⟨hb0.trans (hbl.mono (by omega)), h.bw, hS.keep _ _ _ _ h1 (hbl.mono h.bw) (kept_put3 hb' _ _ _), hk1.trans hkp (fun q hq => .inr (by rw [hq]; exact h.bw)), fun q hq => ?_, fun hq => ?_, by rw [e]; exact hpp, ?_⟩
 ·rcases h3 q hq with k | k
  ·exact h.xs q k
  ·exact .inr (Nat.le_trans h.kp.size k)
 ·rcases h3 p hq with k | k
  ·exact h.xp k
  ·exact absurd h.bx.lt (by omega)
 ·rw [e]
  have s1 : Stb (fun q => X q ∨ q = p) W (fun W => SkIs W (vsk (KM.putF (stA g cs k) g c).1.c vb vdb) (KM.putF (stA g cs k) g c).1) := stb_sk hs fun q hq => by
   rcases hq with k | k
   ·exact .inl (hx q k)
   ·exact .inl (by omega)
  have s2 : Stb (fun q => X' q ∨ q = p) W' (fun W => SkIs W (vsk (KM.putF (stA g cs k) g c).1.c vb vdb) (KM.putF (stA g cs k) g c).1) := s1.next h2 (fun q hq => .inl (.inl hq)) fun q hq => by
   rcases hq with k | k
   ·rcases h3 q k with k | k
    ·exact .inl (.inl k)
    ·exact .inr k
   ·exact .inl (.inr k)
  exact s2.next hkp (fun q hq => .inl (.inr hq)) fun q hq => .inl hq
theorem PlR.more (h : PlR g cs W0 w X0 R p k X vw vd W) (hS : See N caps g cs W0 w.heap.size R) (hb : Below W.heap.size W W') : PlR g cs W0 w X0 R p k X vw vd W' :=
 ⟨bmore h.b0 hb n!, h.bw, hS.keep _ _ _ _ h.r (hb.mono h.kp.size) (Kept.of_below hb), h.kp.trans (KpX.of_below (X := X) hb) h.xs, h.xs, h.xp, h.bx.below hb h.bx.lt, h.st.next (KpX.of_below (X := X) hb) (fun q hq => .inl (.inl hq)) (fun q hq => .inl hq)⟩
end
def toWt (p : Int × Mg) : Wt := ⟨p.2, p.1, false⟩
def KX {α : Type} (K : Kd α) (W0 w : World) (b : Nat) (T : TypeId) (v : Value) (l : List α) : Prop :=
 ∃ es : List (Ex α), es.map Ex.x = l ∧ w.ownsRow b T K.s v es.length (flat (exc K) es) ∧ ∀ e ∈ es, RowIs W0 e.A e.c (K.gs e.x)
section
variable {α : Type} {K : Kd α} {W0 w w' : World} {b : Nat} {T : TypeId} {v : Value} {l : List α}
theorem KX.kept {S : TypeId → Prop} (h : KX K W0 w b T v l) (k : Kept S w w') (hT : ¬ S T) : KX K W0 w' b T v l := by
 obtain ⟨es, h1, h2, h3⟩ := h
 exact ⟨es, h1, k.own h2 hT, h3⟩
theorem KX.below (h : KX K W0 w b T v l) (hb : Below w.heap.size w w') : KX K W0 w' b T v l := by
 obtain ⟨es, h1, h2, h3⟩ := h
 exact ⟨es, h1, own_below3 h2 hb, h3⟩
theorem KX.blk (h : KX K W0 w b T v l) {g : Nat} (hg : v.ownBlock = some g) : b ≤ g ∧ g < w.heap.size := by
 obtain ⟨es, _, h2, _⟩ := h
 obtain ⟨h3, cur, hc⟩ := own_block h2 hg
 exact ⟨h3, hc.lt⟩
theorem KX.form (h : KX K W0 w b T v l) : ∃ A c, v = .slice A l.length c ∧ l.length ≤ c ∧ c ≤ maxLen := by
 obtain ⟨es, rfl, h2, h3⟩ := h
 obtain ⟨A, c, rfl, h4, h5⟩ := own_form h2
 exact ⟨A, c, by rw [List.length_map], by rw [List.length_map]; exact h4, h5⟩
theorem KX.r {A : Option Addr} {n c : Nat} (h : KX K W0 w b T (.slice A n c) l) (hb : Below W0.heap.size W0 w) : KR K w A n c l := by
 obtain ⟨es, h1, h2, h3⟩ := h
 have hn : n = es.length := by
  obtain ⟨A', c', e, _⟩ := own_form h2
  injection e
 obtain ⟨A', c', e, h4, h5⟩ := own_form h2
 injection e with e1 e2 e3
 subst e1 e3
 rw [← hn] at h2 h4
 exact ⟨es, h1, rdg_own h2, hn.symm, h4, h5, fun e he => (h3 e he).below hb⟩
theorem KX.len {A : Option Addr} {n c : Nat} (h : KX K W0 w b T (.slice A n c) l) : n = l.length := by
 obtain ⟨_, _, e, _, _⟩ := h.form
 injection e
variable (K) in
theorem kX_nil (W0 w : World) (b : Nat) (T : TypeId) : KX K W0 w b T (.slice none 0 0) [] := ⟨[], rfl, World.ownsRow_nil _ _ _ _, fun e he => by cases he⟩
theorem wpList_append_kx {P : Program} {ops : Array Oper} {rest : List Oper} {o : Oper} {a : Act} {Q : Exit → Act → World → Prop} {w0 : World} {A9 : Option Addr} {n9 c9 : Nat} {x : α} {A : Option Addr} {c : Nat}
  (hgd : o.guard = none) (so xo : Operand) (t : TypeId) (ho : o.op = .call { callee := .builtin .append, args := #[so, xo], argTypes := #[t, t] })
  (T' : TypeId) (i : TypeInfo) (z : Value) (bytes : Nat) (ht : P.underlying t = some (.slice T)) (hi : P.info? T = some i) (hz : i.zero = some z) (hsize : i.size = K.s) (hby : i.bytes = bytes) (hzs : z.cells.size = K.s)
  (hs : a.eval so = .slice A9 n9 c9) (hko : KX K W0 w0 b T (.slice A9 n9 c9) l) (hx : a.eval xo = .slice (some ⟨w0.heap.size, 0, none⟩) 1 1) (cs : Array Value) (hcs : cs.toList = K.cel A c x)
  (hrow : RowIs W0 A c (K.gs x)) (h63 : n9 + 1 ≤ maxLen) (hbytes : (n9 + 1) * bytes ≤ 140737488355328) (hb : b ≤ w0.heap.size)
  (h : ∀ A' c' w', KX K W0 w' b T (.slice A' (n9 + 1) c') (l ++ [x]) → (w0.alloc (.cells cs T')).grownBy w' (Value.slice A9 n9 c9).ownBlock →
   ((Value.slice A' (n9 + 1) c').ownBlock = (Value.slice A9 n9 c9).ownBlock ∨ (Value.slice A' (n9 + 1) c').ownBlock = some (w0.alloc (.cells cs T')).heap.size) → wpList P ops Q rest (a.put o.dst (.slice A' (n9 + 1) c')) w') :
  wpList P ops Q (o :: rest) a (w0.alloc (.cells cs T')) := by
 have hb0 : Below w0.heap.size w0 (w0.alloc (.cells cs T')) := b!
 obtain ⟨es, hl, ho1, hr⟩ := hko
 have hn : n9 = es.length := by
  obtain ⟨A', c', e, _⟩ := own_form ho1
  injection e
 rw [← hn] at ho1
 refine wpList_append_g _ hgd so xo t ho b T i z K.s bytes ht hi hz hsize hby hzs K.pos (.slice A9 n9 c9) n9 (flat (exc K) es) hs (own_below3 ho1 hb0) (some ⟨w0.heap.size, 0, none⟩) 1 1 (K.cel A c x) hx
  (rdG_box (s := K.s) (n := 1) (Box.new w0 T' cs) hcs (by rw [K.len]; omega)) (K.one _ _ _) h63 hbytes (Nat.le_trans hb hb0.size) ?_
 intro v' w' hown hgr hob
 obtain ⟨A', c', rfl, _, _⟩ := own_form hown
 refine h A' c' w' ⟨es ++ [⟨A, c, x⟩], by simp [hl], ?_, fun e he => ?_⟩ hgr hob
 ·rw [flat_append, flat_one, List.length_append, ← hn]; exact hown
 ·rcases List.mem_append.1 he with he | he
  ·exact hr e he
  ·obtain rfl := List.mem_singleton.1 he
   exact hrow
end
def CX (W0 w : World) (b : Nat) (v : Value) (l : List Cm) : Prop :=
 ∃ es : List El, es.map (fun e => e.x) = l ∧ w.ownsRow b 91 12 v es.length (ecells es) ∧ ∀ e ∈ es, RowIs W0 e.A e.c e.x.m.gs ∧ RowIs W0 e.B e.d e.x.ms
section
variable {W0 w w' : World} {b : Nat} {v : Value} {l : List Cm}
theorem CX.kept {S : TypeId → Prop} (h : CX W0 w b v l) (k : Kept S w w') (hT : ¬ S 91) : CX W0 w' b v l := by
 obtain ⟨es, h1, h2, h3⟩ := h
 exact ⟨es, h1, k.own h2 hT, h3⟩
theorem CX.below (h : CX W0 w b v l) (hb : Below w.heap.size w w') : CX W0 w' b v l := by
 obtain ⟨es, h1, h2, h3⟩ := h
 exact ⟨es, h1, own_below3 h2 hb, h3⟩
theorem CX.blk (h : CX W0 w b v l) {g : Nat} (hg : v.ownBlock = some g) : b ≤ g ∧ g < w.heap.size := by
 obtain ⟨es, _, h2, _⟩ := h
 obtain ⟨h3, cur, hc⟩ := own_block h2 hg
 exact ⟨h3, hc.lt⟩
theorem CX.form (h : CX W0 w b v l) : ∃ A c, v = .slice A l.length c ∧ l.length ≤ c ∧ c ≤ maxLen := by
 obtain ⟨es, rfl, h2, h3⟩ := h
 obtain ⟨A, c, rfl, h4, h5⟩ := own_form h2
 exact ⟨A, c, by rw [List.length_map], by rw [List.length_map]; exact h4, h5⟩
theorem CX.len {A : Option Addr} {n c : Nat} (h : CX W0 w b (.slice A n c) l) : n = l.length := by
 obtain ⟨_, _, e, _, _⟩ := h.form
 injection e
theorem cX_nil (W0 w : World) (b : Nat) : CX W0 w b (.slice none 0 0) [] := ⟨[], rfl, World.ownsRow_nil _ _ _ _, fun e he => by cases he⟩
theorem wpList_append_cx {ops : Array Oper} {rest : List Oper} {o : Oper} {a : Act} {Q : Exit → Act → World → Prop} {w0 : World} {A9 : Option Addr} {n9 c9 : Nat} {e : El}
  (hgd : o.guard = none) (so xo : Operand) (t : TypeId) (ho : o.op = .call { callee := .builtin .append, args := #[so, xo], argTypes := #[t, t] })
  (T' : TypeId) (i : TypeInfo) (z : Value) (ht : Tryz.prog.underlying t = some (.slice 91)) (hi : Tryz.prog.info? 91 = some i) (hz : i.zero = some z) (hsize : i.size = 12) (hby : i.bytes = 144) (hzs : z.cells.size = 12)
  (hs : a.eval so = .slice A9 n9 c9) (hko : CX W0 w0 b (.slice A9 n9 c9) l) (hx : a.eval xo = .slice (some ⟨w0.heap.size, 0, none⟩) 1 1) (cs : Array Value) (hcs : cs.toList = ecell e)
  (hrow : RowIs W0 e.A e.c e.x.m.gs ∧ RowIs W0 e.B e.d e.x.ms) (h63 : n9 + 1 ≤ maxLen) (hbytes : (n9 + 1) * 144 ≤ 140737488355328) (hb : b ≤ w0.heap.size)
  (h : ∀ A' c' w', CX W0 w' b (.slice A' (n9 + 1) c') (l ++ [e.x]) → (w0.alloc (.cells cs T')).grownBy w' (Value.slice A9 n9 c9).ownBlock →
   ((Value.slice A' (n9 + 1) c').ownBlock = (Value.slice A9 n9 c9).ownBlock ∨ (Value.slice A' (n9 + 1) c').ownBlock = some (w0.alloc (.cells cs T')).heap.size) → wpList Tryz.prog ops Q rest (a.put o.dst (.slice A' (n9 + 1) c')) w') :
  wpList Tryz.prog ops Q (o :: rest) a (w0.alloc (.cells cs T')) := by
 have hb0 : Below w0.heap.size w0 (w0.alloc (.cells cs T')) := b!
 obtain ⟨es, hl, ho1, hr⟩ := hko
 have hn : n9 = es.length := by
  obtain ⟨A', c', e, _⟩ := own_form ho1
  injection e
 rw [← hn] at ho1
 refine wpList_append_g _ hgd so xo t ho b 91 i z 12 144 ht hi hz hsize hby hzs (by omega) (.slice A9 n9 c9) n9 (ecells es) hs (own_below3 ho1 hb0) (some ⟨w0.heap.size, 0, none⟩) 1 1 (ecell e) hx
  (rdG_box (s := 12) (n := 1) (Box.new w0 T' cs) hcs (by rw [ecell_len])) (ecell_one e) h63 hbytes (Nat.le_trans hb hb0.size) ?_
 intro v' w' hown hgr hob
 obtain ⟨A', c', rfl, _, _⟩ := own_form hown
 refine h A' c' w' ⟨es ++ [e], by simp [hl], ?_, fun e' he => ?_⟩ hgr hob
 ·rw [ecells_snoc, List.length_append, ← hn]; exact hown
 ·rcases List.mem_append.1 he with he | he
  ·exact hr e' he
  ·obtain rfl := List.mem_singleton.1 he
   exact hrow
end
theorem size_st : (Tryz.prog.info? 93).map (·.size) = some 19 := by kernel_rfl
theorem wpList_load_step {ops : Array Oper} {rest : List Oper} {op : Oper} {a : Act} {w : World} {Q : Exit → Act → World → Prop} {g : Nat} {cs : Array Value} (hgd : op.guard = none) (x : Operand) (ho : op.op = .load 93 x)
  (hx : a.eval x = .pointer (some ⟨g, 0, none⟩)) (h : Box w g 93 cs) (hn : cs.size = 19) (hq : wpList Tryz.prog ops Q rest (a.put op.dst (.agg cs)) w) : wpList Tryz.prog ops Q (op :: rest) a w := by
 refine wpList_load_mid (P := Tryz.prog) hgd 93 x ho g 0 hx cs.toList _ (fun j v hv => by rw [h.cell, Nat.zero_add, ← hv]; simp) Tryz.underlying93 rfl (by rw [size_st, Array.length_toList, hn]) ?_
 simpa using hq
theorem pdoes_any (kind : Int) (A0 : Option Addr) (c0 : Nat) (B0 : Option Addr) (d0 : Nat) (x : Cm) (s1 s2 : Sk) (A5 : Option Addr) (n5 a5 : Nat) (B5 : Option Addr) (m5 b5 : Nat) (A6 : Option Addr) (n6 a6 : Nat) (B6 : Option Addr) (m6 b6 : Nat) (A7 : Option Addr) (n7 a7 : Nat) (W : World)
  (h1 : SkIs W (vsk s1.c (.slice A5 n5 a5) (.slice B5 m5 b5)) s1) (h2 : SkIs W (vsk s2.c (.slice A6 n6 a6) (.slice B6 m6 b6)) s2) :
  Calls Tryz.prog 59 #[.agg (scells A0 c0 B0 d0 x s1.c (.slice A5 n5 a5) (.slice B5 m5 b5) s2.c (.slice A6 n6 a6) (.slice B6 m6 b6) (.slice A7 n7 a7)), .int .u8 kind] W (IsB (decide (x.k = kind ∧ s1 ≠ s2)) W) := by
 have HS := h! (fun W' (hb : Below W.heap.size W W') => psame15_any _ _ s1 s2 W' (h1.below hb) (h2.below hb))
 unfold vsk at HS
 clear h1 h2
 obtain ⟨ck, ⟨ai, ag, at_, ak, ab⟩, bid, btm, bms, btp, bwh, bn⟩ := x
 unfold scells
 simp only
 obtain ⟨b, hb⟩ : ∃ b, b = decide (s1 = s2) := ⟨_, rfl⟩
 rw [← hb] at HS
 obtain ⟨r, hr⟩ : ∃ r, r = decide (ck = kind ∧ s1 ≠ s2) := ⟨_, rfl⟩
 rw [← hr]
 have HR := h! (show (ck = kind → r = !b) ∧ (ck ≠ kind → r = false) by
  subst hb hr
  refine ⟨fun h => by subst h; by_cases e : s1 = s2 <;> simp [e], fun h => by simp [h]⟩)
 clear hb hr
 obtain ⟨q0, hq0⟩ : ∃ q0, W.heap.size = q0 := ⟨_, rfl⟩
 have HB := h! (show Below W.heap.size W (W.alloc (.cells #[.int .u8 ck, .int .i64 ai, .slice A0 ag.length c0, .int .i64 at_, .string ak, .string ab, .int .i64 bid, .int .i64 btm, .slice B0 bms.length d0, .int .i64 btp, .int .i64 bwh, .int .i64 bn, .int .i64 s1.c, .slice A5 n5 a5, .slice B5 m5 b5, .int .i64 s2.c, .slice A6 n6 a6, .slice B6 m6 b6, .slice A7 n7 a7] 93)) from (Below.refl _ _).alloc n! _)
 have Y := h! (Box.new_at (w := W) (t := 93) (cs := #[.int .u8 ck, .int .i64 ai, .slice A0 ag.length c0, .int .i64 at_, .string ak, .string ab, .int .i64 bid, .int .i64 btm, .slice B0 bms.length d0, .int .i64 btp, .int .i64 bwh, .int .i64 bn, .int .i64 s1.c, .slice A5 n5 a5, .slice B5 m5 b5, .int .i64 s2.c, .slice A6 n6 a6, .slice B6 m6 b6, .slice A7 n7 a7]) q0 hq0)
 go_enter Tryz.func59, Tryz.ntmps59
 go_upto_region 1 with (fail)
 generalize W.alloc (.cells #[.int .u8 ck, .int .i64 ai, .slice A0 ag.length c0, .int .i64 at_, .string ak, .string ab, .int .i64 bid, .int .i64 btm, .slice B0 bms.length d0, .int .i64 btp, .int .i64 bwh, .int .i64 bn, .int .i64 s1.c, .slice A5 n5 a5, .slice B5 m5 b5, .int .i64 s2.c, .slice A6 n6 a6, .slice B6 m6 b6, .slice A7 n7 a7] 93) = W1 at HB Y ⊢
 clear hq0
 have y0 := Y.out.cell 0
 have y12 := Y.out.cell 12
 have y13 := Y.out.cell 13
 have y14 := Y.out.cell 14
 have y15 := Y.out.cell 15
 have y16 := Y.out.cell 16
 have y17 := Y.out.cell 17
 simp at y0 y12 y13 y14 y15 y16 y17
 by_cases hk : ck = kind
 ·have HF := h! (HR.out.1 hk)
  have hk2 : (ck == kind) = true := by simpa using hk
  clear HR
  subst hk
  go_wp2_with fail
  refine (HS.out _ HB.out).mono ?_
  rintro e w2 ⟨rfl, hb2⟩
  have HB2 := h! (bmore HB.out hb2 n!)
  clear y0 y12 y13 y14 y15 y16 y17 HS hb2
  go_wp2_with fail
  go_ret
  exact ⟨by rw [HF.out]; rfl, HB2.out⟩
 ·have HF := h! (HR.out.2 hk)
  have hk2 : (ck == kind) = false := by simpa using hk
  clear HR
  go_wp2_with fail
  go_ret
  exact ⟨by rw [HF.out]; rfl, HB.out⟩
end KP
end Go.Proofs.YteebeiaokfenmaaGreat
