/-
  Package log: Commands. Conditions: the slice reads as texts.
  A player and who is handed its steps: what each keeps of the other's memory. No walk.
  Package order: playerOf. Conditions: a log that reads as texts.
  A row of structs that hold one slice of ints, appended to another one. No walk.
-/
import Derived.Test.YteebeiaokfenmaaGreatK01
import Derived.Test.YteebeiaokfenmaaGreatK39
import Derived.Test.YteebeiaokfenmaaGreatK28
import Derived.Test.YteebeiaokfenmaaGreatK17
import Derived.Test.YteebeiaokfenmaaGreatK05
import Derived.Test.YteebeiaokfenmaaGreatK04
import Derived.Test.YteebeiaokfenmaaGreatK40
namespace Go.Proofs.YteebeiaokfenmaaGreat.LP
open Go.RowKit CP
open CM (Cm Mg)
set_option linter.unusedVariables false
set_option linter.unusedSimpArgs false
set_option maxRecDepth 100000

/-- what Commands answers, once its error is known to be r -/
theorem coIs_bad {l : List ByteArray} {w w' : World} {r : Int} (hr : LM.chk l = r) (h0 : r ≠ 0) (hb : Below w.heap.size w w') : CoIs l w (.returned (.tuple #[.slice none 0 0, .int .i64 r])) w' :=
  ⟨hb, .inl ⟨by rw [hr]; exact h0, by rw [hr]⟩⟩
theorem coIs_ok {l : List ByteArray} {w w' : World} {v : Value} (hr : LM.chk l = 0) (hv : CmsO w' w.heap.size v (LM.cmds l)) (hb : Below w.heap.size w w') : CoIs l w (.returned (.tuple #[v, .int .i64 0])) w' :=
  ⟨hb, .inr ⟨hr, v, rfl, hv⟩⟩
set_option maxHeartbeats 4000000 in
theorem pcommands_any (A : Option Addr) (n c : Nat) (l : List ByteArray) (w : World) (h : TxIs w A n c l) :
    Calls Tryz.prog 55 #[.slice A n c] w (CoIs l w) := by
  have hl := h.len
  have hm := h.2.2.1
  have hnc := h.2.1
  have hn : n ≤ 9223372036854775807 := by unfold maxLen at hm; omega
  by_cases h200 : 200 < n
  · have he : LM.chk l = 4 := by unfold LM.chk; rw [if_pos (by omega)]
    have HE := Lib.hid he
    clear h hl hm he hnc
    go_enter Tryz.func55, Tryz.ntmps55
    go_wp2
    go_ret2
    exact coIs_bad HE.out (by decide) (Below.refl _ _)
  have h200' : n ≤ 200 := by omega
  clear h200
  obtain ⟨i0, hi, hz0, hz1, hz2⟩ := info_parts info_cm
  obtain ⟨r, hrr⟩ : ∃ r, r = LM.chk l := ⟨_, rfl⟩
  have hst : LM.chkF (l.drop 0) = r := by rw [hrr]; unfold LM.chk; rw [if_neg (by omega)]; rfl
  have HS := Lib.hid hst
  have HR0 := Lib.hid hrr.symm
  have HT := Lib.hid h
  have HL := Lib.hid hl
  clear hrr hst h hl hm hnc
  go_enter Tryz.func55, Tryz.ntmps55
  go_wp2_with (at_make; refine wpList_make_own _ rfl _ _ 73 rfl w.heap.size 91 i0 _ 12 Tryz.underlying73 hi hz0 hz1 .i64 .i64 _ n rfl rfl rfl (by rw [hz2]; omega) (by unfold maxLen; omega) (Nat.le_refl _) ?_; intro w1 hown1 hg1; have HB1 := Lib.hid (below_of_grown hg1 (by simp)); have HC1 := Lib.hid (show CmsO w1 w.heap.size (.slice (some ⟨w.heap.size, 0, none⟩) 0 n) (LM.cmds (l.take 0)) from ⟨[], rfl, hown1, fun e he => by cases he⟩); clear hown1 hg1)
  go_loopw [4, 17] (fun u i wr => ∃ k : Nat, k ≤ n ∧ i = .int .i64 k ∧ Below w.heap.size w wr ∧ CmsO wr w.heap.size u (LM.cmds (l.take k)) ∧ Hid (LM.chkF (l.drop k) = r)) (fun _ i _ => n - (intOf i).toNat)
  case atStart => exact ⟨0, by omega, rfl, HB1.out, HC1.out, HS⟩
  case round =>
    clear HS
    obtain ⟨k, hk, rfl, hB, hC, HR⟩ := hrel
    have HB := Lib.hid hB
    have HLE := Lib.hid hB.size
    clear hB
    by_cases hlt : k < n
    · have hkz : k < l.length := by have := HL.out; omega
      have hr := (HT.out.below HB.out).1
      obtain ⟨ad, uu, rfl, _, hu, hcell⟩ := hr.at_ hlt
      rw [tcx_at l k hkz] at hu
      injection hu with hu
      subst hu
      have hsz := HT.out.2.2.2 _ (List.getElem_mem hkz)
      have HN := Lib.hid (cmds_take l k hkz)
      have hd := HR.out
      rw [List.drop_eq_getElem_cons hkz] at hd
      obtain ⟨z, hz⟩ : ∃ z, z = l[k] := ⟨_, rfl⟩
      rw [← hz] at hcell hsz HN hd
      clear hz hr HR
      unfold LM.chkF at hd
      have CR := Lib.hid (pread_ge z (LM.read_is z) hsz wr)
      have HE := Lib.hid (LM.er_cases z)
      have HC := Lib.hid hC
      clear hC hsz
      generalize LM.er z = y at CR HE hd
      generalize LM.cm z = x at CR HN
      have HD := Lib.hid hd
      clear hd
      obtain ⟨k0, ⟨mi, mg, mt, mk, mb⟩, aid, atm, ams, atp, awh, an⟩ := x
      go_wp2_with fail
      refine (CR.out).mono ?_
      rintro e1 w2 ⟨v, rfl, ⟨A1, c1, P, q, rfl, r1, r3⟩, hb⟩
      simp only at r1 r3
      unfold ccells
      rcases HE.out with rfl | hy
      · have HD2 := Lib.hid (show LM.chkF (l.drop (k + 1)) = r by have := HD.out; rwa [if_pos rfl] at this)
        clear HD HE
        have hb2 : Below w2.heap.size w2 ((w2.alloc (.cells #[.int .u8 k0, .int .i64 mi, .slice A1 mg.length c1, .int .i64 mt, .string mk, .string mb, .int .i64 aid, .int .i64 atm, .slice P ams.length q, .int .i64 atp, .int .i64 awh, .int .i64 an] 91)).alloc (.cells #[.int .u8 k0, .int .i64 mi, .slice A1 mg.length c1, .int .i64 mt, .string mk, .string mb, .int .i64 aid, .int .i64 atm, .slice P ams.length q, .int .i64 atp, .int .i64 awh, .int .i64 an] 91)) := ((Below.refl _ _).alloc (Nat.le_refl _) _).alloc (by simp) _
        have hb3 := bmore hb hb2 (Nat.le_refl _)
        replace HB := Lib.hid (bmore HB.out hb3 (Nat.le_refl _))
        have HX := Lib.hid (show Box ((w2.alloc (.cells #[.int .u8 k0, .int .i64 mi, .slice A1 mg.length c1, .int .i64 mt, .string mk, .string mb, .int .i64 aid, .int .i64 atm, .slice P ams.length q, .int .i64 atp, .int .i64 awh, .int .i64 an] 91)).alloc (.cells #[.int .u8 k0, .int .i64 mi, .slice A1 mg.length c1, .int .i64 mt, .string mk, .string mb, .int .i64 aid, .int .i64 atm, .slice P ams.length q, .int .i64 atp, .int .i64 awh, .int .i64 an] 91)) (w2.heap.size + 1) 91 #[.int .u8 k0, .int .i64 mi, .slice A1 mg.length c1, .int .i64 mt, .string mk, .string mb, .int .i64 aid, .int .i64 atm, .slice P ams.length q, .int .i64 atp, .int .i64 awh, .int .i64 an] from Box.new_at _ (by simp))
        obtain ⟨lst, g1, g2, g3⟩ := HC.out
        have hlt2 : ∀ g, u4.ownBlock = some g → g < wr.heap.size := fun g hg => own_lt g2 hg
        have N1 : Hid (∀ ad, A1 = some ad → 0 < mg.length → u4.ownBlock ≠ some ad.block) := Lib.hid (fun ad e hn q => by have := hlt2 _ q; have := r1.2 ad e hn; omega)
        have N2 : Hid (∀ ad, P = some ad → 0 < ams.length → u4.ownBlock ≠ some ad.block) := Lib.hid (fun ad e hn q => by have := hlt2 _ q; have := r3.2 ad e hn; omega)
        have HG1 := Lib.hid g1
        have HO := Lib.hid (own_below3 g2 hb3)
        have HRs := Lib.hid (g3.below hb3)
        have H1 := Lib.hid (r1.below hb2)
        have H2 := Lib.hid (r3.below hb2)
        have hll : lst.length ≤ 100000 := by have := congrArg List.length g1; simp [LM.cmds] at this; omega
        clear hb hb2 hb3 r1 r3 CR hcell g1 g2 g3 hlt2
        go_wp2_with (at_builtin; refine wpList_append_g _ rfl _ _ 73 rfl w.heap.size 91 i0 _ 12 144 Tryz.underlying73 hi hz0 hz1 hz2 rfl (by omega) _ _ _ rfl HO.out (some ⟨w2.heap.size + 1, 0, none⟩) 1 1 (ecell ⟨A1, c1, P, q, ⟨k0, ⟨mi, mg, mt, mk, mb⟩, aid, atm, ams, atp, awh, an⟩⟩) rfl (rdG_box HX.out rfl rfl) (ecell_one _) (by unfold maxLen; omega) (by omega) (by have := HB.out.size; exact this) ?_; intro v2 w5 hown2 hg2 hob2)
        have hnext := cmsO_next lst HG1.out HRs.out (H1.out.mono HLE.out) (H2.out.mono HLE.out) N1.out N2.out hg2 hown2 hob2
        have hB5 := below_row HB.out HO.out HB.out.size hg2
        clear hown2 hg2 hob2
        rw [← HN.out] at hnext
        go_roundw
        case rel => exact ⟨k + 1, by omega, by go_num, hB5, hnext, HD2⟩
        case measure => simp [intOf]; omega
      · have HD2 := Lib.hid (show (8 : Int) = r by have := HD.out; rwa [if_neg (by rcases hy with rfl | rfl <;> decide)] at this)
        replace HB := Lib.hid ((bmore HB.out hb (Nat.le_refl _)).alloc (by have := HB.out.size; have := hb.size; omega) (.cells #[.int .u8 k0, .int .i64 mi, .slice A1 mg.length c1, .int .i64 mt, .string mk, .string mb, .int .i64 aid, .int .i64 atm, .slice P ams.length q, .int .i64 atp, .int .i64 awh, .int .i64 an] 91))
        clear HD HE hb CR hcell r1 r3 HC HN
        rcases hy with rfl | rfl
        all_goals
          go_wp2_with fail
          go_ret2
          exact coIs_bad (by rw [HR0.out]; exact HD2.out.symm) (by decide) HB.out
    · have hd : l.take k = l := List.take_of_length_le (by have := HL.out; omega)
      have h0 : 0 = r := by have := HR.out; rw [List.drop_of_length_le (by have := HL.out; omega)] at this; simpa [LM.chkF] using this
      have HC := Lib.hid (hd ▸ hC)
      have H0 := Lib.hid h0
      clear hC hd h0
      go_wp2
      go_ret2
      exact coIs_ok (by rw [HR0.out]; exact H0.out.symm) HC.out HB.out
end Go.Proofs.YteebeiaokfenmaaGreat.LP

namespace Go.Proofs.YteebeiaokfenmaaGreat.KP
open Go.RowKit CP TP LP
open CM (Mg Cm)
open TM (Sp)
open KM (Wt Sk)
set_option linter.unusedVariables false
set_option linter.unusedSimpArgs false

/-- all blocks but those of X stay -/
structure KpX (X : Nat → Prop) (a b : World) : Prop where
  os : b.os = a.os
  tape : b.tape = a.tape
  output : b.output = a.output
  size : a.heap.size ≤ b.heap.size
  block : ∀ g, g < a.heap.size → ¬ X g → b.heap[g]? = a.heap[g]?
section
variable {X X' : Nat → Prop} {a b c : World}
theorem KpX.refl (X : Nat → Prop) (a : World) : KpX X a a := ⟨rfl, rfl, rfl, Nat.le_refl _, fun _ _ _ => rfl⟩
theorem KpX.of_below (h : Below a.heap.size a b) : KpX X a b := ⟨h.os, h.tape, h.output, h.size, fun g hg _ => h.block g hg⟩
theorem KpX.mono (h : KpX X a b) (hx : ∀ g, X g → X' g) : KpX X' a b := ⟨h.os, h.tape, h.output, h.size, fun g hg hn => h.block g hg fun k => hn (hx g k)⟩
theorem KpX.trans (h : KpX X a b) (k : KpX X' b c) (hx : ∀ g, X' g → X g ∨ a.heap.size ≤ g) : KpX X a c :=
  ⟨k.os.trans h.os, k.tape.trans h.tape, k.output.trans h.output, Nat.le_trans h.size k.size, fun g hg hn =>
    (k.block g (Nat.lt_of_lt_of_le hg h.size) fun q => by rcases hx g q with r | r; exact hn r; omega).trans (h.block g hg hn)⟩
theorem KpX.below {n : Nat} (h : KpX X a b) (hn : n ≤ a.heap.size) (hx : ∀ g, X g → n ≤ g) : Below n a b := ⟨h.os, h.tape, h.output, h.size, fun g hg => h.block g (by omega) fun q => by have := hx g q; omega⟩
theorem KpX.box {g : Nat} {t : TypeId} {cs : Array Value} (h : KpX X a b) (hb : Box a g t cs) (hn : ¬ X g) : Box b g t cs := (h.block g hb.lt hn).trans hb
theorem KpX.own {base s n : Nat} {e : TypeId} {v : Value} {xs : List Value} (k : KpX X a b) (h : a.ownsRow base e s v n xs) (hx : ∀ g, X g → g < base ∨ a.heap.size ≤ g) : b.ownsRow base e s v n xs := by
  refine ⟨h.1, ?_⟩
  rcases h.2 with h0 | ⟨g, cap, cur, hv, hb, hg, hrest⟩
  · exact .inl h0
  · have hl : g < a.heap.size := by
      rcases Nat.lt_or_ge g a.heap.size with k | k
      · exact k
      · rw [Array.getElem?_eq_none k] at hg; cases hg
    exact .inr ⟨g, cap, cur, hv, hb, (k.block g hl fun q => by have := hx g q; omega).trans hg, hrest⟩
theorem KpX.row {A : Option Addr} {d base : Nat} {L : List Int} (k : KpX X a b) (h : RowGe a base A d L) (hx : ∀ g, X g → g < base ∨ a.heap.size ≤ g) : RowGe b base A d L := by
  refine ⟨⟨⟨h.1.1.1, fun hn => ?_⟩, h.1.2⟩, h.2, fun hn => ?_⟩
  · obtain ⟨g, cur, e, hb, hb2, hs⟩ := h.3 hn
    obtain ⟨ad, e2, hB, hc⟩ := h.1.1.2 hn
    rw [e] at e2
    injection e2 with e2
    subst e2
    have hx' := k.box hb2 fun q => by have := hx g q; have := hb2.lt; omega
    refine ⟨⟨g, 0, none⟩, e, hx'.lt, fun j u hu => ?_⟩
    have := hc j u hu
    rw [add_none] at this ⊢
    rw [hb2.cell] at this
    rw [hx'.cell]
    exact this
  · obtain ⟨g, cur, e, hb, hb2, hs⟩ := h.3 hn
    exact ⟨g, cur, e, hb, k.box hb2 fun q => by have := hx g q; have := hb2.lt; omega, hs⟩
theorem KpX.ko {α : Type} {K : Kd α} {base : Nat} {T : TypeId} {v : Value} {l : List α} (k : KpX X a b) (h : KO K a base T v l) (hx : ∀ g, X g → g < base ∨ a.heap.size ≤ g) : KO K b base T v l := by
  obtain ⟨es, h1, h2, h3⟩ := h
  exact ⟨es, h1, k.own h2 hx, fun e he => ⟨k.row (h3 e he).1 hx, (h3 e he).2⟩⟩
theorem KpX.sko {base : Nat} {v : Value} {s : Sk} (k : KpX X a b) (h : SkO a base v s) (hx : ∀ g, X g → g < base ∨ a.heap.size ≤ g) : SkO b base v s := by
  obtain ⟨vw, vd, e, h1, h2⟩ := h
  exact ⟨vw, vd, e, k.ko h1 hx, k.own h2 hx⟩
end
/-- so it stays, whatever is done to the blocks of X -/
def Stb (X : Nat → Prop) (W : World) (F : World → Prop) : Prop := ∀ W', KpX X W W' → F W'
theorem Stb.at_ {X : Nat → Prop} {W : World} {F : World → Prop} (h : Stb X W F) : F W := h W (KpX.refl _ _)
theorem Stb.next {X X' Y : Nat → Prop} {W W' : World} {F : World → Prop} (h : Stb X W F) (k : KpX Y W W') (h1 : ∀ g, Y g → X g ∨ W.heap.size ≤ g) (h2 : ∀ g, X' g → X g ∨ W.heap.size ≤ g) : Stb X' W' F := fun W'' k2 => by
  refine h W'' ⟨k2.os.trans k.os, k2.tape.trans k.tape, k2.output.trans k.output, Nat.le_trans k.size k2.size, fun g hg hn => ?_⟩
  rw [k2.block g (Nat.lt_of_lt_of_le hg k.size) (fun q => by rcases h2 g q with r | r; exact hn r; omega)]
  exact k.block g hg fun q => by rcases h1 g q with r | r; exact hn r; omega
theorem stb_sk {X : Nat → Prop} {W : World} {b : Nat} {v : Value} {s : Sk} (h : SkO W b v s) (hx : ∀ g, X g → g < b ∨ W.heap.size ≤ g) : Stb X W (fun W => SkIs W v s) := fun W' k => (k.sko h hx).is
theorem Stb.below {X : Nat → Prop} {W W' : World} {F : World → Prop} (h : Stb X W F) (hb : Below W.heap.size W W') : Stb X W' F := fun W2 k => h W2 ((KpX.of_below hb).trans k fun q hq => .inl hq)
/-- a step's cells -/
def scells (A : Option Addr) (c : Nat) (B : Option Addr) (d : Nat) (x : Cm) (c0 : Int) (v0 d0 : Value) (c1 : Int) (v1 d1 vm : Value) : Array Value :=
  #[.int .u8 x.k, .int .i64 x.m.id, .slice A x.m.gs.length c, .int .i64 x.m.tp, .string x.m.key, .string x.m.body, .int .i64 x.id, .int .i64 x.tm, .slice B x.ms.length d, .int .i64 x.tp, .int .i64 x.wh, .int .i64 x.n,
    .int .i64 c0, v0, d0, .int .i64 c1, v1, d1, vm]
/-- the state behind some commands -/
abbrev stA (g : Int) (cs : List Cm) (k : Nat) : Sk := (OM.play g (cs.take k)).1
/-- who is handed the steps -/
structure See (N : FuncId) (caps : Array Value) (g : Int) (cs : List Cm) (W0 : World) (B1 : Nat) (R : Nat → (Nat → Prop) → World → Prop) : Prop where
  en : ∀ (args : Array Value) (w : World), (callFunc N args).run Tryz.prog w = .ok (.enter N args) w
  keep : ∀ k X W W', R k X W → Below B1 W W' → Kept (fun e => e = 39) W W' → R k X W'
  lt : ∀ k X W, R k X W → ∀ g, X g → g < W.heap.size
  no : ∀ k c X W, cs[k]? = some c → OM.one (stA g cs k) g c = (stA g cs k, []) → R k X W → R (k + 1) X W
  go : ∀ (k : Nat) (e : El) (X : Nat → Prop) (W : World) (va vda vb vdb vm : Value) (b : Nat), cs[k]? = some e.x → (KM.putF (stA g cs k) g e.x).2.2 = true → R k X W → Below W0.heap.size W0 W → RowIs W0 e.A e.c e.x.m.gs → RowIs W0 e.B e.d e.x.ms →
    SkIs W (vsk (stA g cs k).c va vda) (stA g cs k) → (∀ g, X g → g < b) → b ≤ W.heap.size → B1 ≤ b → SkO W b (vsk (KM.putF (stA g cs k) g e.x).1.c vb vdb) (KM.putF (stA g cs k) g e.x).1 → KO KM_ W b 33 vm (KM.putF (stA g cs k) g e.x).2.1 →
    Calls Tryz.prog N (#[.agg (scells e.A e.c e.B e.d e.x (stA g cs k).c va vda (KM.putF (stA g cs k) g e.x).1.c vb vdb vm)] ++ caps) W fun x W' => x = .returned (.tuple #[]) ∧ ∃ X', R (k + 1) X' W' ∧ KpX X W W' ∧ ∀ g, X' g → X g ∨ W.heap.size ≤ g
/-- a player -/
def PlrIs (W : World) (v : Value) (g : Int) (cs : List Cm) : Prop := ∃ pc pg sv b, v = .func (.func 56) #[] #[.pointer (some ⟨pc, 0, none⟩), .pointer (some ⟨pg, 0, none⟩)] ∧ Box W pc 73 #[sv] ∧ Box W pg 3 #[.int .i64 g] ∧ CmsO W b sv cs
theorem PlrIs.below {W W' : World} {v : Value} {g : Int} {cs : List Cm} (h : PlrIs W v g cs) (hb : Below W.heap.size W W') : PlrIs W' v g cs := by
  obtain ⟨pc, pg, sv, b, e, h1, h2, h3⟩ := h
  exact ⟨pc, pg, sv, b, e, h1.below hb h1.lt, h2.below hb h2.lt, h3.below hb⟩
theorem cm_fit {c : Cm} (h : CM.may c) : CmFit c ∧ c.m.gs.length ≤ 4 := by
  have hz : MgFit CM.mz := by unfold MgFit i64In maxLen CM.mz; simp
  have hzl : CM.mz.gs.length ≤ 4 := by simp [CM.mz]
  rcases h with rfl | ⟨h1, h2, h3, h4, h5, h6, h7, h8⟩ | ⟨h1, h2, h3, h4, h5, h6, h7, h8⟩ | ⟨h1, h2, h3, h4, h5, h6, h7, h8⟩ | ⟨h1, h2, h3, h4, h5, h6, h7, h8⟩ | ⟨h1, h2, h3, h4, h5, h6, h7, h8⟩
  · refine ⟨?_, by simp [CM.zero, CM.mz]⟩
    unfold CmFit
    exact ⟨by simp [CM.zero], hz, by unfold i64In; simp [CM.zero], by unfold i64In; simp [CM.zero], by unfold i64In; simp [CM.zero], by unfold i64In; simp [CM.zero], by unfold i64In; simp [CM.zero]⟩
  · have := fit_mg h2
    refine ⟨⟨by omega, this.1, ?_, ?_, ?_, ?_, ?_⟩, by have := CM.riseG_len h2.2.2.1 (by decide); omega⟩ <;> (unfold i64In; omega)
  all_goals
    refine ⟨⟨by omega, by rw [h2]; exact hz, ?_, ?_, ?_, ?_, ?_⟩, by rw [h2]; exact hzl⟩ <;> (unfold CM.idOk at *; unfold i64In; omega)
theorem skIs_form {W : World} {c : Int} {vw vd : Value} {s : Sk} (h : SkIs W (vsk c vw vd) s) : ∃ A a B b n m, vw = .slice A n a ∧ vd = .slice B m b := by
  obtain ⟨A, a, B, b, e, _, _⟩ := h
  unfold vsk at e
  injection e with e
  injection e with e
  injection e with _ e
  injection e with e1 e
  injection e with e2 _
  exact ⟨A, a, B, b, _, _, e1, e2⟩
theorem ap_yes {s : Sk} {g : Int} {c : Cm} (h1 : KM.may s) (h2 : 0 ≤ g ∧ g < 4) (h3 : CM.may c) (h : (KM.putF s g c).2.2 = true) : KM.applyF s g c = ((KM.putF s g c).1, (KM.putF s g c).2.1, 0) := by
  unfold KM.applyF
  rw [if_neg (fun q => q h1), if_neg (fun q => q h2), if_neg (fun q => q h3), if_pos h]
theorem ap_no {s : Sk} {g : Int} {c : Cm} (h1 : KM.may s) (h2 : 0 ≤ g ∧ g < 4) (h3 : CM.may c) (h : ¬ (KM.putF s g c).2.2 = true) : KM.applyF s g c = (KM.zero, [], 9) := by
  unfold KM.applyF
  rw [if_neg (fun q => q h1), if_neg (fun q => q h2), if_neg (fun q => q h3), if_neg h]
theorem stA_next {g : Int} {cs : List Cm} {k : Nat} {c : Cm} (h : cs[k]? = some c) : stA g cs (k + 1) = (OM.one (stA g cs k) g c).1 := by
  unfold stA
  rw [List.take_add_one, h]
  show (OM.play g (cs.take k ++ [c])).1 = _
  rw [OM.play_snoc]
  rfl
theorem one_ok {s : Sk} {g : Int} {c : Cm} (h : (KM.putF s g c).2.2 = true) : OM.one s g c = ((KM.putF s g c).1, (KM.putF s g c).2.1) := by unfold OM.one; rw [if_pos h]
theorem one_no {s : Sk} {g : Int} {c : Cm} (h : ¬ (KM.putF s g c).2.2 = true) : OM.one s g c = (s, []) := by unfold OM.one; rw [if_neg h]
/-- the player's loop: its clock lies at p -/
structure PlR (g : Int) (cs : List Cm) (W0 w : World) (X0 : Nat → Prop) (R : Nat → (Nat → Prop) → World → Prop) (p k : Nat) (X : Nat → Prop) (vw vd : Value) (W : World) : Prop where
  b0 : Below W0.heap.size W0 W
  bw : w.heap.size ≤ p
  r : R k X W
  kp : KpX X0 w W
  xs : ∀ q, X q → X0 q ∨ w.heap.size ≤ q
  xp : ¬ X p
  bx : Box W p 39 #[.int .i64 (stA g cs k).c, vw, vd]
  st : Stb (fun q => X q ∨ q = p) W (fun W => SkIs W (vsk (stA g cs k).c vw vd) (stA g cs k))
section
variable {N : FuncId} {caps : Array Value} {g : Int} {cs : List Cm} {W0 w W W' W2 : World} {X0 X X' : Nat → Prop} {R : Nat → (Nat → Prop) → World → Prop} {p k : Nat} {vw vd : Value} {c : Cm}
theorem PlR.skip (h : PlR g cs W0 w X0 R p k X vw vd W) (hS : See N caps g cs W0 w.heap.size R) (hc : cs[k]? = some c) (ho : OM.one (stA g cs k) g c = (stA g cs k, [])) (hb : Below W.heap.size W W') : PlR g cs W0 w X0 R p (k + 1) X vw vd W' := by
  have e : stA g cs (k + 1) = stA g cs k := by rw [stA_next hc, ho]
  refine ⟨bmore h.b0 hb (Nat.le_refl _), h.bw, hS.keep _ _ _ _ (hS.no _ _ _ _ hc ho h.r) (hb.mono (h.kp.size)) (Kept.of_below hb), h.kp.trans (KpX.of_below (X := X) hb) h.xs, h.xs, h.xp, by rw [e]; exact h.bx.below hb h.bx.lt, ?_⟩
  rw [e]
  exact h.st.next (KpX.of_below (X := X) hb) (fun q hq => .inl (.inl hq)) (fun q hq => .inl hq)
/-- behind the step: W at its call, W' behind it -/
theorem PlR.step {b q : Nat} {vb vdb : Value} (h : PlR g cs W0 w X0 R p k X vw vd W) (hS : See N caps g cs W0 w.heap.size R) (hX : ∀ g, X0 g → W0.heap.size ≤ g) (hw0 : W0.heap.size ≤ w.heap.size) (hc : cs[k]? = some c) (hp : (KM.putF (stA g cs k) g c).2.2 = true)
    (h1 : R (k + 1) X' W') (h2 : KpX X W W') (h3 : ∀ g, X' g → X g ∨ W.heap.size ≤ g) (hs : SkO W b (vsk (KM.putF (stA g cs k) g c).1.c vb vdb) (KM.putF (stA g cs k) g c).1) (hx : ∀ g, X g → g < b) (hpb : p < b)
    : PlR g cs W0 w X0 R p (k + 1) X' vb vdb (((W'.setCell ⟨p, 0, none⟩ (.int .i64 (KM.putF (stA g cs k) g c).1.c)).setCell ⟨p, 1, none⟩ vb).setCell ⟨p, 2, none⟩ vdb) := by
  have e : stA g cs (k + 1) = (KM.putF (stA g cs k) g c).1 := by rw [stA_next hc, one_ok hp]
  have hb' := h2.box h.bx h.xp
  have hpp := hb'.put3 (.int .i64 (KM.putF (stA g cs k) g c).1.c) vb vdb
  have hbl : Below p W' (((W'.setCell ⟨p, 0, none⟩ (.int .i64 (KM.putF (stA g cs k) g c).1.c)).setCell ⟨p, 1, none⟩ vb).setCell ⟨p, 2, none⟩ vdb) := below_put3 (Below.refl _ _) (Nat.le_refl _) _ _ _
  have hkp : KpX (fun q => q = p) W' (((W'.setCell ⟨p, 0, none⟩ (.int .i64 (KM.putF (stA g cs k) g c).1.c)).setCell ⟨p, 1, none⟩ vb).setCell ⟨p, 2, none⟩ vdb) :=
    ⟨hbl.os, hbl.tape, hbl.output, hbl.size, fun q hq hn => ((Below.heap_setCell _ ⟨p, 2, none⟩ _ q hn).trans (Below.heap_setCell _ ⟨p, 1, none⟩ _ q hn)).trans (Below.heap_setCell _ ⟨p, 0, none⟩ _ q hn)⟩
  have hxw : ∀ q, X q → W0.heap.size ≤ q := fun q hq => by
    rcases h.xs q hq with k | k
    · exact hX q k
    · omega
  have hbw := h.bw
  have hb0 : Below W0.heap.size W0 W' := h.b0.trans (h2.below h.b0.size hxw)
  have hk1 : KpX X0 w W' := h.kp.trans h2 h.xs
  refine ⟨hb0.trans (hbl.mono (by omega)), h.bw, hS.keep _ _ _ _ h1 (hbl.mono h.bw) (kept_put3 hb' _ _ _), hk1.trans hkp (fun q hq => .inr (by rw [hq]; exact h.bw)), fun q hq => ?_, fun hq => ?_, by rw [e]; exact hpp, ?_⟩
  · rcases h3 q hq with k | k
    · exact h.xs q k
    · exact .inr (Nat.le_trans h.kp.size k)
  · rcases h3 p hq with k | k
    · exact h.xp k
    · exact absurd h.bx.lt (by omega)
  · rw [e]
    have s1 : Stb (fun q => X q ∨ q = p) W (fun W => SkIs W (vsk (KM.putF (stA g cs k) g c).1.c vb vdb) (KM.putF (stA g cs k) g c).1) := stb_sk hs fun q hq => by
      rcases hq with k | k
      · exact .inl (hx q k)
      · exact .inl (by omega)
    have s2 : Stb (fun q => X' q ∨ q = p) W' (fun W => SkIs W (vsk (KM.putF (stA g cs k) g c).1.c vb vdb) (KM.putF (stA g cs k) g c).1) := s1.next h2 (fun q hq => .inl (.inl hq)) fun q hq => by
      rcases hq with k | k
      · rcases h3 q k with k | k
        · exact .inl (.inl k)
        · exact .inr k
      · exact .inl (.inr k)
    exact s2.next hkp (fun q hq => .inl (.inr hq)) fun q hq => .inl hq
/-- a round's own new blocks ahead of the step -/
theorem PlR.more (h : PlR g cs W0 w X0 R p k X vw vd W) (hS : See N caps g cs W0 w.heap.size R) (hb : Below W.heap.size W W') : PlR g cs W0 w X0 R p k X vw vd W' :=
  ⟨bmore h.b0 hb (Nat.le_refl _), h.bw, hS.keep _ _ _ _ h.r (hb.mono h.kp.size) (Kept.of_below hb), h.kp.trans (KpX.of_below (X := X) hb) h.xs, h.xs, h.xp, h.bx.below hb h.bx.lt, h.st.next (KpX.of_below (X := X) hb) (fun q hq => .inl (.inl hq)) (fun q hq => .inl hq)⟩
end
end Go.Proofs.YteebeiaokfenmaaGreat.KP

namespace Go.Proofs.YteebeiaokfenmaaGreat.KP
open Go.RowKit CP TP LP
open CM (Mg Cm)
open TM (Sp)
open KM (Wt Sk)
set_option linter.unusedVariables false
set_option linter.unusedSimpArgs false
set_option maxRecDepth 100000
/-- what is wrong with a group, a log -/
def asked (g : Int) (l : List ByteArray) : Int := if 0 ≤ g ∧ g < 4 then LM.chk l else 2
theorem asked_cases (g : Int) (l : List ByteArray) : (asked g l = 2 ∧ ¬ (0 ≤ g ∧ g < 4)) ∨ (asked g l = LM.chk l ∧ 0 ≤ g ∧ g < 4) := by
  unfold asked
  by_cases h : 0 ≤ g ∧ g < 4
  · rw [if_pos h]; exact .inr ⟨rfl, h⟩
  · rw [if_neg h]; exact .inl ⟨rfl, h⟩
theorem asked_zero {g : Int} {l : List ByteArray} (h : asked g l = 0) : (0 ≤ g ∧ g < 4) ∧ LM.chk l = 0 := by
  rcases asked_cases g l with ⟨h1, _⟩ | ⟨h1, h2⟩
  · rw [h1] at h; exact absurd h (by decide)
  · exact ⟨h2, by rw [← h1]; exact h⟩
/-- a log that may be: its commands may be, at most 200 -/
theorem log_may {l : List ByteArray} (h : LM.chk l = 0) : (∀ c ∈ LM.cmds l, CM.may c) ∧ (LM.cmds l).length ≤ 200 := by
  refine ⟨fun x hx => ?_, by rw [LM.cmds, List.length_map]; exact (LM.chk_zero.1 h).1⟩
  obtain ⟨s, hs, rfl⟩ := List.mem_map.1 hx
  exact (LM.cm_may ((LM.chk_zero.1 h).2 s hs)).1
/-- what Play answers -/
def playR (g : Int) (l : List ByteArray) : Sk × List Mg × Int := if asked g l = 0 then ((OM.play g (LM.cmds l)).1, (OM.play g (LM.cmds l)).2.1, 0) else (KM.zero, [], asked g l)
/-- what playerOf answers -/
def PoQ (r : Int) (g : Int) (cs : List Cm) (w : World) (x : Ending) (w' : World) : Prop :=
  Below w.heap.size w w' ∧ ((r ≠ 0 ∧ x = .returned (.tuple #[.nilFunc, .int .i64 r])) ∨ (r = 0 ∧ ∃ v, x = .returned (.tuple #[v, .int .i64 0]) ∧ PlrIs w' v g cs))
def PoIs (g : Int) (l : List ByteArray) (w : World) : Ending → World → Prop := PoQ (asked g l) g (LM.cmds l) w
theorem poQ_bad {r g : Int} {cs : List Cm} {w w' : World} (h : r ≠ 0) (hb : Below w.heap.size w w') : PoQ r g cs w (.returned (.tuple #[.nilFunc, .int .i64 r])) w' := ⟨hb, .inl ⟨h, rfl⟩⟩
theorem poQ_ok {g : Int} {cs : List Cm} {w w' : World} {v : Value} (hb : Below w.heap.size w w') (h : PlrIs w' v g cs) : PoQ 0 g cs w (.returned (.tuple #[v, .int .i64 0])) w' := ⟨hb, .inr ⟨rfl, v, rfl, h⟩⟩
set_option maxHeartbeats 4000000 in
theorem playerOf_any (g : Int) (A : Option Addr) (n c : Nat) (l : List ByteArray) (w : World) (h : TxIs w A n c l) : Calls Tryz.prog 30 #[.int .i64 g, .slice A n c] w (PoIs g l w) := by
  have HC := Lib.hid (fun W (hb : Below w.heap.size w W) => pcommands_any A n c l W (h.below hb))
  have HA := Lib.hid (asked_cases g l)
  unfold PoIs
  obtain ⟨r, hr⟩ : ∃ r, r = asked g l := ⟨_, rfl⟩
  rw [← hr] at HA ⊢
  unfold CoIs at HC
  obtain ⟨y, hy⟩ : ∃ y, y = LM.chk l := ⟨_, rfl⟩
  rw [← hy] at HA HC
  obtain ⟨cs, hcs⟩ : ∃ cs, cs = LM.cmds l := ⟨_, rfl⟩
  rw [← hcs] at HC ⊢
  clear h hr hy hcs
  obtain ⟨p, hp⟩ : ∃ p, w.heap.size = p := ⟨_, rfl⟩
  have HB := Lib.hid (show Below w.heap.size w (w.alloc (.cells #[.int .i64 g] 3)) from (Below.refl _ _).alloc (Nat.le_refl _) _)
  have X := Lib.hid (Box.new_at (w := w) (t := 3) (cs := #[.int .i64 g]) p hp)
  go_enter Tryz.func30, Tryz.ntmps30
  go_upto_region 1 with (fail)
  generalize w.alloc (.cells #[.int .i64 g] 3) = w1 at HB X ⊢
  have x0 := X.out.cell 0
  simp at x0
  rcases HA.out with ⟨rfl, h2⟩ | ⟨rfl, h2⟩
  · by_cases h3 : g < 0
    · go_wp2_with fail
      go_ret2
      exact poQ_bad (by decide) HB.out
    · have h4 : 4 ≤ g := by omega
      go_wp2_with fail
      go_ret2
      exact poQ_bad (by decide) HB.out
  · have h3 : ¬ g < 0 := by omega
    have h4 : ¬ 4 ≤ g := by omega
    go_wp2_with fail
    refine (HC.out _ HB.out).mono ?_
    rintro e w2 ⟨hb, ⟨h0, rfl⟩ | ⟨h0, v, rfl, hv⟩⟩
    · have hk : (r == 0) = false := by simpa using h0
      have HB2 := Lib.hid (bmore HB.out hb (Nat.le_refl _))
      clear hb
      go_wp2_with fail
      go_ret2
      exact poQ_bad h0 (bmore HB2.out ((Below.refl _ _).alloc (Nat.le_refl _) _) (Nat.le_refl _))
    · subst h0
      obtain ⟨q, hq⟩ : ∃ q, w2.heap.size = q := ⟨_, rfl⟩
      have HB2 := Lib.hid (bmore HB.out hb (Nat.le_refl _))
      have X2 := Lib.hid (X.out.below hb X.out.lt)
      obtain ⟨A2, n2, c2, rfl⟩ : ∃ A2 n2 c2, v = .slice A2 n2 c2 := by
        obtain ⟨_, _, ho, _⟩ := hv
        obtain ⟨A2, c2, e, _⟩ := own_form ho
        exact ⟨_, _, _, e⟩
      have HV := Lib.hid hv
      clear hb hv
      go_wp2_with fail
      go_ret2
      exact poQ_ok (bmore HB2.out ((Below.refl _ _).alloc (Nat.le_refl _) _) (Nat.le_refl _)) ⟨q, p, _, _, rfl, Box.new_at _ hq, X2.out.alloc _, HV.out.below ((Below.refl _ _).alloc (Nat.le_refl _) _)⟩
end Go.Proofs.YteebeiaokfenmaaGreat.KP

namespace Go.Proofs.YteebeiaokfenmaaGreat.KP
open Go.RowKit CP TP
open CM (Mg Cm)
open TM (Sp)
open KM (Wt Sk)
set_option linter.unusedVariables false
set_option linter.unusedSimpArgs false
section
variable {α : Type} {K : Kd α} {w w' : World} {b n c : Nat} {A : Option Addr} {l : List α} {T : TypeId} {v : Value}
theorem kO_nexts {v2 : Value} (es es2 : List (Ex α)) (hl : es.map Ex.x = l) (hr : ∀ e ∈ es, RowGe w b e.A e.c (K.gs e.x) ∧ ∀ ad, e.A = some ad → 0 < (K.gs e.x).length → v.ownBlock ≠ some ad.block)
    (hr2 : ∀ e ∈ es2, RowGe w b e.A e.c (K.gs e.x) ∧ ∀ ad, e.A = some ad → 0 < (K.gs e.x).length → v.ownBlock ≠ some ad.block)
    (hg : w.grownBy w' v.ownBlock) (ho : w'.ownsRow b T K.s v2 (es.length + es2.length) (flat (exc K) es ++ flat (exc K) es2)) (hob : v2.ownBlock = v.ownBlock ∨ v2.ownBlock = some w.heap.size) : KO K w' b T v2 (l ++ es2.map Ex.x) := by
  refine ⟨es ++ es2, by simp [hl], by rw [flat_append, List.length_append]; exact ho, fun e he => ?_⟩
  have hfin : ∀ ad : Addr, ad.block < w.heap.size → v.ownBlock ≠ some ad.block → v2.ownBlock ≠ some ad.block := fun ad hlt hne => by
    rcases hob with k | k
    · rw [k]; exact hne
    · rw [k]; intro q; injection q with q; omega
  have key : ∀ e : Ex α, (RowGe w b e.A e.c (K.gs e.x) ∧ ∀ ad, e.A = some ad → 0 < (K.gs e.x).length → v.ownBlock ≠ some ad.block) → RowGe w' b e.A e.c (K.gs e.x) ∧ ∀ ad, e.A = some ad → 0 < (K.gs e.x).length → v2.ownBlock ≠ some ad.block := fun e ⟨g1, g2⟩ =>
    ⟨rowGe_grown g1 hg g2, fun ad e1 hn => hfin ad (row_lt g1.1 e1 hn) (g2 ad e1 hn)⟩
  rcases List.mem_append.1 he with he | he
  · exact key e (hr e he)
  · exact key e (hr2 e he)
theorem wpList_append_kos {P : Program} {ops : Array Oper} {rest : List Oper} {o : Oper} {a : Act} {Q : Exit → Act → World → Prop} {w2 : World} {b2 : Nat} {T2 : TypeId} {A9 : Option Addr} {n9 c9 : Nat} {A2 : Option Addr} {m2 c2 : Nat} {l2 : List α}
    (hgd : o.guard = none) (so xo : Operand) (t : TypeId) (ho : o.op = .call { callee := .builtin .append, args := #[so, xo], argTypes := #[t, t] })
    (i : TypeInfo) (z : Value) (bytes : Nat) (ht : P.underlying t = some (.slice T)) (hi : P.info? T = some i) (hz : i.zero = some z) (hsize : i.size = K.s) (hby : i.bytes = bytes) (hzs : z.cells.size = K.s)
    (hs : a.eval so = .slice A9 n9 c9) (hko : KO K w b T (.slice A9 n9 c9) l) (hx : a.eval xo = .slice A2 m2 c2) (hko2 : KO K w2 b2 T2 (.slice A2 m2 c2) l2) (hb2 : b ≤ b2) (hw2 : Below w2.heap.size w2 w)
    (hne : ∀ g, (Value.slice A9 n9 c9).ownBlock = some g → g < b2 ∨ w2.heap.size ≤ g) (h63 : n9 + m2 ≤ maxLen) (hbytes : (n9 + m2) * bytes ≤ 140737488355328) (hb : b ≤ w.heap.size)
    (h : ∀ A' c' w', KO K w' b T (.slice A' (n9 + m2) c') (l ++ l2) → w.grownBy w' (Value.slice A9 n9 c9).ownBlock →
      ((Value.slice A' (n9 + m2) c').ownBlock = (Value.slice A9 n9 c9).ownBlock ∨ (Value.slice A' (n9 + m2) c').ownBlock = some w.heap.size) → wpList P ops Q rest (a.put o.dst (.slice A' (n9 + m2) c')) w') :
    wpList P ops Q (o :: rest) a w := by
  obtain ⟨es, hl, ho1, hr⟩ := hko
  have hn : n9 = es.length := by
    obtain ⟨A', c', e, _⟩ := own_form ho1
    injection e
  rw [← hn] at ho1
  obtain ⟨es2, hl2, ho2, hr2⟩ := hko2
  have hm : m2 = es2.length := by
    obtain ⟨A', c', e, _⟩ := own_form ho2
    injection e
  rw [← hm] at ho2
  refine wpList_append_g _ hgd so xo t ho b T i z K.s bytes ht hi hz hsize hby hzs K.pos (.slice A9 n9 c9) n9 (flat (exc K) es) hs ho1 A2 m2 c2 (flat (exc K) es2) hx ((rdg_own ho2).below hw2) (exc_one K es2) h63 hbytes hb ?_
  intro v' w' hown hgr hob
  obtain ⟨A', c', rfl, _, _⟩ := own_form hown
  refine h A' c' w' ?_ hgr hob
  rw [← hl2]
  refine kO_nexts es es2 hl hr (fun e he => ⟨((hr2 e he).1.mono hb2).below hw2, fun ad e1 hn q => ?_⟩) hgr (by rw [← hn, ← hm]; exact hown) hob
  have k1 := row_lt (hr2 e he).1.1 e1 hn
  have k2 := (hr2 e he).1.2 ad e1 hn
  have := hne _ q
  omega
end
end Go.Proofs.YteebeiaokfenmaaGreat.KP
