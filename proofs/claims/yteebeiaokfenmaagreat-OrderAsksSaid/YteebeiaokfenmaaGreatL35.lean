/- Contracts of functions, L35: each as its theorem says. -/
import Derived.Test.YteebeiaokfenmaaGreatL34
set_option linter.unusedVariables false
set_option linter.unusedSimpArgs false
set_option maxRecDepth 100000
set_option maxHeartbeats 16000000
namespace Go.Proofs.YteebeiaokfenmaaGreat
namespace KP
open Go.RowKit CP TP LP
open CM (Mg Cm)
open TM (Sp)
open KM (Wt Sk)
structure KpX (X : Nat → Prop) (a b : World) : Prop where
 os : b.os = a.os
 tape : b.tape = a.tape
 output : b.output = a.output
 size : a.heap.size ≤ b.heap.size
 block : ∀ g, g < a.heap.size → ¬ X g → b.heap[g]? = a.heap[g]?
section
variable {X X' : Nat → Prop} {a b c : World}
theorem KpX.refl (X : Nat → Prop) (a : World) : KpX X a a := ⟨rfl, rfl, rfl, Nat.le_refl _, fun _ _ _ => rfl⟩
theorem KpX.of_below (h : Below a.heap.size a b) : KpX X a b := ⟨h.os, h.tape, h.output, h.size, fun g hg _ => h.block g hg⟩
theorem KpX.trans (h : KpX X a b) (k : KpX X' b c) (hx : ∀ g, X' g → X g ∨ a.heap.size ≤ g) : KpX X a c :=
 ⟨k.os.trans h.os, k.tape.trans h.tape, k.output.trans h.output, Nat.le_trans h.size k.size, fun g hg hn =>
  (k.block g (Nat.lt_of_lt_of_le hg h.size) fun q => by rcases hx g q with r | r; exact hn r; omega).trans (h.block g hg hn)⟩
theorem KpX.below {n : Nat} (h : KpX X a b) (hn : n ≤ a.heap.size) (hx : ∀ g, X g → n ≤ g) : Below n a b := ⟨h.os, h.tape, h.output, h.size, fun g hg => h.block g (by omega) fun q => by have := hx g q; omega⟩
theorem KpX.box {g : Nat} {t : TypeId} {cs : Array Value} (h : KpX X a b) (hb : Box a g t cs) (hn : ¬ X g) : Box b g t cs := (h.block g hb.lt hn).trans hb
theorem KpX.own {base s n : Nat} {e : TypeId} {v : Value} {xs : List Value} (k : KpX X a b) (h : a.ownsRow base e s v n xs) (hx : ∀ g, X g → g < base ∨ a.heap.size ≤ g) : b.ownsRow base e s v n xs := by
 refine ⟨h.1, ?_⟩
 rcases h.2 with h0 | ⟨g, cap, cur, hv, hb, hg, hrest⟩
 ·exact .inl h0
 ·have hl : g < a.heap.size := by
   rcases Nat.lt_or_ge g a.heap.size with k | k
   ·exact k
   ·rw [Array.getElem?_eq_none k] at hg; cases hg
  exact .inr ⟨g, cap, cur, hv, hb, (k.block g hl fun q => by have := hx g q; omega).trans hg, hrest⟩
theorem KpX.row {A : Option Addr} {d base : Nat} {L : List Int} (k : KpX X a b) (h : RowGe a base A d L) (hx : ∀ g, X g → g < base ∨ a.heap.size ≤ g) : RowGe b base A d L := by
 refine ⟨⟨⟨h.1.1.1, fun hn => ?_⟩, h.1.2⟩, h.2, fun hn => ?_⟩
 ·obtain ⟨g, cur, e, hb, hb2, hs⟩ := h.3 hn
  obtain ⟨ad, e2, hB, hc⟩ := h.1.1.2 hn
  rw [e] at e2
  injection e2 with e2
  subst e2
  have hx' := k.box hb2 fun q => by have := hx g q; have := hb2.lt; omega
  refine ⟨⟨g, 0, none⟩, e, hx'.lt, fun j u hu => ?_⟩
  have := hc j u hu
  rw [add_none] at this ⊢
  rw [hb2.cell] at this
  rw [hx'.cell]
  exact this
 ·obtain ⟨g, cur, e, hb, hb2, hs⟩ := h.3 hn
  exact ⟨g, cur, e, hb, k.box hb2 fun q => by have := hx g q; have := hb2.lt; omega, hs⟩
theorem KpX.ko {α : Type} {K : Kd α} {base : Nat} {T : TypeId} {v : Value} {l : List α} (k : KpX X a b) (h : KO K a base T v l) (hx : ∀ g, X g → g < base ∨ a.heap.size ≤ g) : KO K b base T v l := by
 obtain ⟨es, h1, h2, h3⟩ := h
 exact ⟨es, h1, k.own h2 hx, fun e he => ⟨k.row (h3 e he).1 hx, (h3 e he).2⟩⟩
theorem KpX.sko {base : Nat} {v : Value} {s : Sk} (k : KpX X a b) (h : SkO a base v s) (hx : ∀ g, X g → g < base ∨ a.heap.size ≤ g) : SkO b base v s := by
 obtain ⟨vw, vd, e, h1, h2⟩ := h
 exact ⟨vw, vd, e, k.ko h1 hx, k.own h2 hx⟩
end
def Stb (X : Nat → Prop) (W : World) (F : World → Prop) : Prop := ∀ W', KpX X W W' → F W'
theorem Stb.at_ {X : Nat → Prop} {W : World} {F : World → Prop} (h : Stb X W F) : F W := h W (KpX.refl _ _)
theorem Stb.next {X X' Y : Nat → Prop} {W W' : World} {F : World → Prop} (h : Stb X W F) (k : KpX Y W W') (h1 : ∀ g, Y g → X g ∨ W.heap.size ≤ g) (h2 : ∀ g, X' g → X g ∨ W.heap.size ≤ g) : Stb X' W' F := fun W'' k2 => by
 refine h W'' ⟨k2.os.trans k.os, k2.tape.trans k.tape, k2.output.trans k.output, Nat.le_trans k.size k2.size, fun g hg hn => ?_⟩
 rw [k2.block g (Nat.lt_of_lt_of_le hg k.size) (fun q => by rcases h2 g q with r | r; exact hn r; omega)]
 exact k.block g hg fun q => by rcases h1 g q with r | r; exact hn r; omega
theorem stb_sk {X : Nat → Prop} {W : World} {b : Nat} {v : Value} {s : Sk} (h : SkO W b v s) (hx : ∀ g, X g → g < b ∨ W.heap.size ≤ g) : Stb X W (fun W => SkIs W v s) := fun W' k => (k.sko h hx).is
theorem Stb.below {X : Nat → Prop} {W W' : World} {F : World → Prop} (h : Stb X W F) (hb : Below W.heap.size W W') : Stb X W' F := fun W2 k => h W2 ((KpX.of_below hb).trans k fun q hq => .inl hq)
def scells (A : Option Addr) (c : Nat) (B : Option Addr) (d : Nat) (x : Cm) (c0 : Int) (v0 d0 : Value) (c1 : Int) (v1 d1 vm : Value) : Array Value :=
 #[.int .u8 x.k, .int .i64 x.m.id, .slice A x.m.gs.length c, .int .i64 x.m.tp, .string x.m.key, .string x.m.body, .int .i64 x.id, .int .i64 x.tm, .slice B x.ms.length d, .int .i64 x.tp, .int .i64 x.wh, .int .i64 x.n,
  .int .i64 c0, v0, d0, .int .i64 c1, v1, d1, vm]
abbrev stA (g : Int) (cs : List Cm) (k : Nat) : Sk := (OM.play g (cs.take k)).1
structure See (N : FuncId) (caps : Array Value) (g : Int) (cs : List Cm) (W0 : World) (B1 : Nat) (R : Nat → (Nat → Prop) → World → Prop) : Prop where
 en : ∀ (args : Array Value) (w : World), (callFunc N args).run Tryz.prog w = .ok (.enter N args) w
 keep : ∀ k X W W', R k X W → Below B1 W W' → Kept (fun e => e = 39) W W' → R k X W'
 lt : ∀ k X W, R k X W → ∀ g, X g → g < W.heap.size
 no : ∀ k c X W, cs[k]? = some c → OM.one (stA g cs k) g c = (stA g cs k, []) → R k X W → R (k + 1) X W
 go : ∀ (k : Nat) (e : El) (X : Nat → Prop) (W : World) (va vda vb vdb vm : Value) (b : Nat), cs[k]? = some e.x → (KM.putF (stA g cs k) g e.x).2.2 = true → R k X W → Below W0.heap.size W0 W → RowIs W0 e.A e.c e.x.m.gs → RowIs W0 e.B e.d e.x.ms →
  SkIs W (vsk (stA g cs k).c va vda) (stA g cs k) → (∀ g, X g → g < b) → b ≤ W.heap.size → B1 ≤ b → SkO W b (vsk (KM.putF (stA g cs k) g e.x).1.c vb vdb) (KM.putF (stA g cs k) g e.x).1 → KO KM_ W b 33 vm (KM.putF (stA g cs k) g e.x).2.1 →
  Calls Tryz.prog N (#[.agg (scells e.A e.c e.B e.d e.x (stA g cs k).c va vda (KM.putF (stA g cs k) g e.x).1.c vb vdb vm)] ++ caps) W fun x W' => x = .returned (.tuple #[]) ∧ ∃ X', R (k + 1) X' W' ∧ KpX X W W' ∧ ∀ g, X' g → X g ∨ W.heap.size ≤ g
def PlrIs (W : World) (v : Value) (g : Int) (cs : List Cm) : Prop := ∃ pc pg sv b, v = .func (.func 56) #[] #[.pointer (some ⟨pc, 0, none⟩), .pointer (some ⟨pg, 0, none⟩)] ∧ Box W pc 73 #[sv] ∧ Box W pg 3 #[.int .i64 g] ∧ CmsO W b sv cs
theorem PlrIs.below {W W' : World} {v : Value} {g : Int} {cs : List Cm} (h : PlrIs W v g cs) (hb : Below W.heap.size W W') : PlrIs W' v g cs := by
 obtain ⟨pc, pg, sv, b, e, h1, h2, h3⟩ := h
 exact ⟨pc, pg, sv, b, e, h1.below hb h1.lt, h2.below hb h2.lt, h3.below hb⟩
theorem cm_fit {c : Cm} (h : CM.may c) : CmFit c ∧ c.m.gs.length ≤ 4 := by
 have hz : MgFit CM.mz := by unfold MgFit i64In maxLen CM.mz; simp
 have hzl : CM.mz.gs.length ≤ 4 := by simp [CM.mz]
 rcases h with rfl | ⟨h1, h2, h3, h4, h5, h6, h7, h8⟩ | ⟨h1, h2, h3, h4, h5, h6, h7, h8⟩ | ⟨h1, h2, h3, h4, h5, h6, h7, h8⟩ | ⟨h1, h2, h3, h4, h5, h6, h7, h8⟩ | ⟨h1, h2, h3, h4, h5, h6, h7, h8⟩
 ·refine ⟨?_, by simp [CM.zero, CM.mz]⟩
  unfold CmFit
  exact ⟨by simp [CM.zero], hz, by unfold i64In; simp [CM.zero], by unfold i64In; simp [CM.zero], by unfold i64In; simp [CM.zero], by unfold i64In; simp [CM.zero], by unfold i64In; simp [CM.zero]⟩
 ·have := fit_mg h2
  refine ⟨⟨by omega, this.1, ?_, ?_, ?_, ?_, ?_⟩, by have := CM.riseG_len h2.2.2.1 (by decide); omega⟩ <;> (unfold i64In; omega)
 all_goals
  refine ⟨⟨by omega, by rw [h2]; exact hz, ?_, ?_, ?_, ?_, ?_⟩, by rw [h2]; exact hzl⟩ <;> (unfold CM.idOk at *; unfold i64In; omega)
theorem skIs_form {W : World} {c : Int} {vw vd : Value} {s : Sk} (h : SkIs W (vsk c vw vd) s) : ∃ A a B b n m, vw = .slice A n a ∧ vd = .slice B m b := by
 obtain ⟨A, a, B, b, e, _, _⟩ := h
 unfold vsk at e
 injection e with e
 injection e with e
 injection e with _ e
 injection e with e1 e
 injection e with e2 _
 exact ⟨A, a, B, b, _, _, e1, e2⟩
theorem ap_yes {s : Sk} {g : Int} {c : Cm} (h1 : KM.may s) (h2 : 0 ≤ g ∧ g < 4) (h3 : CM.may c) (h : (KM.putF s g c).2.2 = true) : KM.applyF s g c = ((KM.putF s g c).1, (KM.putF s g c).2.1, 0) := by
 unfold KM.applyF
 rw [if_neg (fun q => q h1), if_neg (fun q => q h2), if_neg (fun q => q h3), if_pos h]
theorem ap_no {s : Sk} {g : Int} {c : Cm} (h1 : KM.may s) (h2 : 0 ≤ g ∧ g < 4) (h3 : CM.may c) (h : ¬ (KM.putF s g c).2.2 = true) : KM.applyF s g c = (KM.zero, [], 9) := by
 unfold KM.applyF
 rw [if_neg (fun q => q h1), if_neg (fun q => q h2), if_neg (fun q => q h3), if_neg h]
theorem stA_next {g : Int} {cs : List Cm} {k : Nat} {c : Cm} (h : cs[k]? = some c) : stA g cs (k + 1) = (OM.one (stA g cs k) g c).1 := by
 unfold stA
 rw [List.take_add_one, h]
 show (OM.play g (cs.take k ++ [c])).1 = _
 rw [OM.play_snoc]
 rfl
theorem one_ok {s : Sk} {g : Int} {c : Cm} (h : (KM.putF s g c).2.2 = true) : OM.one s g c = ((KM.putF s g c).1, (KM.putF s g c).2.1) := by unfold OM.one; rw [if_pos h]
theorem one_no {s : Sk} {g : Int} {c : Cm} (h : ¬ (KM.putF s g c).2.2 = true) : OM.one s g c = (s, []) := by unfold OM.one; rw [if_neg h]
structure PlR (g : Int) (cs : List Cm) (W0 w : World) (X0 : Nat → Prop) (R : Nat → (Nat → Prop) → World → Prop) (p k : Nat) (X : Nat → Prop) (vw vd : Value) (W : World) : Prop where
 b0 : Below W0.heap.size W0 W
 bw : w.heap.size ≤ p
 r : R k X W
 kp : KpX X0 w W
 xs : ∀ q, X q → X0 q ∨ w.heap.size ≤ q
 xp : ¬ X p
 bx : Box W p 39 #[.int .i64 (stA g cs k).c, vw, vd]
 st : Stb (fun q => X q ∨ q = p) W (fun W => SkIs W (vsk (stA g cs k).c vw vd) (stA g cs k))
section
variable {N : FuncId} {caps : Array Value} {g : Int} {cs : List Cm} {W0 w W W' W2 : World} {X0 X X' : Nat → Prop} {R : Nat → (Nat → Prop) → World → Prop} {p k : Nat} {vw vd : Value} {c : Cm}
theorem PlR.skip (h : PlR g cs W0 w X0 R p k X vw vd W) (hS : See N caps g cs W0 w.heap.size R) (hc : cs[k]? = some c) (ho : OM.one (stA g cs k) g c = (stA g cs k, [])) (hb : Below W.heap.size W W') : PlR g cs W0 w X0 R p (k + 1) X vw vd W' := by
 have e : stA g cs (k + 1) = stA g cs k := by rw [stA_next hc, ho]
 refine ⟨bmore h.b0 hb n!, h.bw, hS.keep _ _ _ _ (hS.no _ _ _ _ hc ho h.r) (hb.mono (h.kp.size)) (Kept.of_below hb), h.kp.trans (KpX.of_below (X := X) hb) h.xs, h.xs, h.xp, by rw [e]; exact h.bx.below hb h.bx.lt, ?_⟩
 rw [e]
 exact h.st.next (KpX.of_below (X := X) hb) (fun q hq => .inl (.inl hq)) (fun q hq => .inl hq)
theorem PlR.step {b q : Nat} {vb vdb : Value} (h : PlR g cs W0 w X0 R p k X vw vd W) (hS : See N caps g cs W0 w.heap.size R) (hX : ∀ g, X0 g → W0.heap.size ≤ g) (hw0 : W0.heap.size ≤ w.heap.size) (hc : cs[k]? = some c) (hp : (KM.putF (stA g cs k) g c).2.2 = true)
  (h1 : R (k + 1) X' W') (h2 : KpX X W W') (h3 : ∀ g, X' g → X g ∨ W.heap.size ≤ g) (hs : SkO W b (vsk (KM.putF (stA g cs k) g c).1.c vb vdb) (KM.putF (stA g cs k) g c).1) (hx : ∀ g, X g → g < b) (hpb : p < b)
  : PlR g cs W0 w X0 R p (k + 1) X' vb vdb (((W'.setCell ⟨p, 0, none⟩ (.int .i64 (KM.putF (stA g cs k) g c).1.c)).setCell ⟨p, 1, none⟩ vb).setCell ⟨p, 2, none⟩ vdb) := by
 have e : stA g cs (k + 1) = (KM.putF (stA g cs k) g c).1 := by rw [stA_next hc, one_ok hp]
 have hb' := h2.box h.bx h.xp
 have hpp := hb'.put3 (.int .i64 (KM.putF (stA g cs k) g c).1.c) vb vdb
 have hbl : Below p W' (((W'.setCell ⟨p, 0, none⟩ (.int .i64 (KM.putF (stA g cs k) g c).1.c)).setCell ⟨p, 1, none⟩ vb).setCell ⟨p, 2, none⟩ vdb) := below_put3 (Below.refl _ _) n! _ _ _
 have hkp : KpX (fun q => q = p) W' (((W'.setCell ⟨p, 0, none⟩ (.int .i64 (KM.putF (stA g cs k) g c).1.c)).setCell ⟨p, 1, none⟩ vb).setCell ⟨p, 2, none⟩ vdb) :=
  ⟨hbl.os, hbl.tape, hbl.output, hbl.size, fun q hq hn => ((Below.heap_setCell _ ⟨p, 2, none⟩ _ q hn).trans (Below.heap_setCell _ ⟨p, 1, none⟩ _ q hn)).trans (Below.heap_setCell _ ⟨p, 0, none⟩ _ q hn)⟩
 have hxw : ∀ q, X q → W0.heap.size ≤ q := fun q hq => by
  rcases h.xs q hq with k | k
  ·exact hX q k
  ·omega
 have hbw := h.bw
 have hb0 : Below W0.heap.size W0 W' := h.b0.trans (h2.below h.b0.size hxw)
 have hk1 : KpX X0 w W' := h.kp.trans h2 h.xs
 refine ⟨hb0.trans (hbl.mono (by omega)), h.bw, hS.keep _ _ _ _ h1 (hbl.mono h.bw) (kept_put3 hb' _ _ _), hk1.trans hkp (fun q hq => .inr (by rw [hq]; exact h.bw)), fun q hq => ?_, fun hq => ?_, by rw [e]; exact hpp, ?_⟩
 ·rcases h3 q hq with k | k
  ·exact h.xs q k
  ·exact .inr (Nat.le_trans h.kp.size k)
 ·rcases h3 p hq with k | k
  ·exact h.xp k
  ·exact absurd h.bx.lt (by omega)
 ·rw [e]
  have s1 : Stb (fun q => X q ∨ q = p) W (fun W => SkIs W (vsk (KM.putF (stA g cs k) g c).1.c vb vdb) (KM.putF (stA g cs k) g c).1) := stb_sk hs fun q hq => by
   rcases hq with k | k
   ·exact .inl (hx q k)
   ·exact .inl (by omega)
  have s2 : Stb (fun q => X' q ∨ q = p) W' (fun W => SkIs W (vsk (KM.putF (stA g cs k) g c).1.c vb vdb) (KM.putF (stA g cs k) g c).1) := s1.next h2 (fun q hq => .inl (.inl hq)) fun q hq => by
   rcases hq with k | k
   ·rcases h3 q k with k | k
    ·exact .inl (.inl k)
    ·exact .inr k
   ·exact .inl (.inr k)
  exact s2.next hkp (fun q hq => .inl (.inr hq)) fun q hq => .inl hq
theorem PlR.more (h : PlR g cs W0 w X0 R p k X vw vd W) (hS : See N caps g cs W0 w.heap.size R) (hb : Below W.heap.size W W') : PlR g cs W0 w X0 R p k X vw vd W' :=
 ⟨bmore h.b0 hb n!, h.bw, hS.keep _ _ _ _ h.r (hb.mono h.kp.size) (Kept.of_below hb), h.kp.trans (KpX.of_below (X := X) hb) h.xs, h.xs, h.xp, h.bx.below hb h.bx.lt, h.st.next (KpX.of_below (X := X) hb) (fun q hq => .inl (.inl hq)) (fun q hq => .inl hq)⟩
end
def asked (g : Int) (l : List ByteArray) : Int := if 0 ≤ g ∧ g < 4 then LM.chk l else 2
theorem asked_cases (g : Int) (l : List ByteArray) : (asked g l = 2 ∧ ¬ (0 ≤ g ∧ g < 4)) ∨ (asked g l = LM.chk l ∧ 0 ≤ g ∧ g < 4) := by
 unfold asked
 by_cases h : 0 ≤ g ∧ g < 4
 ·rw [if_pos h]; exact .inr ⟨rfl, h⟩
 ·rw [if_neg h]; exact .inl ⟨rfl, h⟩
theorem log_may {l : List ByteArray} (h : LM.chk l = 0) : (∀ c ∈ LM.cmds l, CM.may c) ∧ (LM.cmds l).length ≤ 200 := by
 refine ⟨fun x hx => ?_, by rw [LM.cmds, List.length_map]; exact (LM.chk_zero.1 h).1⟩
 obtain ⟨s, hs, rfl⟩ := List.mem_map.1 hx
 exact (LM.cm_may ((LM.chk_zero.1 h).2 s hs)).1
def PoQ (r : Int) (g : Int) (cs : List Cm) (w : World) (x : Ending) (w' : World) : Prop :=
 Below w.heap.size w w' ∧ ((r ≠ 0 ∧ x = .returned (.tuple #[.nilFunc, .int .i64 r])) ∨ (r = 0 ∧ ∃ v, x = .returned (.tuple #[v, .int .i64 0]) ∧ PlrIs w' v g cs))
def PoIs (g : Int) (l : List ByteArray) (w : World) : Ending → World → Prop := PoQ (asked g l) g (LM.cmds l) w
theorem poQ_bad {r g : Int} {cs : List Cm} {w w' : World} (h : r ≠ 0) (hb : Below w.heap.size w w') : PoQ r g cs w (.returned (.tuple #[.nilFunc, .int .i64 r])) w' := ⟨hb, .inl ⟨h, rfl⟩⟩
theorem poQ_ok {g : Int} {cs : List Cm} {w w' : World} {v : Value} (hb : Below w.heap.size w w') (h : PlrIs w' v g cs) : PoQ 0 g cs w (.returned (.tuple #[v, .int .i64 0])) w' := ⟨hb, .inr ⟨rfl, v, rfl, h⟩⟩
theorem playerOf_any (g : Int) (A : Option Addr) (n c : Nat) (l : List ByteArray) (w : World) (h : TxIs w A n c l) : Calls Tryz.prog 30 #[.int .i64 g, .slice A n c] w (PoIs g l w) := by
 have HC := h! (fun W (hb : Below w.heap.size w W) => pcommands_any A n c l W (h.below hb))
 have HA := h! (asked_cases g l)
 unfold PoIs
 obtain ⟨r, hr⟩ : ∃ r, r = asked g l := ⟨_, rfl⟩
 rw [← hr] at HA ⊢
 unfold CoIs at HC
 obtain ⟨y, hy⟩ : ∃ y, y = LM.chk l := ⟨_, rfl⟩
 rw [← hy] at HA HC
 obtain ⟨cs, hcs⟩ : ∃ cs, cs = LM.cmds l := ⟨_, rfl⟩
 rw [← hcs] at HC ⊢
 clear h hr hy hcs
 obtain ⟨p, hp⟩ : ∃ p, w.heap.size = p := ⟨_, rfl⟩
 have HB := h! (show Below w.heap.size w (w.alloc (.cells #[.int .i64 g] 3)) from (Below.refl _ _).alloc n! _)
 have X := h! (Box.new_at (w := w) (t := 3) (cs := #[.int .i64 g]) p hp)
 go_enter Tryz.func30, Tryz.ntmps30
 go_upto_region 1 with (fail)
 generalize w.alloc (.cells #[.int .i64 g] 3) = w1 at HB X ⊢
 have x0 := X.out.cell 0
 simp at x0
 rcases HA.out with ⟨rfl, h2⟩ | ⟨rfl, h2⟩
 ·by_cases h3 : g < 0
  ·go_wp2_with fail
   go_ret2
   exact poQ_bad (by decide) HB.out
  ·have h4 : 4 ≤ g := by omega
   go_wp2_with fail
   go_ret2
   exact poQ_bad (by decide) HB.out
 ·have h3 : ¬ g < 0 := by omega
  have h4 : ¬ 4 ≤ g := by omega
  go_wp2_with fail
  refine (HC.out _ HB.out).mono ?_
  rintro e w2 ⟨hb, ⟨h0, rfl⟩ | ⟨h0, v, rfl, hv⟩⟩
  ·have hk : (r == 0) = false := by simpa using h0
   have HB2 := h! (bmore HB.out hb n!)
   clear hb
   go_wp2_with fail
   go_ret2
   exact poQ_bad h0 (bmore HB2.out ((Below.refl _ _).alloc n! _) n!)
  ·subst h0
   obtain ⟨q, hq⟩ : ∃ q, w2.heap.size = q := ⟨_, rfl⟩
   have HB2 := h! (bmore HB.out hb n!)
   have X2 := h! (X.out.below hb X.out.lt)
   obtain ⟨A2, n2, c2, rfl⟩ : ∃ A2 n2 c2, v = .slice A2 n2 c2 := by
    obtain ⟨_, _, ho, _⟩ := hv
    obtain ⟨A2, c2, e, _⟩ := own_form ho
    exact ⟨_, _, _, e⟩
   have HV := h! hv
   clear hb hv
   go_wp2_with fail
   go_ret2
   exact poQ_ok (bmore HB2.out ((Below.refl _ _).alloc n! _) n!) ⟨q, p, _, _, rfl, Box.new_at _ hq, X2.out.alloc _, HV.out.below ((Below.refl _ _).alloc n! _)⟩
theorem pplay_any (PA : PApply) (N : FuncId) (caps : Array Value) (g : Int) (cs : List Cm) (W0 w : World) (R : Nat → (Nat → Prop) → World → Prop) (X0 : Nat → Prop) (pc pg b0 : Nat) (sv : Value)
  (h1 : Box W0 pc 73 #[sv]) (h2 : Box W0 pg 3 #[.int .i64 g]) (h3 : CmsO W0 b0 sv cs) (hb : Below W0.heap.size W0 w) (hS : See N caps g cs W0 w.heap.size R) (hr0 : R 0 X0 w) (hX : ∀ q, X0 q → W0.heap.size ≤ q) (hg : 0 ≤ g ∧ g < 4) (hcs : ∀ c ∈ cs, CM.may c) :
  Calls Tryz.prog 56 #[.func (.func N) #[] caps, .pointer (some ⟨pc, 0, none⟩), .pointer (some ⟨pg, 0, none⟩)] w fun x w' => x = .returned (.tuple #[]) ∧ ∃ X', R cs.length X' w' ∧ KpX X0 w w' ∧ ∀ q, X' q → X0 q ∨ w.heap.size ≤ q := by
 obtain ⟨es, hes, hRow, hRs⟩ := cmsO_row h3
 obtain ⟨AA, cap, rfl, hAt⟩ := hRow.any
 obtain ⟨n, hn⟩ : ∃ n, n = es.length := ⟨_, rfl⟩
 have hn63 : n ≤ 9223372036854775807 := by
  obtain ⟨l, hl, ho, _⟩ := h3
  obtain ⟨A', c', e, k1, k2⟩ := own_form ho
  injection e with _ e _
  unfold maxLen at k2
  omega
 rw [← hn] at h1
 have HN := h! hn
 have HES := h! hes
 have HAT := h! hAt
 have HRS := h! hRs
 have H1 := h! h1
 have H2 := h! h2
 have HB := h! hb
 have HS := h! hS
 have HR := h! hr0
 have HX := h! hX
 have HC := h! hcs
 have HW := h! hb.size
 have hlen : cs.length = n := by rw [← hes, hn, List.length_map]
 have HLN := h! hlen
 have HMay := h! (fun k (hk : k ≤ n) => show KM.may (stA g cs k) from (OM.inv hg fun c hc => hcs c (List.mem_of_mem_take hc)).m)
 clear hn hes hRow hRs hAt h1 h2 h3 hb hS hr0 hX hcs hlen
 go_enter Tryz.func56, Tryz.ntmps56
 go_wp2_with fail
 refine (pnew15_any _).mono ?_
 rintro e w1 ⟨v, rfl, ⟨vw, vd, rfl, k1, k2⟩, hb1⟩
 obtain ⟨A4, c4, rfl, _⟩ := k1.g
 obtain ⟨B4, d4, rfl, _, _⟩ := own_form k2
 obtain ⟨vw, hvw⟩ : ∃ vw, vw = Value.slice A4 KM.zero.ws.length c4 := ⟨_, rfl⟩
 obtain ⟨vd, hvd⟩ : ∃ vd, vd = Value.slice B4 KM.zero.ds.length d4 := ⟨_, rfl⟩
 unfold vsk
 rw [← hvw] at k1
 rw [← hvd] at k2
 obtain ⟨p, hp⟩ : ∃ p, w1.heap.size = p := ⟨_, rfl⟩
 have hal : Below w1.heap.size w1 (w1.alloc (.cells #[.int .i64 KM.zero.c, vw, vd] 39)) := b!
 have HP := h! (show PlR g cs W0 w X0 R p 0 X0 vw vd (w1.alloc (.cells #[.int .i64 KM.zero.c, vw, vd] 39)) from by
  have hb2 := bmore hb1 hal n!
  refine ⟨bmore HB.out hb2 n!, by rw [← hp]; exact hb1.size, HS.out.keep _ _ _ _ HR.out hb2 (Kept.of_below hb2), KpX.of_below hb2, fun q hq => .inl hq, fun hq => ?_, Box.new_at _ hp, ?_⟩
  ·have := HS.out.lt _ _ _ HR.out _ hq
   have := hb1.size
   omega
  ·refine (stb_sk (b := w.heap.size) ⟨vw, vd, rfl, k1, k2⟩ fun q hq => ?_).below hal
   rcases hq with hq | hq
   ·exact .inl (HS.out.lt _ _ _ HR.out _ hq)
   ·exact .inr (by omega))
 rw [hvw, hvd] at HP
 clear k1 k2 hal
 go_upto_region 1 with (fail)
 generalize w1.alloc (.cells #[.int .i64 KM.zero.c, .slice A4 KM.zero.ws.length c4, .slice B4 KM.zero.ds.length d4] 39) = w2 at HP ⊢
 rw [← hvw, ← hvd] at HP
 clear hvw hvd
 try simp only [hp]
 have HB2 := h! HP.out.b0
 have c0 := (H1.out.below HB2.out H1.out.lt).cell 0
 simp at c0
 clear hp hb1
 go_wp2_with fail
 clear c0
 go_loopw [13] (fun i wr => ∃ (k : Nat) (X : Nat → Prop) (vw vd : Value), k ≤ n ∧ i = .int .i64 k ∧ Hid (PlR g cs W0 w X0 R p k X vw vd wr)) (fun i _ => n - (intOf i).toNat)
 case atStart => exact ⟨0, X0, vw, vd, by omega, rfl, HP⟩
 case round =>
  clear HP HB2
  obtain ⟨k, X, vw, vd, hk, rfl, HP⟩ := hrel
  by_cases hlt : k < n
  ·obtain ⟨e, he⟩ : ∃ e, es[k]? = some e := ⟨_, List.getElem?_eq_getElem (by have := HN.out; omega)⟩
   have HE := h! (show cs[k]? = some e.x by rw [← HES.out, List.getElem?_map, he]; rfl)
   have HRE := h! (HRS.out e (List.mem_of_getElem? he))
   have HCM := h! (HC.out e.x (List.mem_of_getElem? HE.out))
   have HM := h! (HMay.out k hk)
   obtain ⟨bl, off, rfl, hbl, hat⟩ := HAT.out k e he
   obtain ⟨y0, y1, y2, y3, y4, y5, y6, y7, y8, y9, y10, y11⟩ := hat.below hbl HP.out.b0
   have pg0 := (H2.out.below HP.out.b0 H2.out.lt).cell 0
   have pg1 := (H2.out.below HP.out.b0 H2.out.lt)
   have HPG := h! pg1
   clear he hat pg1
   obtain ⟨A, c, B, d, x⟩ := e
   obtain ⟨xx, hxx⟩ : ∃ xx, xx = x := ⟨_, rfl⟩
   rw [← hxx] at HE HRE HCM
   have HXX := h! hxx
   obtain ⟨ck, ⟨ai, ag, at_, ak, ab⟩, bid, btm, bms, btp, bwh, bn⟩ := x
   simp only at y0 y1 y2 y3 y4 y5 y6 y7 y8 y9 y10 y11 HRE
   simp at pg0
   clear hxx
   have hk0 : (0 : Int) ≤ (k : Int) := by omega
   have hkn : (k : Int) < (n : Int) := by omega
   obtain ⟨A5, a5, B5, b5, n5, m5, rfl, rfl⟩ := skIs_form HP.out.st.at_
   obtain ⟨sc, hsc⟩ : ∃ sc, sc = (stA g cs k).c := ⟨_, rfl⟩
   have HSC := h! hsc
   have HSK := h! (fun W (hb : Below wr.heap.size wr W) => show SkIs W (.agg #[.int .i64 sc, .slice A5 n5 a5, .slice B5 m5 b5]) (stA g cs k) from by rw [hsc]; exact (HP.out.st.at_).below hb)
   have BX := h! (show Box wr p 39 #[.int .i64 sc, .slice A5 n5 a5, .slice B5 m5 b5] from by rw [hsc]; exact HP.out.bx)
   have HRA := h! (show RowIs W0 A c xx.m.gs ∧ RowIs W0 B d xx.ms from ⟨HRE.out.1, HRE.out.2.1⟩)
   obtain ⟨RR, hRR⟩ : ∃ RR, RR = KM.applyF (stA g cs k) g xx := ⟨_, rfl⟩
   have HRR := h! hRR
   have KA := h! (fun W (hb : Below wr.heap.size wr W) => show Calls Tryz.prog 57 #[.agg #[.int .i64 sc, .slice A5 n5 a5, .slice B5 m5 b5], .int .i64 g, .agg #[.int .u8 ck, .int .i64 ai, .slice A ag.length c, .int .i64 at_, .string ak, .string ab, .int .i64 bid, .int .i64 btm, .slice B bms.length d, .int .i64 btp, .int .i64 bwh, .int .i64 bn]] W (ApIs RR W) from by
    rw [hRR]
    exact PA _ _ _ _ _ _ (HSK.out W hb) (fit_may HM.out) ⟨A, c, B, d, by rw [HXX.out]; rfl, (HRA.out.1.below HP.out.b0).below hb, (HRA.out.2.below HP.out.b0).below hb⟩ (cm_fit HCM.out).1 (Nat.le_trans (cm_fit HCM.out).2 (by decide)))
   have HB3 := h! (show Below wr.heap.size wr (wr.alloc (.cells #[.int .u8 ck, .int .i64 ai, .slice A ag.length c, .int .i64 at_, .string ak, .string ab, .int .i64 bid, .int .i64 btm, .slice B bms.length d, .int .i64 btp, .int .i64 bwh, .int .i64 bn] 91)) from (Below.refl _ _).alloc n! _)
   have Y := h! (Box.new wr 91 #[.int .u8 ck, .int .i64 ai, .slice A ag.length c, .int .i64 at_, .string ak, .string ab, .int .i64 bid, .int .i64 btm, .slice B bms.length d, .int .i64 btp, .int .i64 bwh, .int .i64 bn])
   clear hsc hRR
   go_upto_region 4 with (fail)
   clear y0 y1 y2 y3 y4 y5 y6 y7 y8 y9 y10 y11 pg0
   generalize wr.alloc (.cells #[.int .u8 ck, .int .i64 ai, .slice A ag.length c, .int .i64 at_, .string ak, .string ab, .int .i64 bid, .int .i64 btm, .slice B bms.length d, .int .i64 btp, .int .i64 bwh, .int .i64 bn] 91) = w3 at HB3 Y ⊢
   have HLT := h! (Y.out.lt)
   obtain ⟨p3, hp3⟩ : ∃ p3, wr.heap.size = p3 := ⟨_, rfl⟩
   rw [hp3] at Y HLT
   simp only [hp3]
   have HP3 := h! hp3
   clear hp3
   obtain ⟨x0, x1, x2⟩ := box_sk (BX.out.below HB3.out BX.out.lt)
   have y0 := Y.out.cell 0
   have y1 := Y.out.cell 1
   have y2 := Y.out.cell 2
   have y3 := Y.out.cell 3
   have y4 := Y.out.cell 4
   have y5 := Y.out.cell 5
   have y6 := Y.out.cell 6
   have y7 := Y.out.cell 7
   have y8 := Y.out.cell 8
   have y9 := Y.out.cell 9
   have y10 := Y.out.cell 10
   have y11 := Y.out.cell 11
   have z0 := (HPG.out.below HB3.out HPG.out.lt).cell 0
   simp at y0 y1 y2 y3 y4 y5 y6 y7 y8 y9 y10 y11 z0
   go_wp2_with fail
   refine (KA.out _ HB3.out).mono ?_
   rintro e w4 ⟨v, vm, rfl, ⟨vw6, vd6, rfl, k1, k2⟩, km, hb4⟩
   clear x0 x1 x2 y0 y1 y2 y3 y4 y5 y6 y7 y8 y9 y10 y11 z0 KA
   by_cases hp : (KM.putF (stA g cs k) g xx).2.2 = true
   rotate_left
   ·have HO := h! (one_no hp)
    have hR2 : RR.2.2 = 9 := by rw [HRR.out, ap_no HM.out hg HCM.out hp]
    rw [hR2]
    obtain ⟨A6, c6, rfl, _⟩ := k1.g
    obtain ⟨B6, d6, rfl, _, _⟩ := own_form k2
    have HBB := h! (bmore HB3.out hb4 n!)
    clear k1 k2 km hb4 hp hR2
    unfold vsk
    go_upto_region 5 with (fail)
    have HBC := h! (bmore HBB.out ((Below.refl w4.heap.size w4).alloc n! (.cells #[.int .i64 RR.1.c, .slice A6 RR.1.ws.length c6, .slice B6 RR.1.ds.length d6] 39)) n!)
    go_wp2_with fail
    go_roundw
    case rel => exact ⟨k + 1, X, _, _, by omega, by go_num, h! (HP.out.skip HS.out HE.out HO.out HBC.out)⟩
    case measure => simp [intOf]; omega
   ·have hR2 : RR.2.2 = 0 := by rw [HRR.out, ap_yes HM.out hg HCM.out hp]
    have hR1 : RR.1 = (KM.putF (stA g cs k) g xx).1 := by rw [HRR.out, ap_yes HM.out hg HCM.out hp]
    have hR3 : RR.2.1 = (KM.putF (stA g cs k) g xx).2.1 := by rw [HRR.out, ap_yes HM.out hg HCM.out hp]
    rw [hR2]
    have HPP := h! hp
    rw [hR3] at km
    rw [hR1] at k1 k2
    rw [hR1]
    obtain ⟨S2, hS2⟩ : ∃ S2, S2 = (KM.putF (stA g cs k) g xx).1 := ⟨_, rfl⟩
    rw [← hS2] at k1 k2
    rw [← hS2]
    have HS2 := h! hS2
    obtain ⟨O2, hO2⟩ : ∃ O2, O2 = (KM.putF (stA g cs k) g xx).2.1 := ⟨_, rfl⟩
    rw [← hO2] at km
    have HO2 := h! hO2
    obtain ⟨A7, c7, rfl, _⟩ := km.g
    have K1 := h! k1
    have K2 := h! k2
    have KM_ := h! km
    obtain ⟨A6, c6, rfl, _⟩ := k1.g
    obtain ⟨B6, d6, rfl, _, _⟩ := own_form k2
    have HBB := h! (bmore HB3.out hb4 n!)
    have HB4 := h! hb4
    clear k1 k2 km hb4 hp hR2 hR1 hR3 hS2 hO2
    unfold vsk
    have hal := ((Below.refl w4.heap.size w4).alloc n! (.cells #[.int .i64 S2.c, .slice A6 S2.ws.length c6, .slice B6 S2.ds.length d6] 39))
    have Z := h! (Box.new w4 39 #[.int .i64 S2.c, .slice A6 S2.ws.length c6, .slice B6 S2.ds.length d6])
    have HBC := h! (bmore HBB.out hal n!)
    have HB5 := h! hal
    clear hal
    go_upto_region 5 with (fail)
    generalize w4.alloc (.cells #[.int .i64 S2.c, .slice A6 S2.ws.length c6, .slice B6 S2.ds.length d6] 39) = w5 at Z HBC HB5 ⊢
    obtain ⟨p4, hp4⟩ : ∃ p4, w4.heap.size = p4 := ⟨_, rfl⟩
    rw [hp4] at Z
    simp only [hp4]
    have HP4 := h! hp4
    clear hp4
    have HPM := h! (HP.out.more HS.out HBC.out)
    have HXB := h! (show ∀ q, X q → q < w3.heap.size from fun q hq => by have := HS.out.lt _ _ _ HP.out.r q hq; have := HB3.out.size; omega)
    have HSO := h! (show SkO w5 w3.heap.size (vsk (KM.putF (stA g cs k) g xx).1.c (.slice A6 S2.ws.length c6) (.slice B6 S2.ds.length d6)) (KM.putF (stA g cs k) g xx).1 from by rw [← HS2.out]; exact SkO.below ⟨_, _, rfl, K1.out, K2.out⟩ HB5.out)
    have HGO := h! (show Calls Tryz.prog N (#[.agg #[.int .u8 ck, .int .i64 ai, .slice A ag.length c, .int .i64 at_, .string ak, .string ab, .int .i64 bid, .int .i64 btm, .slice B bms.length d, .int .i64 btp, .int .i64 bwh, .int .i64 bn, .int .i64 sc, .slice A5 n5 a5, .slice B5 m5 b5, .int .i64 S2.c, .slice A6 S2.ws.length c6, .slice B6 S2.ds.length d6, .slice A7 O2.length c7]] ++ caps) w5 (fun x W' => x = .returned (.tuple #[]) ∧ ∃ X', R (k + 1) X' W' ∧ KpX X w5 W' ∧ ∀ q, X' q → X q ∨ w5.heap.size ≤ q) from by
     have q := HS.out.go k ⟨A, c, B, d, xx⟩ X w5 (.slice A5 n5 a5) (.slice B5 m5 b5) (.slice A6 S2.ws.length c6) (.slice B6 S2.ds.length d6) (.slice A7 O2.length c7) w3.heap.size HE.out HPP.out HPM.out.r HPM.out.b0 HRA.out.1 HRA.out.2
      (by rw [← HSC.out]; exact HSK.out _ HBC.out) HXB.out (by have := HB4.out.size; have := HB5.out.size; omega) (Nat.le_trans HP.out.kp.size HB3.out.size) HSO.out (by rw [← HO2.out]; exact KM_.out.below HB5.out)
     unfold scells at q
     rw [← HSC.out, ← HS2.out] at q
     simp only [HXX.out] at q
     exact q)
    obtain ⟨x0, x1, x2⟩ := box_sk (HPM.out.bx)
    rw [← HSC.out] at x0
    obtain ⟨z0, z1, z2⟩ := box_sk Z.out
    have Y5 := (Y.out.below (bmore (Below.refl _ _) HB4.out n!) Y.out.lt).below HB5.out (by have := Y.out.lt; have := HB4.out.size; omega)
    have y0 := Y5.cell 0
    have y1 := Y5.cell 1
    have y2 := Y5.cell 2
    have y3 := Y5.cell 3
    have y4 := Y5.cell 4
    have y5 := Y5.cell 5
    have y6 := Y5.cell 6
    have y7 := Y5.cell 7
    have y8 := Y5.cell 8
    have y9 := Y5.cell 9
    have y10 := Y5.cell 10
    have y11 := Y5.cell 11
    simp at y0 y1 y2 y3 y4 y5 y6 y7 y8 y9 y10 y11
    clear Y5
    have hen := HS.out.en
    go_wp2_with fail
    refine (HGO.out).mono ?_
    clear x0 x1 x2 z0 z1 z2 y0 y1 y2 y3 y4 y5 y6 y7 y8 y9 y10 y11 hen HGO
    rintro e w6 ⟨rfl, X', hR, hK, hX⟩
    have HST := h! (show PlR g cs W0 w X0 R p (k + 1) X' (.slice A6 S2.ws.length c6) (.slice B6 S2.ds.length d6) (((w6.setCell ⟨p, 0, none⟩ (.int .i64 S2.c)).setCell ⟨p, 1, none⟩ (.slice A6 S2.ws.length c6)).setCell ⟨p, 2, none⟩ (.slice B6 S2.ds.length d6)) from by
     have q := HPM.out.step (q := 0) HS.out HX.out HW.out HE.out HPP.out hR hK hX HSO.out HXB.out (by have := BX.out.lt; have := HB3.out.size; omega)
     rw [← HS2.out] at q
     exact q)
    obtain ⟨z0, z1, z2⟩ := box_sk (hK.box Z.out (fun q => by have := HS.out.lt _ _ _ HP.out.r _ q; have := HB3.out.size; have := HB4.out.size; have := HP4.out; omega))
    obtain ⟨x0, x1, x2, f0, f1, f2⟩ := (hK.box HPM.out.bx HP.out.xp).three
    clear hR hK hX
    go_wp2_with fail
    go_roundw
    case rel => exact ⟨k + 1, X', _, _, by omega, by go_num, HST⟩
    case measure => simp [intOf]; omega
  ·obtain rfl : n = k := by omega
   go_wp2_with fail
   go_end0
   exact ⟨rfl, X, by rw [HLN.out]; exact HP.out.r, HP.out.kp, HP.out.xs⟩
def toWt (p : Int × Mg) : Wt := ⟨p.2, p.1, false⟩
def KX {α : Type} (K : Kd α) (W0 w : World) (b : Nat) (T : TypeId) (v : Value) (l : List α) : Prop :=
 ∃ es : List (Ex α), es.map Ex.x = l ∧ w.ownsRow b T K.s v es.length (flat (exc K) es) ∧ ∀ e ∈ es, RowIs W0 e.A e.c (K.gs e.x)
section
variable {α : Type} {K : Kd α} {W0 w w' : World} {b : Nat} {T : TypeId} {v : Value} {l : List α}
theorem KX.kept {S : TypeId → Prop} (h : KX K W0 w b T v l) (k : Kept S w w') (hT : ¬ S T) : KX K W0 w' b T v l := by
 obtain ⟨es, h1, h2, h3⟩ := h
 exact ⟨es, h1, k.own h2 hT, h3⟩
theorem KX.below (h : KX K W0 w b T v l) (hb : Below w.heap.size w w') : KX K W0 w' b T v l := by
 obtain ⟨es, h1, h2, h3⟩ := h
 exact ⟨es, h1, own_below3 h2 hb, h3⟩
theorem KX.blk (h : KX K W0 w b T v l) {g : Nat} (hg : v.ownBlock = some g) : b ≤ g ∧ g < w.heap.size := by
 obtain ⟨es, _, h2, _⟩ := h
 obtain ⟨h3, cur, hc⟩ := own_block h2 hg
 exact ⟨h3, hc.lt⟩
theorem KX.form (h : KX K W0 w b T v l) : ∃ A c, v = .slice A l.length c ∧ l.length ≤ c ∧ c ≤ maxLen := by
 obtain ⟨es, rfl, h2, h3⟩ := h
 obtain ⟨A, c, rfl, h4, h5⟩ := own_form h2
 exact ⟨A, c, by rw [List.length_map], by rw [List.length_map]; exact h4, h5⟩
theorem KX.r {A : Option Addr} {n c : Nat} (h : KX K W0 w b T (.slice A n c) l) (hb : Below W0.heap.size W0 w) : KR K w A n c l := by
 obtain ⟨es, h1, h2, h3⟩ := h
 have hn : n = es.length := by
  obtain ⟨A', c', e, _⟩ := own_form h2
  injection e
 obtain ⟨A', c', e, h4, h5⟩ := own_form h2
 injection e with e1 e2 e3
 subst e1 e3
 rw [← hn] at h2 h4
 exact ⟨es, h1, rdg_own h2, hn.symm, h4, h5, fun e he => (h3 e he).below hb⟩
theorem KX.len {A : Option Addr} {n c : Nat} (h : KX K W0 w b T (.slice A n c) l) : n = l.length := by
 obtain ⟨_, _, e, _, _⟩ := h.form
 injection e
variable (K) in
theorem kX_nil (W0 w : World) (b : Nat) (T : TypeId) : KX K W0 w b T (.slice none 0 0) [] := ⟨[], rfl, World.ownsRow_nil _ _ _ _, fun e he => by cases he⟩
theorem wpList_append_kx {P : Program} {ops : Array Oper} {rest : List Oper} {o : Oper} {a : Act} {Q : Exit → Act → World → Prop} {w0 : World} {A9 : Option Addr} {n9 c9 : Nat} {x : α} {A : Option Addr} {c : Nat}
  (hgd : o.guard = none) (so xo : Operand) (t : TypeId) (ho : o.op = .call { callee := .builtin .append, args := #[so, xo], argTypes := #[t, t] })
  (T' : TypeId) (i : TypeInfo) (z : Value) (bytes : Nat) (ht : P.underlying t = some (.slice T)) (hi : P.info? T = some i) (hz : i.zero = some z) (hsize : i.size = K.s) (hby : i.bytes = bytes) (hzs : z.cells.size = K.s)
  (hs : a.eval so = .slice A9 n9 c9) (hko : KX K W0 w0 b T (.slice A9 n9 c9) l) (hx : a.eval xo = .slice (some ⟨w0.heap.size, 0, none⟩) 1 1) (cs : Array Value) (hcs : cs.toList = K.cel A c x)
  (hrow : RowIs W0 A c (K.gs x)) (h63 : n9 + 1 ≤ maxLen) (hbytes : (n9 + 1) * bytes ≤ 140737488355328) (hb : b ≤ w0.heap.size)
  (h : ∀ A' c' w', KX K W0 w' b T (.slice A' (n9 + 1) c') (l ++ [x]) → (w0.alloc (.cells cs T')).grownBy w' (Value.slice A9 n9 c9).ownBlock →
   ((Value.slice A' (n9 + 1) c').ownBlock = (Value.slice A9 n9 c9).ownBlock ∨ (Value.slice A' (n9 + 1) c').ownBlock = some (w0.alloc (.cells cs T')).heap.size) → wpList P ops Q rest (a.put o.dst (.slice A' (n9 + 1) c')) w') :
  wpList P ops Q (o :: rest) a (w0.alloc (.cells cs T')) := by
 have hb0 : Below w0.heap.size w0 (w0.alloc (.cells cs T')) := b!
 obtain ⟨es, hl, ho1, hr⟩ := hko
 have hn : n9 = es.length := by
  obtain ⟨A', c', e, _⟩ := own_form ho1
  injection e
 rw [← hn] at ho1
 refine wpList_append_g _ hgd so xo t ho b T i z K.s bytes ht hi hz hsize hby hzs K.pos (.slice A9 n9 c9) n9 (flat (exc K) es) hs (own_below3 ho1 hb0) (some ⟨w0.heap.size, 0, none⟩) 1 1 (K.cel A c x) hx
  (rdG_box (s := K.s) (n := 1) (Box.new w0 T' cs) hcs (by rw [K.len]; omega)) (K.one _ _ _) h63 hbytes (Nat.le_trans hb hb0.size) ?_
 intro v' w' hown hgr hob
 obtain ⟨A', c', rfl, _, _⟩ := own_form hown
 refine h A' c' w' ⟨es ++ [⟨A, c, x⟩], by simp [hl], ?_, fun e he => ?_⟩ hgr hob
 ·rw [flat_append, flat_one, List.length_append, ← hn]; exact hown
 ·rcases List.mem_append.1 he with he | he
  ·exact hr e he
  ·obtain rfl := List.mem_singleton.1 he
   exact hrow
end
def CX (W0 w : World) (b : Nat) (v : Value) (l : List Cm) : Prop :=
 ∃ es : List El, es.map (fun e => e.x) = l ∧ w.ownsRow b 91 12 v es.length (ecells es) ∧ ∀ e ∈ es, RowIs W0 e.A e.c e.x.m.gs ∧ RowIs W0 e.B e.d e.x.ms
section
variable {W0 w w' : World} {b : Nat} {v : Value} {l : List Cm}
theorem CX.kept {S : TypeId → Prop} (h : CX W0 w b v l) (k : Kept S w w') (hT : ¬ S 91) : CX W0 w' b v l := by
 obtain ⟨es, h1, h2, h3⟩ := h
 exact ⟨es, h1, k.own h2 hT, h3⟩
theorem CX.below (h : CX W0 w b v l) (hb : Below w.heap.size w w') : CX W0 w' b v l := by
 obtain ⟨es, h1, h2, h3⟩ := h
 exact ⟨es, h1, own_below3 h2 hb, h3⟩
theorem CX.blk (h : CX W0 w b v l) {g : Nat} (hg : v.ownBlock = some g) : b ≤ g ∧ g < w.heap.size := by
 obtain ⟨es, _, h2, _⟩ := h
 obtain ⟨h3, cur, hc⟩ := own_block h2 hg
 exact ⟨h3, hc.lt⟩
theorem CX.form (h : CX W0 w b v l) : ∃ A c, v = .slice A l.length c ∧ l.length ≤ c ∧ c ≤ maxLen := by
 obtain ⟨es, rfl, h2, h3⟩ := h
 obtain ⟨A, c, rfl, h4, h5⟩ := own_form h2
 exact ⟨A, c, by rw [List.length_map], by rw [List.length_map]; exact h4, h5⟩
theorem CX.len {A : Option Addr} {n c : Nat} (h : CX W0 w b (.slice A n c) l) : n = l.length := by
 obtain ⟨_, _, e, _, _⟩ := h.form
 injection e
theorem cX_nil (W0 w : World) (b : Nat) : CX W0 w b (.slice none 0 0) [] := ⟨[], rfl, World.ownsRow_nil _ _ _ _, fun e he => by cases he⟩
theorem wpList_append_cx {ops : Array Oper} {rest : List Oper} {o : Oper} {a : Act} {Q : Exit → Act → World → Prop} {w0 : World} {A9 : Option Addr} {n9 c9 : Nat} {e : El}
  (hgd : o.guard = none) (so xo : Operand) (t : TypeId) (ho : o.op = .call { callee := .builtin .append, args := #[so, xo], argTypes := #[t, t] })
  (T' : TypeId) (i : TypeInfo) (z : Value) (ht : Tryz.prog.underlying t = some (.slice 91)) (hi : Tryz.prog.info? 91 = some i) (hz : i.zero = some z) (hsize : i.size = 12) (hby : i.bytes = 144) (hzs : z.cells.size = 12)
  (hs : a.eval so = .slice A9 n9 c9) (hko : CX W0 w0 b (.slice A9 n9 c9) l) (hx : a.eval xo = .slice (some ⟨w0.heap.size, 0, none⟩) 1 1) (cs : Array Value) (hcs : cs.toList = ecell e)
  (hrow : RowIs W0 e.A e.c e.x.m.gs ∧ RowIs W0 e.B e.d e.x.ms) (h63 : n9 + 1 ≤ maxLen) (hbytes : (n9 + 1) * 144 ≤ 140737488355328) (hb : b ≤ w0.heap.size)
  (h : ∀ A' c' w', CX W0 w' b (.slice A' (n9 + 1) c') (l ++ [e.x]) → (w0.alloc (.cells cs T')).grownBy w' (Value.slice A9 n9 c9).ownBlock →
   ((Value.slice A' (n9 + 1) c').ownBlock = (Value.slice A9 n9 c9).ownBlock ∨ (Value.slice A' (n9 + 1) c').ownBlock = some (w0.alloc (.cells cs T')).heap.size) → wpList Tryz.prog ops Q rest (a.put o.dst (.slice A' (n9 + 1) c')) w') :
  wpList Tryz.prog ops Q (o :: rest) a (w0.alloc (.cells cs T')) := by
 have hb0 : Below w0.heap.size w0 (w0.alloc (.cells cs T')) := b!
 obtain ⟨es, hl, ho1, hr⟩ := hko
 have hn : n9 = es.length := by
  obtain ⟨A', c', e, _⟩ := own_form ho1
  injection e
 rw [← hn] at ho1
 refine wpList_append_g _ hgd so xo t ho b 91 i z 12 144 ht hi hz hsize hby hzs (by omega) (.slice A9 n9 c9) n9 (ecells es) hs (own_below3 ho1 hb0) (some ⟨w0.heap.size, 0, none⟩) 1 1 (ecell e) hx
  (rdG_box (s := 12) (n := 1) (Box.new w0 T' cs) hcs (by rw [ecell_len])) (ecell_one e) h63 hbytes (Nat.le_trans hb hb0.size) ?_
 intro v' w' hown hgr hob
 obtain ⟨A', c', rfl, _, _⟩ := own_form hown
 refine h A' c' w' ⟨es ++ [e], by simp [hl], ?_, fun e' he => ?_⟩ hgr hob
 ·rw [ecells_snoc, List.length_append, ← hn]; exact hown
 ·rcases List.mem_append.1 he with he | he
  ·exact hr e' he
  ·obtain rfl := List.mem_singleton.1 he
   exact hrow
end
end KP
end Go.Proofs.YteebeiaokfenmaaGreat
